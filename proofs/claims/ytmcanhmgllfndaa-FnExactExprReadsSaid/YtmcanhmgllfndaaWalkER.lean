/-
  The exact law FnExactExprReads, walked.
-/
import Derived.Test.YtmcanhmgllfndaaReadsS
import Derived.Test.YtmcanhmgllfndaaTreeK
import Derived.Test.YtmcanhmgllfndaaStrK
import Derived.Deep.RegionHeld3
namespace Go.Proofs.Ytmcanhmgllfndaa
set_option linter.unusedVariables false
open Go.RowKit

theorem reads_len (k : Int) (s : ByteArray) (ks : Fo) : (readsE k s ks).length ≤ 20 := by
  unfold readsE
  split
  · rename_i hv
    have h1 := uniqN_length (rd1 k ks) []
    have h2 := rd1_length k ks
    have h3 := (valid_good hv).2.2
    simp only [List.length_nil] at h1
    omega
  · simp
theorem mk_below {L B : Nat} {w w' : World} (h : MkStep L B w w') (hL : L ≤ w.heap.size) : Below L w w' := ⟨h.os, h.tape, h.output, h.size, fun g hg => h.out g (by omega) (.inl hg)⟩
theorem bx_below {w w' : World} {n g : Nat} {k : Int} {s : ByteArray} {v : Value} {T : TypeId} (h : BxE w g k s v T) (hb : Below n w w') (hg : g < n) : BxE w' g k s v T := (hb.block g hg).trans h
theorem strs_mk {L B : Nat} {w w' : World} {v : Value} {ss : List ByteArray} (h : OwnsS w B v ss) (hm : MkStep L B w w') : OwnsS w' B v ss := by
  unfold OwnsS World.ownsRow at h ⊢
  refine ⟨h.1, ?_⟩
  rcases h.2 with h2 | ⟨g, cap, cur, rfl, h3, h4, h5⟩
  · exact .inl h2
  · exact .inr ⟨g, cap, cur, rfl, h3, (hm.out g (blk_lt h4) (.inr h3)).trans h4, h5⟩
theorem OwnsS.at2 {w : World} {B n c : Nat} {a : Option Addr} {ss : List ByteArray} (h : OwnsS w B (.slice a n c) ss) : SvAt w w.heap.size a ss.length ss := by
  obtain ⟨a', c', e, hs⟩ := h.form
  cases e
  exact hs

set_option maxRecDepth 100000 in
set_option maxHeartbeats 8000000 in
theorem walkFnExactExprReads (k : Int) (s : ByteArray) (ks : Fo) (a : Option Addr) (n c : Nat) (w : World) (h : InE w s ks a n c) :
    Calls Try.prog 7 #[.agg #[.int .i64 k, .string s, .slice a n c]] w fun e w' => e = .returned (.bool true) ∧ Below w.heap.size w w' := by
  obtain ⟨hk, hfit, hs, hnc, hn⟩ := h
  obtain rfl : ks.len = n := hk.1
  have B0 := Below.refl w.heap.size w
  have hB1 := (Below.refl w.heap.size w).alloc (Nat.le_refl _) (.cells #[.int .i64 k, .string s, .slice a ks.len c] 24)
  have B1 := B0.trans (hB1.mono B0.size)
  have hk := hk.next hB1
  have Hbx := Lib.hid (BxE.new w k s (.slice a ks.len c) 24)
  by_cases hsz : (s.size + ks.len + ks.tot : Int) ≤ 1048576
  case neg =>
    have Hz := Lib.hid (show szE 1048576 s ks = -1 from by unfold szE; rw [if_neg hsz])
    clear hsz
    go_enter Try.func7, Try.ntmps7
    go_wp2_with fail
    refine (szExpr_any k s ks a _ c 1048576 _ hk hfit hs hn (by omega) (by omega)).mono ?_
    rintro e w2 ⟨rfl, hB2⟩
    have B2 := B1.trans (hB2.mono B1.size)
    rw [Hz.out]
    go_wp2_with fail
    go_ret
    exact ⟨rfl, B2⟩
  case pos =>
  have Hz := Lib.hid (show szE 1048576 s ks = 1048576 - (s.size + ks.len + ks.tot) from by unfold szE; rw [if_pos hsz])
  have Hf := Lib.hid hfit
  have Hs := Lib.hid hs
  have Hn := Lib.hid hn
  have Hts := Lib.hid (show ks.len + ks.tot ≤ 1048576 by omega)
  have Hsize := Lib.hid (show ks.size ≤ 1048576 by have := ks.size_le; omega)
  have hpos : ¬ (1048576 - (s.size + ks.len + ks.tot : Int)) < 0 := by omega
  clear hsz hfit hs hn
  go_enter Try.func7, Try.ntmps7
  go_wp2_with fail
  refine (szExpr_any k s ks a _ c 1048576 _ hk Hf.out Hs.out Hn.out (by omega) (by omega)).mono ?_
  rintro e w2 ⟨rfl, hB2⟩
  have hk := hk.next hB2
  have Hbx := Lib.hid (Hbx.out.next hB2)
  have B2 := B1.trans (hB2.mono B1.size)
  have Hbxc0 := Hbx.out.c0
  have Hbxc1 := Hbx.out.c1
  have Hbxc2 := Hbx.out.c2
  rw [Hz.out]
  go_wp2_with fail
  have hRl := reads_len k s ks
  obtain ⟨R, hR⟩ : ∃ R, readsE k s ks = R := ⟨_, rfl⟩
  rw [hR] at hRl
  have hRm : R.length ≤ maxLen := by unfold maxLen; omega
  have HRl := Lib.hid (And.intro hRl hRm)
  clear hRl hRm
  refine (toExpr_any k s ks a _ c _ hk Hts.out).mono ?_
  rintro e w3 ⟨g2, rfl, hx, hB3⟩
  clear Hbxc0 Hbxc1 Hbxc2
  have hk := hk.next hB3
  have Hbx := Lib.hid (Hbx.out.next hB3)
  have B3 := B2.trans (hB3.mono B2.size)
  have hx := hx.more (Nat.zero_le _) (Nat.le_refl _)
  have Hbxc0 := Hbx.out.c0
  have Hbxc1 := Hbx.out.c1
  have Hbxc2 := Hbx.out.c2
  have Hc4 := Lib.hid (readsS_any k s ks _ _ ks.len _ hx Hs.out Hf.out Hn.out Hsize.out)
  clear hx
  rw [hR] at Hc4
  go_wp2_with fail
  refine Hc4.out.mono ?_
  rintro e w4 ⟨v0, rfl, ho0, hB4⟩
  obtain ⟨oa, oc, rfl, hs0⟩ := ho0.form
  clear Hbxc0 Hbxc1 Hbxc2
  have hk := hk.next hB4
  have Hbx := Lib.hid (Hbx.out.next hB4)
  have B4 := B3.trans (hB4.mono B3.size)
  clear Hc4 ho0
  have Hbxc0 := Hbx.out.c0
  have Hbxc1 := Hbx.out.c1
  have Hbxc2 := Hbx.out.c2
  have hw4 : w.heap.size + 1 ≤ w4.heap.size := by have := hB3.size; have := hB4.size; have := hB2.size; simp at *; omega
  go_wp2_with fail
  refine (toExpr_sk k s ks a _ c _ hk Hts.out).mono ?_
  rintro e w5 ⟨g4, rfl, hks, hB5⟩
  clear Hbxc0 Hbxc1 Hbxc2
  have hkL := hk.below hB5
  have hk := hk.next hB5
  have hs0 := hs0.below hB5
  have hL5 := hB5.size
  have Hbx := Lib.hid (Hbx.out.next hB5)
  have B5 := B4.trans (hB5.mono B4.size)
  have hx := hks.1.more (Nat.zero_le _) (Nat.le_refl _)
  have hsk := hks.2
  have hB6 := (Below.refl w5.heap.size w5).alloc (Nat.le_refl _) (.cells #[.int .i64 k, .string s, .slice (some ⟨g4, 0, none⟩) ks.len ks.len] 29)
  have hz6 : (w5.alloc (.cells #[.int .i64 k, .string s, .slice (some ⟨g4, 0, none⟩) ks.len ks.len] 29)).heap.size = w5.heap.size + 1 := by simp
  have hL : w4.heap.size ≤ w5.heap.size := hL5
  have hS := Nat.le_refl w5.heap.size
  have hkL := hkL.below (hB6.mono hL)
  have hs0 := hs0.below (hB6.mono hL)
  have hx := hx.next hB6
  have hsk := hsk.below (hB6.mono hS)
  have hk := hk.next hB6
  have Hbx := Lib.hid (Hbx.out.next hB6)
  have B6 := B5.trans (hB6.mono B5.size)
  have Hby := Lib.hid (BxE.new w5 k s (.slice (some ⟨g4, 0, none⟩) ks.len ks.len) 29)
  have hL := Nat.le_trans hL hB6.size
  have hS := Nat.le_trans hS hB6.size
  have Hbxc0 := Hbx.out.c0
  have Hbxc1 := Hbx.out.c1
  have Hbxc2 := Hbx.out.c2
  have Hbyc0 := Hby.out.c0
  have Hbyc1 := Hby.out.c1
  have Hbyc2 := Hby.out.c2
  have Hc7 := Lib.hid (readsI_expr k s ks _ _ ks.len _ hx Hs.out Hf.out Hn.out)
  rw [hR] at Hc7
  go_wp2_with fail
  refine Hc7.out.mono ?_
  rintro e w7 ⟨v1, rfl, ho1, hB7⟩
  have ho1 : OwnsS w7 w5.heap.size v1 R := World.ownsRow.mono ho1 (by simp)
  obtain ⟨ga, gc, rfl, hs1⟩ := ho1.form
  clear Hbxc0 Hbxc1 Hbxc2
  clear Hbyc0 Hbyc1 Hbyc2
  have hkL := hkL.below (hB7.mono hL)
  have hs0 := hs0.below (hB7.mono hL)
  have hx := hx.next hB7
  have hsk := hsk.below (hB7.mono hS)
  have hk := hk.next hB7
  have Hbx := Lib.hid (Hbx.out.next hB7)
  have Hby := Lib.hid (Hby.out.next hB7)
  have B7 := B6.trans (hB7.mono B6.size)
  have hL := Nat.le_trans hL hB7.size
  have hS := Nat.le_trans hS hB7.size
  clear Hc7
  have Hbxc0 := Hbx.out.c0
  have Hbxc1 := Hbx.out.c1
  have Hbxc2 := Hbx.out.c2
  have Hbyc0 := Hby.out.c0
  have Hbyc1 := Hby.out.c1
  have Hbyc2 := Hby.out.c2
  go_wp2_with fail
  refine (eqS_yes ga oa R.length gc oc R _ hs1 (hs0.more hL) HRl.out.2).mono ?_
  rintro e w8 ⟨rfl, hB8⟩
  clear Hbxc0 Hbxc1 Hbxc2
  clear Hbyc0 Hbyc1 Hbyc2
  have hkL := hkL.below (hB8.mono hL)
  have hs0 := hs0.below (hB8.mono hL)
  have hx := hx.next hB8
  have hsk := hsk.below (hB8.mono hS)
  have hk := hk.next hB8
  have Hbx := Lib.hid (Hbx.out.next hB8)
  have Hby := Lib.hid (Hby.out.next hB8)
  have B8 := B7.trans (hB8.mono B7.size)
  have ho1 := strs_below ho1 hB8
  have hL := Nat.le_trans hL hB8.size
  have hS := Nat.le_trans hS hB8.size
  clear hs1
  have Hbxc0 := Hbx.out.c0
  have Hbxc1 := Hbx.out.c1
  have Hbxc2 := Hbx.out.c2
  have Hbyc0 := Hby.out.c0
  have Hbyc1 := Hby.out.c1
  have Hbyc2 := Hby.out.c2
  go_wp2_with fail
  have hD := ((Below.refl w8.heap.size w8).drew)
  have hkd := hk.next hD
  have hxd := hx.next hD
  have Bd := B8.trans (hD.mono B8.size)
  have hsd := hsk.below (hD.mono hS)
  have hod := strs_below ho1 hD
  have h0d := hs0.below (hD.mono hL)
  have hkLd := hkL.below (hD.mono hL)
  have hLd : w4.heap.size ≤ w8.drew.heap.size := Nat.le_trans hL hD.size
  have hSd : w5.heap.size ≤ w8.drew.heap.size := Nat.le_trans hS hD.size
  have Hall0 := Lib.hid (And.intro (Hby.out.next hD) (Hbx.out.next hD))
  clear Hbxc0 Hbxc1 Hbxc2 Hbyc0 Hbyc1 Hbyc2
  go_region_held3 (fun w' => w'.cell? ⟨w5.heap.size, 0, none⟩ = some (.int .i64 k) ∧ w'.cell? ⟨w5.heap.size, 1, none⟩ = some (.string s) ∧ w'.cell? ⟨w5.heap.size, 2, none⟩ = some (.slice (some ⟨g4, 0, none⟩) ks.len ks.len) ∧ w'.cell? ⟨w.heap.size, 0, none⟩ = some (.int .i64 k) ∧ w'.cell? ⟨w.heap.size, 1, none⟩ = some (.string s) ∧ w'.cell? ⟨w.heap.size, 2, none⟩ = some (.slice a ks.len c)) (first | exact ⟨Hall0.out.1.c0, Hall0.out.1.c1, Hall0.out.1.c2, Hall0.out.2.c0, Hall0.out.2.c1, Hall0.out.2.c2⟩ | exact ⟨Hall1.out.1.c0, Hall1.out.1.c1, Hall1.out.1.c2, Hall1.out.2.c0, Hall1.out.2.c1, Hall1.out.2.c2⟩ | exact ⟨Hall2.out.1.c0, Hall2.out.1.c1, Hall2.out.1.c2, Hall2.out.2.c0, Hall2.out.2.c1, Hall2.out.2.c2⟩) ((first | (go_at_call 10; refine (toExpr_any k s ks a _ c _ hkd Hts.out).mono ?_; rintro e v1 ⟨g6, rfl, hy, hC1⟩; have hy' := hy.more (Nat.zero_le _) (Nat.le_refl _); have hx1 := hxd.next hC1; have Bf := Bd.trans (hC1.mono Bd.size); have Hall1 := Lib.hid (And.intro (Hall0.out.1.next hC1) (Hall0.out.2.next hC1))) | (go_at_call 12; refine (eqExpr_yes k s ks _ _ _ _ _ _ hx1 hy' Hf.out Hn.out).mono ?_; rintro e v2 ⟨rfl, hC2⟩; have Bg := Bf.trans (hC2.mono Bf.size); have Hall2 := Lib.hid (And.intro (Hall1.out.1.next hC2) (Hall1.out.2.next hC2)))))
  all_goals
    have hs8 := hC1.size
    have hs9 := hC2.size
    have hC := hC1.trans (hC2.mono hC1.size)
    have hL := Nat.le_trans hLd hC.size
    have hS := Nat.le_trans hSd hC.size
    have hkL := hkLd.below (hC.mono hLd)
    have hs0 := h0d.below (hC.mono hLd)
    have hsk := hsd.below (hC.mono hSd)
    have ho1 := strs_below hod hC
    have Hbx := Lib.hid Hall2.out.2
    have Hby := Lib.hid Hall2.out.1
    clear hk hx hkd hxd hsd hod h0d hkLd hy hy' hx1 hLd hSd
    have Hbyc0 := Hby.out.c0
    have Hbyc1 := Hby.out.c1
    have Hbyc2 := Hby.out.c2
    have hms : 1 + 2 * ks.size ≤ 8388600 := by have := Hsize.out; omega
    go_wp2_with fail
    refine (markE_any k s ks _ _ ks.len 1 w4.heap.size w5.heap.size _ hsk hS (Nat.le_refl _) hms Hn.out).mono ?_
    rintro e w9 ⟨rfl, hM⟩
    clear Hbyc0 Hbyc1 Hbyc2
    have hMB := mk_below hM hL
    have ho1 := strs_mk ho1 hM
    have hkL := hkL.below hMB
    have hs0 := hs0.below hMB
    have Hbx := Lib.hid (bx_below Hbx.out hMB (by omega))
    have Bm := Bg.trans (hMB.mono (by omega))
    have hL := Nat.le_trans hL hM.size
    have hS := Nat.le_trans hS hM.size
    clear hM hsk Hby hC1 hC2 hC hMB
    obtain ⟨ga', gc', eg, hs1⟩ := ho1.form
    cases eg
    have hneg : ¬ (((1 + 2 * ks.size : Nat) : Int) < 0) := by omega
    go_wp2_with fail
    refine (eqS_yes ga oa R.length gc oc R _ hs1 (hs0.more hL) HRl.out.2).mono ?_
    rintro e w10 ⟨rfl, hB10⟩
    have hkL := hkL.below (hB10.mono hL)
    have hs0 := hs0.below (hB10.mono hL)
    have Hbx := Lib.hid (bx_below Hbx.out (hB10.mono hL) (by omega))
    have Bm := Bm.trans (hB10.mono Bm.size)
    have ho1 := strs_below ho1 hB10
    have hL := Nat.le_trans hL hB10.size
    clear hs1
    have hS := Nat.le_trans hS hB10.size
    go_wp2_with fail
    refine (markS_any _ w5.heap.size 1 R _ ho1 (by have := HRl.out.1; omega) (by omega) (by omega)).mono ?_
    rintro e w11 ⟨rfl, ho2, hg11⟩
    have hB11 : Below w5.heap.size w10 w11 := (Below.refl w5.heap.size w10).grown hg11 hS (strs_at ho1)
    have hkL := hkL.below (hB11.mono hL5)
    have hs0 := hs0.below (hB11.mono hL5)
    have Hbx := Lib.hid (bx_below Hbx.out (hB11.mono hL5) (by omega))
    have Bm := Bm.trans (hB11.mono (by omega))
    have hL := Nat.le_trans hL hg11.size
    have Hmk := Lib.hid (show ∀ j, j < R.length → (smrk 1 R.length R)[j]? = some (mkS (1 + j)) from fun j hj => smrk_get hj hj)
    have hlen := smrk_length 1 R R.length
    have hsv : SvAt w11 w11.heap.size ga R.length (smrk 1 R.length R) := by
      have := ho2.at2
      rw [hlen] at this
      exact this
    clear ho1 hB11 hg11 hlen ho2
    go_wp2_with fail
    refine (heldS_any ga R.length gc 1 _ _ hsv Hmk.out (by have := HRl.out.1; omega) (by omega) (by omega)).mono ?_
    rintro e w12 ⟨rfl, hB12⟩
    have hkL := hkL.below (hB12.mono hL)
    have hs0 := hs0.below (hB12.mono hL)
    have Hbx := Lib.hid (bx_below Hbx.out (hB12.mono hL) (by omega))
    have Bm := Bm.trans (hB12.mono Bm.size)
    have hsv := (hsv.below hB12).more hB12.size
    have hL := Nat.le_trans hL hB12.size
    have hneg2 : ¬ (((1 + R.length : Nat) : Int) < 0) := by omega
    have Hbxc0 := Hbx.out.c0
    have Hbxc1 := Hbx.out.c1
    have Hbxc2 := Hbx.out.c2
    go_wp2_with fail
    refine (toExpr_any k s ks a _ c _ (hkL.more (Nat.le_refl _) hL) Hts.out).mono ?_
    rintro e w13 ⟨g7, rfl, hx7, hB13⟩
    clear Hbxc0 Hbxc1 Hbxc2
    have hkL := hkL.below (hB13.mono hL)
    have hs0 := hs0.below (hB13.mono hL)
    have Hbx := Lib.hid (bx_below Hbx.out (hB13.mono hL) (by omega))
    have Bm := Bm.trans (hB13.mono Bm.size)
    have hsv := (hsv.below hB13).more hB13.size
    have hL := Nat.le_trans hL hB13.size
    have Hc14 := Lib.hid (readsI_expr k s ks _ _ ks.len _ (hx7.more (Nat.zero_le _) (Nat.le_refl _)) Hs.out Hf.out Hn.out)
    rw [hR] at Hc14
    clear hx7
    go_wp2_with fail
    refine Hc14.out.mono ?_
    rintro e w14 ⟨v3, rfl, ho3, hB14⟩
    obtain ⟨ha, hc, rfl, hs3⟩ := ho3.form
    have hkL := hkL.below (hB14.mono hL)
    have hs0 := hs0.below (hB14.mono hL)
    have Hbx := Lib.hid (bx_below Hbx.out (hB14.mono hL) (by omega))
    have Bm := Bm.trans (hB14.mono Bm.size)
    have hsv := (hsv.below hB14).more hB14.size
    have hL := Nat.le_trans hL hB14.size
    clear ho3 Hc14
    go_wp2_with fail
    refine (eqS_yes ha oa R.length hc oc R _ hs3 (hs0.more hL) HRl.out.2).mono ?_
    rintro e w15 ⟨rfl, hB15⟩
    have hkL := hkL.below (hB15.mono hL)
    have hs0 := hs0.below (hB15.mono hL)
    have Hbx := Lib.hid (bx_below Hbx.out (hB15.mono hL) (by omega))
    have Bm := Bm.trans (hB15.mono Bm.size)
    have hsv := (hsv.below hB15).more hB15.size
    have hL := Nat.le_trans hL hB15.size
    clear hs3
    go_wp2_with fail
    refine (heldS_any ga R.length gc 1 _ _ hsv Hmk.out (by have := HRl.out.1; omega) (by omega) (by omega)).mono ?_
    rintro e w16 ⟨rfl, hB16⟩
    have Bm := Bm.trans (hB16.mono Bm.size)
    go_wp2_with fail
    go_ret
    exact ⟨rfl, Bm⟩
end Go.Proofs.Ytmcanhmgllfndaa
