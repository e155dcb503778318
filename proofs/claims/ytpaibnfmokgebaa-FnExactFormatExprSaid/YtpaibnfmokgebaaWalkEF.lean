/-
  The exact law FnExactFormatExpr, walked.
-/
import Derived.Test.YtpaibnfmokgebaaBoxE
import Derived.Test.YtpaibnfmokgebaaFmt3
import Derived.Test.YtpaibnfmokgebaaFmtT
import Derived.Deep.RegionHeld3
namespace Go.Proofs.Ytpaibnfmokgebaa
set_option linter.unusedVariables false
open Go.RowKit

set_option maxRecDepth 100000 in
set_option maxHeartbeats 4000000 in
theorem walkFnExactFormatExpr (k : Int) (s : ByteArray) (ks : Fo) (a : Option Addr) (n c : Nat) (w : World) (h : InE w s ks a n c) :
    Calls Try.prog 3 #[.agg #[.int .i64 k, .string s, .slice a n c]] w fun e w' => e = .returned (.bool true) ∧ Below w.heap.size w w' := by
  obtain ⟨hk, hfit, hs, hnc, hn⟩ := h
  obtain rfl : ks.len = n := hk.1
  have B0 := Below.refl w.heap.size w
  have hB1 := (Below.refl w.heap.size w).alloc (Nat.le_refl _) (.cells #[.int .i64 k, .string s, .slice a ks.len c] 24)
  have B1 := B0.trans (hB1.mono B0.size)
  have hk := hk.next hB1
  have Hbx := Lib.hid (BxE.new w k s (.slice a ks.len c) 24)
  by_cases hsz : (s.size + ks.len + ks.tot : Int) ≤ 1048576
  case neg =>
    have Hz := Lib.hid (show szE 1048576 s ks = -1 from by unfold szE; rw [if_neg hsz])
    clear hsz
    go_enter Try.func3, Try.ntmps3
    go_wp2_with fail
    refine (szExpr_any k s ks a _ c 1048576 _ hk hfit hs hn (by omega) (by omega)).mono ?_
    rintro e w2 ⟨rfl, hB2⟩
    have B2 := B1.trans (hB2.mono B1.size)
    rw [Hz.out]
    go_wp2_with fail
    go_ret
    exact ⟨rfl, B2⟩
  case pos =>
  have Hz := Lib.hid (show szE 1048576 s ks = 1048576 - (s.size + ks.len + ks.tot) from by unfold szE; rw [if_pos hsz])
  have Hf := Lib.hid hfit
  have Hs := Lib.hid hs
  have Hn := Lib.hid hn
  have Hts := Lib.hid (show ks.len + ks.tot ≤ 1048576 by omega)
  have Hsize := Lib.hid (show ks.size ≤ 1048576 by have := ks.size_le; omega)
  have hpos : ¬ (1048576 - (s.size + ks.len + ks.tot : Int)) < 0 := by omega
  clear hsz hfit hs hn
  go_enter Try.func3, Try.ntmps3
  go_wp2_with fail
  refine (szExpr_any k s ks a _ c 1048576 _ hk Hf.out Hs.out Hn.out (by omega) (by omega)).mono ?_
  rintro e w2 ⟨rfl, hB2⟩
  have hk := hk.next hB2
  have Hbx := Lib.hid (Hbx.out.next hB2)
  have B2 := B1.trans (hB2.mono B1.size)
  have Hbxc0 := Hbx.out.c0
  have Hbxc1 := Hbx.out.c1
  have Hbxc2 := Hbx.out.c2
  rw [Hz.out]
  go_wp2_with fail
  refine (toExpr_any k s ks a _ c _ hk Hts.out).mono ?_
  rintro e w3 ⟨g2, rfl, hx, hB3⟩
  clear Hbxc0 Hbxc1 Hbxc2
  have hk := hk.next hB3
  have Hbx := Lib.hid (Hbx.out.next hB3)
  have B3 := B2.trans (hB3.mono B2.size)
  have hx := hx.more (Nat.zero_le _) (Nat.le_refl _)
  have Hbxc0 := Hbx.out.c0
  have Hbxc1 := Hbx.out.c1
  have Hbxc2 := Hbx.out.c2
  go_wp2_with fail
  refine (formatS_expr k s ks _ _ _ _ hx Hs.out Hf.out Hn.out Hsize.out).mono ?_
  rintro e w4 ⟨rfl, hB4⟩
  clear Hbxc0 Hbxc1 Hbxc2
  have hk := hk.next hB4
  have hx := hx.next hB4
  have Hbx := Lib.hid (Hbx.out.next hB4)
  have B4 := B3.trans (hB4.mono B3.size)
  clear hx
  have Hbxc0 := Hbx.out.c0
  have Hbxc1 := Hbx.out.c1
  have Hbxc2 := Hbx.out.c2
  go_wp2_with fail
  refine (toExpr_any k s ks a _ c _ hk Hts.out).mono ?_
  rintro e w5 ⟨g4, rfl, hx, hB5⟩
  clear Hbxc0 Hbxc1 Hbxc2
  have hk := hk.next hB5
  have Hbx := Lib.hid (Hbx.out.next hB5)
  have B5 := B4.trans (hB5.mono B4.size)
  have hx := hx.more (Nat.zero_le _) (Nat.le_refl _)
  have hB6 := (Below.refl w5.heap.size w5).alloc (Nat.le_refl _) (.cells #[.int .i64 k, .string s, .slice (some ⟨g4, 0, none⟩) ks.len ks.len] 29)
  have hk := hk.next hB6
  have hx := hx.next hB6
  have Hbx := Lib.hid (Hbx.out.next hB6)
  have B6 := B5.trans (hB6.mono B5.size)
  have Hby := Lib.hid (BxE.new w5 k s (.slice (some ⟨g4, 0, none⟩) ks.len ks.len) 29)
  have Hbxc0 := Hbx.out.c0
  have Hbxc1 := Hbx.out.c1
  have Hbxc2 := Hbx.out.c2
  have Hbyc0 := Hby.out.c0
  have Hbyc1 := Hby.out.c1
  have Hbyc2 := Hby.out.c2
  go_wp2_with fail
  refine (formatI_expr k s ks _ _ _ _ hx Hs.out Hf.out Hn.out).mono ?_
  rintro e w7 ⟨rfl, hB7⟩
  clear Hbxc0 Hbxc1 Hbxc2 Hbyc0 Hbyc1 Hbyc2
  have hk := hk.next hB7
  have hx := hx.next hB7
  have Hbx := Lib.hid (Hbx.out.next hB7)
  have Hby := Lib.hid (Hby.out.next hB7)
  have B7 := B6.trans (hB7.mono B6.size)
  have Hbxc0 := Hbx.out.c0
  have Hbxc1 := Hbx.out.c1
  have Hbxc2 := Hbx.out.c2
  have Hbyc0 := Hby.out.c0
  have Hbyc1 := Hby.out.c1
  have Hbyc2 := Hby.out.c2
  generalize fmtE k s ks = z
  have hzz : (z.toList == z.toList) = true := by simp
  go_wp2_with fail
  have hkd := hk.next ((Below.refl w7.heap.size w7).drew)
  have hxd := hx.next ((Below.refl w7.heap.size w7).drew)
  have Bd := B7.trans ((Below.refl w7.heap.size w7).drew.mono B7.size)
  have Hall0 := Lib.hid (And.intro (Hby.out.next ((Below.refl w7.heap.size w7).drew)) (Hbx.out.next ((Below.refl w7.heap.size w7).drew)))
  clear Hbxc0 Hbxc1 Hbxc2 Hbyc0 Hbyc1 Hbyc2
  go_region_held3 (fun w' => w'.cell? ⟨w5.heap.size, 0, none⟩ = some (.int .i64 k) ∧ w'.cell? ⟨w5.heap.size, 1, none⟩ = some (.string s) ∧ w'.cell? ⟨w5.heap.size, 2, none⟩ = some (.slice (some ⟨g4, 0, none⟩) ks.len ks.len) ∧ w'.cell? ⟨w.heap.size, 0, none⟩ = some (.int .i64 k) ∧ w'.cell? ⟨w.heap.size, 1, none⟩ = some (.string s) ∧ w'.cell? ⟨w.heap.size, 2, none⟩ = some (.slice a ks.len c)) (first | exact ⟨Hall0.out.1.c0, Hall0.out.1.c1, Hall0.out.1.c2, Hall0.out.2.c0, Hall0.out.2.c1, Hall0.out.2.c2⟩ | exact ⟨Hall1.out.1.c0, Hall1.out.1.c1, Hall1.out.1.c2, Hall1.out.2.c0, Hall1.out.2.c1, Hall1.out.2.c2⟩ | exact ⟨Hall2.out.1.c0, Hall2.out.1.c1, Hall2.out.1.c2, Hall2.out.2.c0, Hall2.out.2.c1, Hall2.out.2.c2⟩) ((first | (go_at_call 7; refine (toExpr_any k s ks a _ c _ hkd Hts.out).mono ?_; rintro e v1 ⟨g6, rfl, hy, hC1⟩; have hy' := hy.more (Nat.zero_le _) (Nat.le_refl _); have hx1 := hxd.next hC1; have Bf := Bd.trans (hC1.mono Bd.size); have Hall1 := Lib.hid (And.intro (Hall0.out.1.next hC1) (Hall0.out.2.next hC1))) | (go_at_call 9; refine (eqExpr_yes k s ks _ _ _ _ _ _ hx1 hy' Hf.out Hn.out).mono ?_; rintro e v2 ⟨rfl, hC2⟩; have Bg := Bf.trans (hC2.mono Bf.size); have Hall2 := Lib.hid (And.intro (Hall1.out.1.next hC2) (Hall1.out.2.next hC2)))))
  all_goals (go_wp2_with fail; go_ret; exact ⟨rfl, Bg⟩)
end Go.Proofs.Ytpaibnfmokgebaa
