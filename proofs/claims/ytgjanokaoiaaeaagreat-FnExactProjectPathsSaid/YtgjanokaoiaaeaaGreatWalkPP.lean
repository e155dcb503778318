/-
  The exact law FnExactProjectPaths, walked.
-/
import Derived.Test.YtgjanokaoiaaeaaGreatPrS
import Derived.Test.YtgjanokaoiaaeaaGreatPpS
import Derived.Test.YtgjanokaoiaaeaaGreatPpI
import Derived.Test.YtgjanokaoiaaeaaGreatBunB
import Derived.Test.YtgjanokaoiaaeaaGreatStrK
import Derived.Test.YtgjanokaoiaaeaaGreatWalkPV
import Derived.Deep.RegionHeld3
namespace Go.Proofs.YtgjanokaoiaaeaaGreat
set_option linter.unusedVariables false
set_option linter.unusedSimpArgs false
open Go.RowKit

/-- what lies below L through the whole walk: the argument with its box, and the reference's answer -/
structure PpA (W : World) (L gp : Nat) (fs : List Fl) (rs : List Ru) (R : List ByteArray) (a1 a2 a0 : Option Addr) (c1 c2 : Nat) : Prop where
  hf : FilesAt W L a1 fs.length fs
  hr : RuAt W 0 L rs a2 rs.length
  h0 : SvAt W L a0 R.length R
  bx : BxP W gp (.slice a1 fs.length c1) (.slice a2 rs.length c2) 25
  lp : gp < L
theorem PpA.below {W W' : World} {L gp c1 c2 : Nat} {fs : List Fl} {rs : List Ru} {R : List ByteArray} {a1 a2 a0 : Option Addr} (h : PpA W L gp fs rs R a1 a2 a0 c1 c2) (hb : Below L W W') : PpA W' L gp fs rs R a1 a2 a0 c1 c2 := ⟨h.hf.below hb, h.hr.below hb, h.h0.below hb, (hb.block gp h.lp).trans h.bx, h.lp⟩
theorem strs_tch {L S B : Nat} {w w' : World} {v : Value} {ss : List ByteArray} (h : OwnsS w B v ss) (hm : Tch L S w w') (hB : S ≤ B) : OwnsS w' B v ss := by
  unfold OwnsS World.ownsRow at h ⊢
  refine ⟨h.1, ?_⟩
  rcases h.2 with h2 | ⟨g, cap, cur, rfl, h3, h4, h5⟩
  · exact .inl h2
  · exact .inr ⟨g, cap, cur, rfl, h3, (hm.out g (blk_lt h4) (.inr (by omega))).trans h4, h5⟩
theorem OwnsS.at2 {w : World} {B n c : Nat} {a : Option Addr} {ss : List ByteArray} (h : OwnsS w B (.slice a n c) ss) : SvAt w w.heap.size a ss.length ss := by
  obtain ⟨a', c', e, hs⟩ := h.form
  cases e
  exact hs

set_option maxRecDepth 100000 in
set_option maxHeartbeats 16000000 in
theorem walkFnExactProjectPaths (a1 a2 : Option Addr) (n1 n2 c1 c2 : Nat) (fs : List Fl) (rs : List Ru) (w : World) (h : InP w fs rs a1 a2 n1 n2) :
    Calls Tryz.prog 5 #[.agg #[.slice a1 n1 c1, .slice a2 n2 c2]] w fun e w' => e = .returned (.bool true) ∧ Below w.heap.size w w' := by
  obtain ⟨hf, hff, hn1, hr, hrf, hn2⟩ := h
  obtain rfl := hf.1
  obtain rfl := hr.1
  have B1 := (Below.refl w.heap.size w).alloc (Nat.le_refl _) (.cells #[.slice a1 fs.length c1, .slice a2 rs.length c2] 25)
  have hf := (hf.below B1).more B1.size
  have hr := hr.next B1
  have Hbx := Lib.hid (BxP.new w (.slice a1 fs.length c1) (.slice a2 rs.length c2) 25)
  by_cases hsz : (fs.length + tot fs + (rs.length + ruTot rs) : Int) ≤ 1048576
  case neg =>
    have Hz := Lib.hid (show szP 1048576 fs rs = -1 from by unfold szP; rw [if_neg hsz])
    clear hsz
    go_enter Tryz.func5, Tryz.ntmps5
    go_wp2_with fail
    refine (szProject_any a1 a2 _ _ c1 c2 fs rs 1048576 _ hf hr hff hrf hn1 hn2 (by omega) (by omega)).mono ?_
    rintro e w2 ⟨rfl, hB2⟩
    have B2 := B1.trans (hB2.mono B1.size)
    rw [Hz.out]
    go_wp2_with fail
    go_ret
    exact ⟨rfl, B2⟩
  case pos =>
  have Hz := Lib.hid (show szP 1048576 fs rs = 1048576 - (fs.length + tot fs + (rs.length + ruTot rs)) from by unfold szP; rw [if_pos hsz])
  have Hf := Lib.hid hff
  have Hr := Lib.hid hrf
  have Hn1 := Lib.hid hn1
  have Hn2 := Lib.hid hn2
  have Hts := Lib.hid (show fs.length + tot fs + (rs.length + ruTot rs) ≤ 1048576 by omega)
  have Hrs := Lib.hid (show rs.length + ruTot rs ≤ 1048576 by omega)
  have hpos : ¬ (1048576 - (fs.length + tot fs + (rs.length + ruTot rs) : Int)) < 0 := by omega
  clear hsz hff hrf hn1 hn2
  go_enter Tryz.func5, Tryz.ntmps5
  go_wp2_with fail
  refine (szProject_any a1 a2 _ _ c1 c2 fs rs 1048576 _ hf hr Hf.out Hr.out Hn1.out Hn2.out (by omega) (by omega)).mono ?_
  rintro e w2 ⟨rfl, hB2⟩
  have hf := (hf.below hB2).more hB2.size
  have hr := hr.next hB2
  have Hbx := Lib.hid (Hbx.out.next hB2)
  have B2 := B1.trans (hB2.mono B1.size)
  obtain ⟨p0, p1, pf0, pf1, hpl⟩ := Hbx.out.facts
  rw [Hz.out]
  go_wp2_with fail
  refine (toProject_any a1 a2 _ _ c1 c2 fs rs _ hf hr Hts.out).mono ?_
  rintro e w3 ⟨g1, g2, rfl, hx1, hx2, hB3⟩
  have hf := (hf.below hB3).more hB3.size
  have hr := hr.next hB3
  have Hbx := Lib.hid (Hbx.out.next hB3)
  have B3 := B2.trans (hB3.mono B2.size)
  clear p0 p1 pf0 pf1 hpl
  obtain ⟨R, hres⟩ : ∃ r, pathsP fs rs = r := ⟨_, rfl⟩
  have hRl := pathsP_len fs rs
  rw [hres] at hRl
  have hRm : R.length ≤ maxLen := by unfold maxLen; omega
  have HRl := Lib.hid (And.intro hRl hRm)
  have Hc4 := Lib.hid (pathsS_of (fun rs a n c w hr hrf hz hn => rulesS_any rs a n c w hr hrf hz hn) _ _ _ _ fs.length rs.length fs rs _ hx1 (hx2.more (Nat.zero_le _) (Nat.le_refl _)) Hf.out Hr.out Hn1.out Hn2.out Hrs.out)
  rw [hres] at Hc4
  go_wp2_with fail
  refine Hc4.out.mono ?_
  rintro e w4 ⟨v0, rfl, ho0, hB4⟩
  obtain ⟨a0, c0, rfl, hs0⟩ := ho0.form
  have hs4 := B3.size
  have hs5 := hB4.size
  have hbl := blk_lt Hbx.out
  have HA : PpA w4 w4.heap.size w.heap.size fs rs R a1 a2 a0 c1 c2 := ⟨(hf.below hB4).more hB4.size, hr.next hB4, hs0, Hbx.out.next hB4, by omega⟩
  have B4 := B3.trans (hB4.mono B3.size)
  have HA := Lib.hid HA
  clear hx1 hx2 hf hr Hc4 hB2 hB3 hB4 Hbx hRl hRm ho0 hs0 hbl
  obtain ⟨p0, p1, pf0, pf1, hpl⟩ := HA.out.bx.facts
  go_wp2_with fail
  refine (toProject_sk a1 a2 _ _ c1 c2 fs rs _ HA.out.hf HA.out.hr Hts.out).mono ?_
  rintro e w5 ⟨g3, g4, rfl, hy1, hy2, hyo, hysk, hy3, hy34, hy4, hB5⟩
  have HA := Lib.hid (HA.out.below hB5)
  have B5 := B4.trans (hB5.mono B4.size)
  clear p0 p1 pf0 pf1 hpl
  have hA5 := hB5.size
  have hB50 := (Below.refl w5.heap.size w5).alloc (Nat.le_refl _) (.cells #[.slice (some ⟨g3, 0, none⟩) fs.length fs.length, .slice (some ⟨g4, 0, none⟩) rs.length rs.length] 33)
  go_wp2_with fail
  generalize hv5 : w5.alloc (.cells #[.slice (some ⟨g3, 0, none⟩) fs.length fs.length, .slice (some ⟨g4, 0, none⟩) rs.length rs.length] 33) = v5 at *
  have hz5 : v5.heap.size = w5.heap.size + 1 := by rw [← hv5]; simp
  have HB : FrB v5 w4.heap.size (w5.heap.size + 1) g3 g4 w5.heap.size fs rs :=
    ⟨by have := (hy1.below hB50).more hB50.size; rwa [hz5] at this, by have := (hy2.next hB50).more (Nat.zero_le _) (Nat.le_refl _); rwa [hz5] at this, (hB50.block g3 (by omega)).trans hyo, hysk.next (Nat.le_refl _) hB50, by rw [← hv5]; exact BxP.new _ _ _ _, hy3, hy34, hy4, Nat.lt_succ_self _⟩
  have HB := Lib.hid HB
  have HA := Lib.hid (HA.out.below (hB50.mono (by omega)))
  have B50 := B5.trans (hB50.mono B5.size)
  have Hc7 := Lib.hid (pathsI_any _ _ _ _ fs.length rs.length fs rs _ (HB.out.hf.more (Nat.le_of_eq hz5.symm)) (HB.out.hr.more (Nat.le_refl _) (Nat.le_of_eq hz5.symm)) Hf.out Hr.out Hn1.out Hn2.out)
  rw [hres] at Hc7
  refine Hc7.out.mono ?_
  rintro e w7 ⟨v1, rfl, ho1, hB7⟩
  have hA7 := hB7.size
  have HA := Lib.hid (HA.out.below (hB7.mono (by omega)))
  have HB := Lib.hid (HB.out.below (hB7.mono (by omega)))
  have B7 := B50.trans (hB7.mono B50.size)
  rw [hz5] at ho1
  obtain ⟨ga, gc, rfl, hs1⟩ := ho1.form
  have Ho := Lib.hid ho1
  clear hy1 hy2 hyo hysk hB5 hB50 hB7 Hc7 ho1
  go_wp2_with fail
  refine (eqS_yes ga a0 R.length gc c0 R _ hs1 (HA.out.h0.more (by omega)) HRl.out.2).mono ?_
  rintro e w8 ⟨rfl, hB8⟩
  have hs8 := hB8.size
  have HA := Lib.hid (HA.out.below (hB8.mono (by omega)))
  have HB := Lib.hid (HB.out.below (hB8.mono (by omega)))
  have Ho := Lib.hid (strs_below Ho.out hB8)
  have B8 := B7.trans (hB8.mono (by omega))
  clear hs1
  obtain ⟨p0, p1, pf0, pf1, hpl⟩ := HA.out.bx.facts
  obtain ⟨q0, q1, qf0, qf1, hql⟩ := HB.out.bx.facts
  go_wp2_with fail
  have hD := (Below.refl w8.heap.size w8).drew
  have hDs := hD.size
  have HA := Lib.hid (HA.out.below (hD.mono (by omega)))
  have HB := Lib.hid (HB.out.below (hD.mono (by omega)))
  have Ho := Lib.hid (strs_below Ho.out hD)
  have BD := B8.trans (hD.mono (by omega))
  have HC0 := Lib.hid (bxP_four (And.intro HA.out.bx HB.out.bx))
  clear p0 p1 pf0 pf1 hpl q0 q1 qf0 qf1 hql
  go_region_held3 (fun w' => w'.cell? ⟨w.heap.size, 0, none⟩ = some (.slice a1 fs.length c1) ∧ w'.cell? ⟨w.heap.size, 1, none⟩ = some (.slice a2 rs.length c2) ∧ w'.cell? ⟨w5.heap.size, 0, none⟩ = some (.slice (some ⟨g3, 0, none⟩) fs.length fs.length) ∧ w'.cell? ⟨w5.heap.size, 1, none⟩ = some (.slice (some ⟨g4, 0, none⟩) rs.length rs.length)) (first | exact HC0.out | exact HC1.out | exact HC2.out)
    ((first
      | (go_at_call 9; refine (toProject_any a1 a2 _ _ c1 c2 fs rs _ (HA.out.hf.more (by omega)) (HA.out.hr.more (Nat.le_refl _) (by omega)) Hts.out).mono ?_; rintro e v1 ⟨g5, g6, rfl, hu1, hu2, hC1⟩; have hu2' := hu2.more (Nat.zero_le _) (Nat.le_refl _); have hC1s := hC1.size; have HAx := Lib.hid (HA.out.below (hC1.mono (by omega))); have HBx := Lib.hid (HB.out.below (hC1.mono (by omega))); have Hox := Lib.hid (strs_below Ho.out hC1); have Be := BD.trans (hC1.mono (by omega)); have HC1 := Lib.hid (bxP_four (And.intro HAx.out.bx HBx.out.bx)))
      | (go_at_call 12; refine (eqProject_any _ _ _ _ _ _ _ _ fs rs _ (HBx.out.hf.more (by omega)) (HBx.out.hr.more (Nat.le_refl _) (by omega)) hu1 hu2' Hr.out Hn1.out Hn2.out).mono ?_; rintro e v2 ⟨rfl, hC2⟩; have hC2s := hC2.size; have HAy := Lib.hid (HAx.out.below (hC2.mono (by omega))); have HBy := Lib.hid (HBx.out.below (hC2.mono (by omega))); have Hoy := Lib.hid (strs_below Hox.out hC2); have Bg := Be.trans (hC2.mono (by omega)); have HC2 := Lib.hid (bxP_four (And.intro HAy.out.bx HBy.out.bx)))))
  all_goals
    clear HC0 HC1 HC2 hu1 hu2 hu2' hC1 hC2 HAx HBx Hox HA HB Ho
    have HA := HAy
    have HB := HBy
    have Ho := Hoy
    clear HAy HBy Hoy
    obtain ⟨q0, q1, qf0, qf1, hql⟩ := HB.out.bx.facts
    go_wp2_with fail
    refine (markP_any g3 g4 _ _ 1 w5.heap.size fs rs v2 HB.out.own HB.out.sk HB.out.l12 HB.out.l2 (by omega) Hts.out (by omega) (by omega)).mono ?_
    rintro e w9 ⟨rfl, hT9⟩
    have hs9 := hT9.size
    have hl3 := HB.out.l1
    have hM9 := hT9.below (show g3 ≤ v2.heap.size by have := HB.out.l12; have := HB.out.l2; omega)
    have HA := Lib.hid (HA.out.below (hM9.mono (by omega)))
    have ho9 := strs_tch Ho.out hT9 (Nat.le_succ _)
    have B9 := Bg.trans (hM9.mono (by omega))
    clear q0 q1 qf0 qf1 hql hT9 hM9 HB Ho
    have hneg : ¬ (((1 + 2 * fs.length + ruMk rs : Nat) : Int) < 0) := by omega
    obtain ⟨ga', gc', eg, hs1⟩ := ho9.form
    cases eg
    have Ho := Lib.hid ho9
    clear ho9
    go_wp2_with fail
    refine (eqS_yes ga a0 R.length gc c0 R _ hs1 (HA.out.h0.more (by omega)) HRl.out.2).mono ?_
    rintro e w10 ⟨rfl, hB10⟩
    have hs10 := hB10.size
    have HA := Lib.hid (HA.out.below (hB10.mono (by omega)))
    have ho10 := strs_below Ho.out hB10
    have B10 := B9.trans (hB10.mono (by omega))
    clear hs1 Ho
    go_wp2_with fail
    refine (markS_any _ (w5.heap.size + 1) 1 R _ ho10 (by have := HRl.out.1; omega) (by omega) (by omega)).mono ?_
    rintro e w11 ⟨rfl, ho2, hg11⟩
    have hB11 : Below (w5.heap.size + 1) w10 w11 := (Below.refl (w5.heap.size + 1) w10).grown hg11 (by omega) (strs_at ho10)
    have hs11 := hg11.size
    have HA := Lib.hid (HA.out.below (hB11.mono (by omega)))
    have B11 := B10.trans (hB11.mono (by omega))
    have Hmk := Lib.hid (show ∀ j, j < R.length → (smrk 1 R.length R)[j]? = some (mkS (1 + j)) from fun j hj => smrk_get hj hj)
    have hlen := smrk_length 1 R R.length
    have hsv : SvAt w11 w11.heap.size ga R.length (smrk 1 R.length R) := by
      have := ho2.at2
      rw [hlen] at this
      exact this
    clear ho10 hB11 hg11 hlen ho2
    go_wp2_with fail
    refine (heldS_any ga R.length gc 1 _ _ hsv Hmk.out (by have := HRl.out.1; omega) (by omega) (by omega)).mono ?_
    rintro e w12 ⟨rfl, hB12⟩
    have hs12 := hB12.size
    have HA := Lib.hid (HA.out.below (hB12.mono (by omega)))
    have hsv := (hsv.below hB12).more hB12.size
    have B12 := B11.trans (hB12.mono (by omega))
    have hneg2 : ¬ (((1 + R.length : Nat) : Int) < 0) := by omega
    obtain ⟨p0, p1, pf0, pf1, hpl⟩ := HA.out.bx.facts
    go_wp2_with fail
    refine (toProject_any a1 a2 _ _ c1 c2 fs rs _ (HA.out.hf.more (by omega)) (HA.out.hr.more (Nat.le_refl _) (by omega)) Hts.out).mono ?_
    rintro e w13 ⟨g8, g9, rfl, hz1, hz2, hB13⟩
    have hs13 := hB13.size
    have HA := Lib.hid (HA.out.below (hB13.mono (by omega)))
    have hsv := (hsv.below hB13).more hB13.size
    have B13 := B12.trans (hB13.mono (by omega))
    clear p0 p1 pf0 pf1 hpl
    have Hc14 := Lib.hid (pathsI_any _ _ _ _ fs.length rs.length fs rs _ hz1 (hz2.more (Nat.zero_le _) (Nat.le_refl _)) Hf.out Hr.out Hn1.out Hn2.out)
    rw [hres] at Hc14
    clear hz1 hz2
    go_wp2_with fail
    refine Hc14.out.mono ?_
    rintro e w14 ⟨v3, rfl, ho3, hB14⟩
    obtain ⟨ha, hc, rfl, hs3⟩ := ho3.form
    have hs14 := hB14.size
    have HA := Lib.hid (HA.out.below (hB14.mono (by omega)))
    have hsv := (hsv.below hB14).more hB14.size
    have B14 := B13.trans (hB14.mono (by omega))
    clear ho3 Hc14
    go_wp2_with fail
    refine (eqS_yes ha a0 R.length hc c0 R _ hs3 (HA.out.h0.more (by omega)) HRl.out.2).mono ?_
    rintro e w15 ⟨rfl, hB15⟩
    have hs15 := hB15.size
    have HA := Lib.hid (HA.out.below (hB15.mono (by omega)))
    have hsv := (hsv.below hB15).more hB15.size
    have B15 := B14.trans (hB15.mono (by omega))
    clear hs3
    go_wp2_with fail
    refine (heldS_any ga R.length gc 1 _ _ hsv Hmk.out (by have := HRl.out.1; omega) (by omega) (by omega)).mono ?_
    rintro e w16 ⟨rfl, hB16⟩
    have B16 := B15.trans (hB16.mono (by omega))
    go_wp2_with fail
    go_ret
    exact ⟨rfl, B16⟩
end Go.Proofs.YtgjanokaoiaaeaaGreat
