/-
  The exact law FnExactRemoveRule, walked.
-/
import Derived.Test.YteofldbkjnpmnaaGreatQEdW
import Derived.Test.YteofldbkjnpmnaaGreatQEdX
import Derived.Deep.RegionHeld3
namespace Go.Proofs.YteofldbkjnpmnaaGreat
set_option linter.unusedVariables false
set_option linter.unusedSimpArgs false
open Go.RowKit

set_option maxRecDepth 100000 in
set_option maxHeartbeats 16000000 in
theorem walkFnExactRemoveRule (a1 a2 : Option Addr) (n1 n2 c1 c2 : Nat) (fs : List Fl) (rs : List Ru) (x : ByteArray) (w : World) (h : InP w fs rs a1 a2 n1 n2) (hx : x.size ≤ maxLen) :
    Calls Tryz.prog 6 #[.agg #[.slice a1 n1 c1, .slice a2 n2 c2], .string x] w fun e w' => e = .returned (.bool true) ∧ Below w.heap.size w w' := by
  obtain ⟨hf, hff, hn1, hr, hrf, hn2⟩ := h
  obtain rfl := hf.1
  obtain rfl := hr.1
  have B1 := (Below.refl w.heap.size w).alloc (Nat.le_refl _) (.cells #[.slice a1 fs.length c1, .slice a2 rs.length c2] 25)
  have Hbx := Lib.hid (BxP.new w (.slice a1 fs.length c1) (.slice a2 rs.length c2) 25)
  have hf := (hf.below B1).more B1.size
  have hr := hr.next B1
  have hxm := hx
  unfold maxLen at hxm
  have Hx := Lib.hid hx
  clear hx
  by_cases hxl : (1048576 : Int) < (x.size : Int)
  case pos =>
    go_enter Tryz.func6, Tryz.ntmps6
    go_wp2_with fail
    go_ret
    exact ⟨rfl, B1⟩
  case neg =>
  by_cases hsz : (fs.length + tot fs + (rs.length + ruTot rs) : Int) ≤ 1048576
  case neg =>
    have Hz := Lib.hid (show szP 1048576 fs rs = -1 from by unfold szP; rw [if_neg hsz])
    clear hsz
    go_enter Tryz.func6, Tryz.ntmps6
    go_wp2_with fail
    refine (szProject_any a1 a2 _ _ c1 c2 fs rs 1048576 _ hf hr hff hrf hn1 hn2 (by omega) (by omega)).mono ?_
    rintro e w2 ⟨rfl, hB2⟩
    have B2 := B1.trans (hB2.mono B1.size)
    rw [Hz.out]
    go_wp2_with fail
    go_ret
    exact ⟨rfl, B2⟩
  case pos =>
  have Hz := Lib.hid (show szP 1048576 fs rs = 1048576 - (fs.length + tot fs + (rs.length + ruTot rs)) from by unfold szP; rw [if_pos hsz])
  have Hf := Lib.hid hff
  have Hr := Lib.hid hrf
  have Hn1 := Lib.hid hn1
  have Hn2 := Lib.hid hn2
  have Hts := Lib.hid (show fs.length + tot fs + (rs.length + ruTot rs) ≤ 1048576 by omega)
  have Hrs0 := Lib.hid (show rs.length + ruTot rs ≤ 1048576 by omega)
  have Hfl := Lib.hid (show fs.length ≤ 1048576 by omega)
  have hpos : ¬ (1048576 - (fs.length + tot fs + (rs.length + ruTot rs) : Int)) < 0 := by omega
  have hbig : (1 : Nat) + 2 * fs.length + ruMk rs ≤ 8388600 := by have := ed_small (rs' := rs) (by omega); omega
  clear hsz hff hrf hn1 hn2
  go_enter Tryz.func6, Tryz.ntmps6
  go_wp2_with fail
  refine (szProject_any a1 a2 _ _ c1 c2 fs rs 1048576 _ hf hr Hf.out Hr.out Hn1.out Hn2.out (by omega) (by omega)).mono ?_
  rintro e w2 ⟨rfl, hB2⟩
  have hf := (hf.below hB2).more hB2.size
  have hr := hr.next hB2
  have Hbx := Lib.hid (Hbx.out.next hB2)
  have B2 := B1.trans (hB2.mono B1.size)
  obtain ⟨p0, p1, pf0, pf1, hpl⟩ := Hbx.out.facts
  rw [Hz.out]
  go_wp2_with fail
  refine (toProject_any a1 a2 _ _ c1 c2 fs rs _ hf hr Hts.out).mono ?_
  rintro e w3 ⟨g1, g2, rfl, hx1, hx2, hB3⟩
  have hf := (hf.below hB3).more hB3.size
  have hr := hr.next hB3
  have Hbx := Lib.hid (Hbx.out.next hB3)
  have B3 := B2.trans (hB3.mono B2.size)
  clear p0 p1 pf0 pf1 hpl
  obtain ⟨⟨fs', rs', found⟩, hres⟩ : ∃ r, delRuleR x fs rs = r := ⟨_, rfl⟩
  have Hrs := Lib.hid (delr_res hres Hr.out Hrs0.out Hfl.out)
  have Hc4 := Lib.hid ((delRuleS_of (fun rs a n c w hr hrf hz hn => rulesS_any rs a n c w hr hrf hz hn) _ _ _ _ fs.length rs.length fs rs x _ hx1 (fun e => by cases e) Hfl.out (hx2.more (Nat.zero_le _) (Nat.le_refl _)) Hf.out Hr.out Hrs0.out Hx.out).mono fun e w' h => edS_x (hres ▸ h))
  have hbig2 : (1 : Nat) + 2 * fs'.length + ruMk rs' ≤ 8388600 := by have := ed_small Hrs.out.2.2; have := Hrs.out.2.1; omega
  have Hres := Lib.hid hres
  clear hres
  go_wp2_with fail
  refine Hc4.out.mono ?_
  rintro e w4 ⟨a0, c0, b0, d0, rfl, hk0, hkr, hB4⟩
  have hB40 := hB4.alloc hB4.size (.cells #[.slice a0 fs'.length c0, .slice b0 rs'.length d0] 33)
  have hfw := (hf.below hB40).more hB40.size
  have hrw := hr.next hB40
  have hs4 := B3.size
  have hs5 := hB4.size
  have HA : EdA (w4.alloc (.cells #[.slice a0 fs'.length c0, .slice b0 rs'.length d0] 33)) (w4.heap.size + 1) w.heap.size w4.heap.size fs rs fs' rs' a1 a2 a0 b0 c1 c2 c0 d0 (fun _ => True) :=
    ⟨by simpa using hfw, by simpa using hrw, (hk0.alloc (Nat.le_refl _) _).more (Nat.le_succ _), (hkr.alloc (Nat.le_refl _) _).more (Nat.zero_le _) (Nat.le_succ _), Hbx.out.next hB40, BxP.new w4 _ _ _, by have := blk_lt Hbx.out; omega, Nat.lt_succ_self _, trivial, fun _ _ _ _ => trivial⟩
  have B4 := B3.trans (hB4.mono B3.size)
  have hL0 := B4.size
  have HA := Lib.hid HA
  have Hbx := Lib.hid (Hbx.out.next hB4)
  clear hx1 hx2 hf hr hfw hrw hk0 hkr Hc4 hB2 hB3 hB4 hB40
  obtain ⟨p0, p1, pf0, pf1, hpl⟩ := Hbx.out.facts
  go_wp2_with fail
  generalize hv4 : w4.alloc (.cells #[.slice a0 fs'.length c0, .slice b0 rs'.length d0] 33) = v4 at *
  have hz4 : v4.heap.size = w4.heap.size + 1 := by rw [← hv4]; simp
  have hAs : w4.heap.size + 1 ≤ v4.heap.size := by omega
  have Bv := B4.alloc B4.size (.cells #[.slice a0 fs'.length c0, .slice b0 rs'.length d0] 33)
  rw [hv4] at Bv
  refine (toProject_sk a1 a2 _ _ c1 c2 fs rs _ (HA.out.hf.more hAs) (HA.out.hr.more (Nat.le_refl _) hAs) Hts.out).mono ?_
  rintro e w5 ⟨g3, g4, rfl, hy1, hy2, hyo, hysk, hy3, hy34, hy4, hB5⟩
  have HA := Lib.hid (HA.out.below (hB5.mono hAs))
  have B5 := Bv.trans (hB5.mono Bv.size)
  clear p0 p1 pf0 pf1 hpl Hbx
  have hA5 := hB5.size
  have hB50 := (Below.refl w5.heap.size w5).alloc (Nat.le_refl _) (.cells #[.slice (some ⟨g3, 0, none⟩) fs.length fs.length, .slice (some ⟨g4, 0, none⟩) rs.length rs.length] 33)
  go_wp2_with fail
  generalize hv5 : w5.alloc (.cells #[.slice (some ⟨g3, 0, none⟩) fs.length fs.length, .slice (some ⟨g4, 0, none⟩) rs.length rs.length] 33) = v5 at *
  have hz5 : v5.heap.size = w5.heap.size + 1 := by rw [← hv5]; simp
  have HB : FrB v5 v4.heap.size (w5.heap.size + 1) g3 g4 w5.heap.size fs rs :=
    ⟨by have := (hy1.below hB50).more hB50.size; rwa [hz5] at this, by have := (hy2.next hB50).more (Nat.zero_le _) (Nat.le_refl _); rwa [hz5] at this, (hB50.block g3 (by omega)).trans hyo, hysk.next (Nat.le_refl _) hB50, by rw [← hv5]; exact BxP.new _ _ _ _, hy3, hy34, hy4, Nat.lt_succ_self _⟩
  have HB := Lib.hid HB
  have HA := Lib.hid (HA.out.below (hB50.mono (by omega)))
  have B50 := B5.trans (hB50.mono B5.size)
  have hAs5 : w4.heap.size + 1 ≤ v5.heap.size := by omega
  have Hc7 := Lib.hid ((removeRuleI_any _ _ _ _ fs.length rs.length fs rs x _ (HB.out.hf.more (Nat.le_of_eq hz5.symm)) (HB.out.hr.more (Nat.le_refl _) (Nat.le_of_eq hz5.symm)) Hf.out Hr.out Hfl.out Hn2.out (Nat.le_refl _) Hrs0.out Hx.out).mono fun e w' h => edR_x (Hres.out ▸ h))
  refine Hc7.out.mono ?_
  rintro e w7 ⟨av, cv, a4, c4, bs7, g7, rfl, hC7, hB7⟩
  have HA := Lib.hid (HA.out.below (hB7.mono hAs5))
  have HB := Lib.hid (HB.out.below (hB7.mono (by omega)))
  have B7 := B50.trans (hB7.mono B50.size)
  have hA7 := hB7.size
  have hB70 := (Below.refl w7.heap.size w7).alloc (Nat.le_refl _) (.cells #[.slice av fs'.length cv, .slice a4 rs'.length c4] 33)
  have HC := hC7 (w7.heap.size + 1) (Nat.lt_succ_self _)
  clear hy1 hy2 hyo hysk hB5 hB50 hB7 Hc7 hC7
  generalize hv7 : w7.alloc (.cells #[.slice av fs'.length cv, .slice a4 rs'.length c4] 33) = v7 at *
  have hz7 : v7.heap.size = w7.heap.size + 1 := by rw [← hv7]; simp
  have HC := Lib.hid HC
  have HA := Lib.hid (HA.out.below (hB70.mono (by omega)))
  have HB := Lib.hid (HB.out.below (hB70.mono (by omega)))
  have B70 := B7.trans (hB70.mono B7.size)
  clear hB70
  obtain ⟨q0, q1, qf0, qf1, hql⟩ := HC.out.bx.facts
  obtain ⟨r0, r1, rf0, rf1, hrl⟩ := HA.out.b0.facts
  go_wp2_with fail
  refine (eqProject_any av a4 a0 b0 cv c4 c0 d0 fs' rs' _ (HC.out.files) (HC.out.rules (by omega)) (HA.out.h0.more (by omega)) (HA.out.r0.more (Nat.le_refl _) (by omega)) Hrs.out.1 (by have := Hrs.out.2.1; unfold maxLen; omega) (by have := Hrs.out.2.2; unfold maxLen; omega)).mono ?_
  rintro e w8 ⟨rfl, hB8⟩
  have hs8 := hB8.size
  have HA := Lib.hid (HA.out.below (hB8.mono (by omega)))
  have HB := Lib.hid (HB.out.below (hB8.mono (by omega)))
  have HC := Lib.hid (HC.out.below (hB8.mono (by omega)))
  have B8 := B70.trans (hB8.mono (by omega))
  clear q0 q1 qf0 qf1 hql r0 r1 rf0 rf1 hrl
  have hfo : (found == found) = true := by simp
  obtain ⟨p0, p1, pf0, pf1, hpl⟩ := HA.out.bx.facts
  obtain ⟨q0, q1, qf0, qf1, hql⟩ := HB.out.bx.facts
  go_wp2_with fail
  have hD := (Below.refl w8.heap.size w8).drew
  have hDs := hD.size
  have HA := Lib.hid (HA.out.below (hD.mono (by omega)))
  have HB := Lib.hid (HB.out.below (hD.mono (by omega)))
  have HC := Lib.hid (HC.out.below (hD.mono (by omega)))
  have BD := B8.trans (hD.mono (by omega))
  have HC0 := Lib.hid (bxP_four (And.intro HA.out.bx HB.out.bx))
  clear p0 p1 pf0 pf1 hpl q0 q1 qf0 qf1 hql
  go_region_held3 (fun w' => w'.cell? ⟨w.heap.size, 0, none⟩ = some (.slice a1 fs.length c1) ∧ w'.cell? ⟨w.heap.size, 1, none⟩ = some (.slice a2 rs.length c2) ∧ w'.cell? ⟨w5.heap.size, 0, none⟩ = some (.slice (some ⟨g3, 0, none⟩) fs.length fs.length) ∧ w'.cell? ⟨w5.heap.size, 1, none⟩ = some (.slice (some ⟨g4, 0, none⟩) rs.length rs.length)) (first | exact HC0.out | exact HC1.out | exact HC2.out)
    ((first
      | (go_at_call 10; refine (toProject_any a1 a2 _ _ c1 c2 fs rs _ (HA.out.hf.more (by omega)) (HA.out.hr.more (Nat.le_refl _) (by omega)) Hts.out).mono ?_; rintro e v1 ⟨g5, g6, rfl, hu1, hu2, hC1⟩; have hu2' := hu2.more (Nat.zero_le _) (Nat.le_refl _); have hC1s := hC1.size; have HAx := Lib.hid (HA.out.below (hC1.mono (by omega))); have HBx := Lib.hid (HB.out.below (hC1.mono (by omega))); have HCx := Lib.hid (HC.out.below (hC1.mono (by omega))); have Be := BD.trans (hC1.mono (by omega)); have HC1 := Lib.hid (bxP_four (And.intro HAx.out.bx HBx.out.bx)))
      | (go_at_call 13; refine (eqProject_any _ _ _ _ _ _ _ _ fs rs _ (HBx.out.hf.more (by omega)) (HBx.out.hr.more (Nat.le_refl _) (by omega)) hu1 hu2' Hr.out Hn1.out Hn2.out).mono ?_; rintro e v2 ⟨rfl, hC2⟩; have hC2s := hC2.size; have HAy := Lib.hid (HAx.out.below (hC2.mono (by omega))); have HBy := Lib.hid (HBx.out.below (hC2.mono (by omega))); have HCy := Lib.hid (HCx.out.below (hC2.mono (by omega))); have Bg := Be.trans (hC2.mono (by omega)); have HC2 := Lib.hid (bxP_four (And.intro HAy.out.bx HBy.out.bx)))))
  all_goals
    clear HC0 HC1 HC2 hu1 hu2 hu2' hC1 hC2 HAx HBx HCx HA HB HC
    have HA := HAy
    have HB := HBy
    have HC := HCy
    clear HAy HBy HCy
    obtain ⟨q0, q1, qf0, qf1, hql⟩ := HB.out.bx.facts
    go_wp2_with fail
    refine (markP_any g3 g4 _ _ 1 w5.heap.size fs rs v2 HB.out.own HB.out.sk HB.out.l12 HB.out.l2 (by omega) Hts.out (by omega) (by omega)).mono ?_
    rintro e w9 ⟨rfl, hT9⟩
    have hs9 := hT9.size
    have hl3 := HB.out.l1
    have hM9 := hT9.below (show g3 ≤ v2.heap.size by have := HB.out.l12; have := HB.out.l2; omega)
    have HA := Lib.hid (HA.out.below (hM9.mono (by omega)))
    have HC := Lib.hid (HC.out.tch (by omega) (hT9.more (Nat.le_refl _) (by omega)))
    have B9 := Bg.trans (hM9.mono (by omega))
    clear q0 q1 qf0 qf1 hql hT9 hM9 HB
    have hneg : ¬ (((1 + 2 * fs.length + ruMk rs : Nat) : Int) < 0) := by omega
    obtain ⟨q0, q1, qf0, qf1, hql⟩ := HC.out.bx.facts
    obtain ⟨r0, r1, rf0, rf1, hrl⟩ := HA.out.b0.facts
    go_wp2_with fail
    refine (eqProject_any av a4 a0 b0 cv c4 c0 d0 fs' rs' _ (HC.out.files) (HC.out.rules (by omega)) (HA.out.h0.more (by omega)) (HA.out.r0.more (Nat.le_refl _) (by omega)) Hrs.out.1 (by have := Hrs.out.2.1; unfold maxLen; omega) (by have := Hrs.out.2.2; unfold maxLen; omega)).mono ?_
    rintro e w10 ⟨rfl, hB10⟩
    have hs10 := hB10.size
    have HA := Lib.hid (HA.out.below (hB10.mono (by omega)))
    have HC := Lib.hid (HC.out.below (hB10.mono (by omega)))
    have B10 := B9.trans (hB10.mono (by omega))
    clear q0 q1 qf0 qf1 hql r0 r1 rf0 rf1 hrl
    obtain ⟨q0, q1, qf0, qf1, hql⟩ := HC.out.bx.facts
    go_wp2_with fail
    refine (markPX_any _ _ _ g7 fs' rs' bs7 av a4 cv c4 w10 HC.out (by omega) Hrs.out.2.1 (by have := Hrs.out.2.2; omega) (ed_small Hrs.out.2.2)).mono ?_
    rintro e w11 ⟨rfl, hN11, hM11⟩
    have hs11 := hM11.size
    have hls := HC.out.ls
    have HA := Lib.hid (HA.out.below (hM11.mono (by omega)))
    have B11 := B10.trans (hM11.mono (by omega))
    have HN := Lib.hid hN11
    clear q0 q1 qf0 qf1 hql hM11 hN11 HC
    obtain ⟨q0, q1, qf0, qf1, hql⟩ := HN.out.bx.facts
    go_wp2_with fail
    refine (heldPX_any _ _ _ g7 fs' rs' bs7 av a4 cv c4 _ HN.out (by omega) Hrs.out.2.1 (by have := Hrs.out.2.2; omega) (ed_small Hrs.out.2.2)).mono ?_
    rintro e w12 ⟨rfl, hB12⟩
    have hs12 := hB12.size
    have HA := Lib.hid (HA.out.below (hB12.mono (by omega)))
    have HN := Lib.hid (HN.out.below (hB12.mono (by omega)))
    have B12 := B11.trans (hB12.mono (by omega))
    clear q0 q1 qf0 qf1 hql
    have hneg2 : ¬ (((1 + 2 * fs'.length + ruMk rs' : Nat) : Int) < 0) := by omega
    obtain ⟨p0, p1, pf0, pf1, hpl⟩ := HA.out.bx.facts
    go_wp2_with fail
    refine (toProject_any a1 a2 _ _ c1 c2 fs rs _ (HA.out.hf.more (by omega)) (HA.out.hr.more (Nat.le_refl _) (by omega)) Hts.out).mono ?_
    rintro e w13 ⟨g8, g9, rfl, hz1, hz2, hB13⟩
    have hs13 := hB13.size
    have HA := Lib.hid (HA.out.below (hB13.mono (by omega)))
    have HN := Lib.hid (HN.out.below (hB13.mono (by omega)))
    have B13 := B12.trans (hB13.mono (by omega))
    clear p0 p1 pf0 pf1 hpl
    have Hc14 := Lib.hid ((removeRuleI_any _ _ _ _ fs.length rs.length fs rs x _ hz1 (hz2.more (Nat.zero_le _) (Nat.le_refl _)) Hf.out Hr.out Hfl.out Hn2.out (Nat.le_refl _) Hrs0.out Hx.out).mono fun e w' h => edR_x (Hres.out ▸ h))
    clear hz1 hz2
    go_wp2_with fail
    refine Hc14.out.mono ?_
    rintro e w14 ⟨av9, cv9, a9, c9, bs9, g10, rfl, hC14, hB14⟩
    have hs14 := hB14.size
    have HA := Lib.hid (HA.out.below (hB14.mono (by omega)))
    have HN := Lib.hid (HN.out.below (hB14.mono (by omega)))
    have B14 := B13.trans (hB14.mono (by omega))
    have hB15 := (Below.refl w14.heap.size w14).alloc (Nat.le_refl _) (.cells #[.slice av9 fs'.length cv9, .slice a9 rs'.length c9] 33)
    have HQ := hC14 (w14.heap.size + 1) (Nat.lt_succ_self _)
    clear Hc14 hC14
    generalize hv15 : w14.alloc (.cells #[.slice av9 fs'.length cv9, .slice a9 rs'.length c9] 33) = w15 at *
    have hz15 : w15.heap.size = w14.heap.size + 1 := by rw [← hv15]; simp
    have HQ := Lib.hid HQ
    have hs15 := hB15.size
    have HA := Lib.hid (HA.out.below (hB15.mono (by omega)))
    have HN := Lib.hid (HN.out.below (hB15.mono (by omega)))
    have B15 := B14.trans (hB15.mono (by omega))
    obtain ⟨q0, q1, qf0, qf1, hql⟩ := HQ.out.bx.facts
    obtain ⟨r0, r1, rf0, rf1, hrl⟩ := HA.out.b0.facts
    go_wp2_with fail
    refine (eqProject_any av9 a9 a0 b0 cv9 c9 c0 d0 fs' rs' _ (HQ.out.files) (HQ.out.rules (by omega)) (HA.out.h0.more (by omega)) (HA.out.r0.more (Nat.le_refl _) (by omega)) Hrs.out.1 (by have := Hrs.out.2.1; unfold maxLen; omega) (by have := Hrs.out.2.2; unfold maxLen; omega)).mono ?_
    rintro e w16 ⟨rfl, hB16⟩
    have hs16 := hB16.size
    have HA := Lib.hid (HA.out.below (hB16.mono (by omega)))
    have HN := Lib.hid (HN.out.below (hB16.mono (by omega)))
    have B16 := B15.trans (hB16.mono (by omega))
    clear q0 q1 qf0 qf1 hql r0 r1 rf0 rf1 hrl HQ
    obtain ⟨q0, q1, qf0, qf1, hql⟩ := HN.out.bx.facts
    go_wp2_with fail
    refine (heldPX_any _ _ _ g7 fs' rs' bs7 av a4 cv c4 _ HN.out (by omega) Hrs.out.2.1 (by have := Hrs.out.2.2; omega) (ed_small Hrs.out.2.2)).mono ?_
    rintro e w17 ⟨rfl, hB17⟩
    have B17 := B16.trans (hB17.mono (by omega))
    go_wp2_with fail
    go_ret
    exact ⟨rfl, B17⟩
end Go.Proofs.YteofldbkjnpmnaaGreat
