/-
  The exact law FnExactFormatProject, walked.
-/
import Derived.Test.YtpaibnfmokgebaaPrS
import Derived.Test.YtpaibnfmokgebaaFmPS
import Derived.Test.YtpaibnfmokgebaaFmPI
import Derived.Test.YtpaibnfmokgebaaWalkPV
import Derived.Deep.RegionHeld3
namespace Go.Proofs.Ytpaibnfmokgebaa
set_option linter.unusedVariables false
set_option linter.unusedSimpArgs false
open Go.RowKit

set_option maxRecDepth 100000 in
set_option maxHeartbeats 4000000 in
theorem walkFnExactFormatProject (a1 a2 : Option Addr) (n1 n2 c1 c2 : Nat) (fs : List Fl) (rs : List Ru) (w : World) (h : InP w fs rs a1 a2 n1 n2) :
    Calls Try.prog 4 #[.agg #[.slice a1 n1 c1, .slice a2 n2 c2]] w fun e w' => e = .returned (.bool true) ∧ Below w.heap.size w w' := by
  obtain ⟨hf, hff, hn1, hr, hrf, hn2⟩ := h
  obtain rfl := hf.1
  obtain rfl := hr.1
  have B1 := (Below.refl w.heap.size w).alloc (Nat.le_refl _) (.cells #[.slice a1 fs.length c1, .slice a2 rs.length c2] 36)
  have hf := (hf.below B1).more B1.size
  have hr := hr.next B1
  have Hbx := Lib.hid (BxP.new w (.slice a1 fs.length c1) (.slice a2 rs.length c2) 36)
  by_cases hsz : (fs.length + tot fs + (rs.length + ruTot rs) : Int) ≤ 1048576
  case neg =>
    have Hz := Lib.hid (show szP 1048576 fs rs = -1 from by unfold szP; rw [if_neg hsz])
    clear hsz
    go_enter Try.func4, Try.ntmps4
    go_wp2_with fail
    refine (szProject_any a1 a2 _ _ c1 c2 fs rs 1048576 _ hf hr hff hrf hn1 hn2 (by omega) (by omega)).mono ?_
    rintro e w2 ⟨rfl, hB2⟩
    have B2 := B1.trans (hB2.mono B1.size)
    rw [Hz.out]
    go_wp2_with fail
    go_ret
    exact ⟨rfl, B2⟩
  case pos =>
  have Hz := Lib.hid (show szP 1048576 fs rs = 1048576 - (fs.length + tot fs + (rs.length + ruTot rs)) from by unfold szP; rw [if_pos hsz])
  have Hf := Lib.hid hff
  have Hr := Lib.hid hrf
  have Hn1 := Lib.hid hn1
  have Hn2 := Lib.hid hn2
  have Hts := Lib.hid (show fs.length + tot fs + (rs.length + ruTot rs) ≤ 1048576 by omega)
  have Hrs := Lib.hid (show rs.length + ruTot rs ≤ 1048576 by omega)
  have hpos : ¬ (1048576 - (fs.length + tot fs + (rs.length + ruTot rs) : Int)) < 0 := by omega
  clear hsz hff hrf hn1 hn2
  go_enter Try.func4, Try.ntmps4
  go_wp2_with fail
  refine (szProject_any a1 a2 _ _ c1 c2 fs rs 1048576 _ hf hr Hf.out Hr.out Hn1.out Hn2.out (by omega) (by omega)).mono ?_
  rintro e w2 ⟨rfl, hB2⟩
  have hf := (hf.below hB2).more hB2.size
  have hr := hr.next hB2
  have Hbx := Lib.hid (Hbx.out.next hB2)
  have B2 := B1.trans (hB2.mono B1.size)
  obtain ⟨p0, p1, pf0, pf1, hpl⟩ := Hbx.out.facts
  rw [Hz.out]
  go_wp2_with fail
  refine (toProject_any a1 a2 _ _ c1 c2 fs rs _ hf hr Hts.out).mono ?_
  rintro e w3 ⟨g1, g2, rfl, hx1, hx2, hB3⟩
  have hf := (hf.below hB3).more hB3.size
  have hr := hr.next hB3
  have Hbx := Lib.hid (Hbx.out.next hB3)
  have B3 := B2.trans (hB3.mono B2.size)
  clear p0 p1 pf0 pf1 hpl
  go_wp2_with fail
  refine (fmtPS_of (fun rs a n c w hr hrf hz hn => rulesS_any rs a n c w hr hrf hz hn) _ _ _ _ _ _ fs rs _ hx1 (hx2.more (Nat.zero_le _) (Nat.le_refl _)) Hf.out Hr.out Hn1.out Hn2.out Hrs.out).mono ?_
  rintro e w4 ⟨rfl, hB4⟩
  have hf := (hf.below hB4).more hB4.size
  have hr := hr.next hB4
  have Hbx := Lib.hid (Hbx.out.next hB4)
  have B4 := B3.trans (hB4.mono B3.size)
  clear hx1 hx2
  obtain ⟨p0, p1, pf0, pf1, hpl⟩ := Hbx.out.facts
  go_wp2_with fail
  refine (toProject_any a1 a2 _ _ c1 c2 fs rs _ hf hr Hts.out).mono ?_
  rintro e w5 ⟨g3, g4, rfl, hy1, hy2, hB5⟩
  have hf := (hf.below hB5).more hB5.size
  have hr := hr.next hB5
  have Hbx := Lib.hid (Hbx.out.next hB5)
  have B5 := B4.trans (hB5.mono B4.size)
  have hB6 := (Below.refl w5.heap.size w5).alloc (Nat.le_refl _) (.cells #[.slice (some ⟨g3, 0, none⟩) fs.length fs.length, .slice (some ⟨g4, 0, none⟩) rs.length rs.length] 42)
  have hf := (hf.below hB6).more hB6.size
  have hr := hr.next hB6
  have hy1 := (hy1.below hB6).more hB6.size
  have hy2 := (hy2.more (Nat.zero_le _) (Nat.le_refl _)).next hB6
  have Hbx := Lib.hid (Hbx.out.next hB6)
  have Hby := Lib.hid (BxP.new w5 (.slice (some ⟨g3, 0, none⟩) fs.length fs.length) (.slice (some ⟨g4, 0, none⟩) rs.length rs.length) 42)
  have B6 := B5.trans (hB6.mono B5.size)
  clear p0 p1 pf0 pf1 hpl
  obtain ⟨p0, p1, pf0, pf1, hpl⟩ := Hbx.out.facts
  obtain ⟨q0, q1, qf0, qf1, hql⟩ := Hby.out.facts
  go_wp2_with fail
  refine (fmtPI_any _ _ _ _ _ _ fs rs _ hy1 hy2 Hf.out Hr.out Hn1.out Hn2.out).mono ?_
  rintro e w7 ⟨rfl, hB7⟩
  have hf := (hf.below hB7).more hB7.size
  have hr := hr.next hB7
  have hy1 := (hy1.below hB7).more hB7.size
  have hy2 := hy2.next hB7
  have Hbx := Lib.hid (Hbx.out.next hB7)
  have Hby := Lib.hid (Hby.out.next hB7)
  have B7 := B6.trans (hB7.mono B6.size)
  clear p0 p1 pf0 pf1 hpl q0 q1 qf0 qf1 hql
  obtain ⟨p0, p1, pf0, pf1, hpl⟩ := Hbx.out.facts
  obtain ⟨q0, q1, qf0, qf1, hql⟩ := Hby.out.facts
  generalize fmtP fs rs = z
  have hzz : (z.toList == z.toList) = true := by simp
  go_wp2_with fail
  have hD := (Below.refl w7.heap.size w7).drew
  have hfd := (hf.below hD).more hD.size
  have hrd := hr.next hD
  have hyd1 := (hy1.below hD).more hD.size
  have hyd2 := hy2.next hD
  have Bd := B7.trans (hD.mono B7.size)
  have HA0 := Lib.hid (And.intro (Hbx.out.next hD) (Hby.out.next hD))
  have HC0 := Lib.hid (bxP_four HA0.out)
  clear p0 p1 pf0 pf1 hpl q0 q1 qf0 qf1 hql
  go_region_held3 (fun w' => w'.cell? ⟨w.heap.size, 0, none⟩ = some (.slice a1 fs.length c1) ∧ w'.cell? ⟨w.heap.size, 1, none⟩ = some (.slice a2 rs.length c2) ∧ w'.cell? ⟨w5.heap.size, 0, none⟩ = some (.slice (some ⟨g3, 0, none⟩) fs.length fs.length) ∧ w'.cell? ⟨w5.heap.size, 1, none⟩ = some (.slice (some ⟨g4, 0, none⟩) rs.length rs.length)) (first | exact HC0.out | exact HC1.out | exact HC2.out)
    ((first
      | (go_at_call 12; refine (toProject_any a1 a2 _ _ c1 c2 fs rs _ hfd hrd Hts.out).mono ?_; rintro e v1 ⟨g5, g6, rfl, hu1, hu2, hC1⟩; have hu2' := hu2.more (Nat.zero_le _) (Nat.le_refl _); have hz1 := (hyd1.below hC1).more hC1.size; have hz2 := hyd2.next hC1; have Be := Bd.trans (hC1.mono Bd.size); have HA1 := Lib.hid (bxP_next HA0.out hC1); have HC1 := Lib.hid (bxP_four HA1.out))
      | (go_at_call 14; refine (eqProject_any _ _ _ _ _ _ _ _ fs rs _ hz1 hz2 hu1 hu2' Hr.out Hn1.out Hn2.out).mono ?_; rintro e v2 ⟨rfl, hC2⟩; have Bg := Be.trans (hC2.mono Be.size); have HC2 := Lib.hid (bxP_four (bxP_next HA1.out hC2)))))
  all_goals (go_wp2_with fail; go_ret; exact ⟨rfl, Bg⟩)
end Go.Proofs.Ytpaibnfmokgebaa
