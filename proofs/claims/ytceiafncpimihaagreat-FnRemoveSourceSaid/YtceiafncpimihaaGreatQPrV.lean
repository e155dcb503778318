/-
  The reference's ProjectValid, out of l3Rules' contract.
-/
import Derived.Test.YtceiafncpimihaaGreatGone
import Derived.Test.YtceiafncpimihaaGreatQFValid
import Derived.Deep.RegionHeld3
namespace Go.Proofs.YtceiafncpimihaaGreat
set_option linter.unusedVariables false
set_option linter.unusedSimpArgs false
open Go.RowKit

/-- the contract of l3Rules -/
def RulesC : Prop := ∀ (rs : List Ru) (a : Option Addr) (n c : Nat) (w : World), RuAt w 0 w.heap.size rs a n → RuFits rs → RuZ rs → n ≤ maxLen →
  Calls Tryz.prog 66 #[.slice a n c] w fun e w' => e = .returned (.bool (rulesB rs)) ∧ Below w.heap.size w w'
/-- between two rounds of ProjectValid -/
def PvIn (fs : List Fl) (rs : List Ru) (n : Nat) (w : World) (i : Value) (wr : World) : Prop := ∃ j : Nat, j ≤ n ∧ i = .int .i64 j ∧ allTo (freeAt fs rs) j = true ∧ Below w.heap.size w wr

set_option maxRecDepth 100000 in
set_option maxHeartbeats 2000000 in
theorem projS_z (hR : RulesC) (a1 a2 : Option Addr) (n1 n2 c1 c2 : Nat) (fs : List Fl) (rs : List Ru) (w : World) (hf : FilesAt w w.heap.size a1 n1 fs) (hr : RuAt w 0 w.heap.size rs a2 n2) (hs : Fits fs) (hrf : RuFits rs) (hn1 : n1 ≤ maxLen) (hn2 : n2 ≤ maxLen) (hz : RuZ rs) :
    Calls Tryz.prog 34 #[.agg #[.slice a1 n1 c1, .slice a2 n2 c2]] w fun e w' => e = .returned (.bool (projB fs rs)) ∧ Below w.heap.size w w' := by
  have hB0 := (Below.refl w.heap.size w).alloc (Nat.le_refl _) (.cells #[.slice a1 n1 c1, .slice a2 n2 c2] 26)
  have hbx := BxP.new w (.slice a1 n1 c1) (.slice a2 n2 c2) 26
  have hlen := hr.1
  have hn2' := hn2
  unfold maxLen at hn2
  go_enter Tryz.func34, Tryz.ntmps34
  go_wp2_with fail
  refine (validS_any a1 n1 c1 fs _ ((hf.below hB0).more hB0.size) hs hn1).mono ?_
  rintro e w1 ⟨rfl, hB1⟩
  have B1 := hB0.trans (hB1.mono hB0.size)
  have hb1 := hbx.next hB1
  obtain ⟨p0, p1, pf0, pf1, hpl⟩ := hb1.facts
  rcases Bool.eq_false_or_eq_true (validB fs) with hv | hv
  case inr =>
    rw [hv]
    go_wp2_with fail
    go_ret
    exact ⟨ret_bool (by unfold projB; rw [hv]; rfl), B1⟩
  rw [hv]
  go_wp2_with fail
  refine (hR rs a2 n2 c2 w1 (hr.next B1) hrf hz hn2').mono ?_
  rintro e w2 ⟨rfl, hB2⟩
  have B2 := B1.trans (hB2.mono B1.size)
  have hb2 := hb1.next hB2
  obtain ⟨q0, q1, qf0, qf1, hql⟩ := hb2.facts
  rcases Bool.eq_false_or_eq_true (rulesB rs) with hru | hru
  case inr =>
    rw [hru]
    go_wp2_with fail
    go_ret
    exact ⟨ret_bool (by unfold projB; rw [hv, hru]; rfl), B2⟩
  rw [hru]
  clear hb1 p0 p1 pf0 pf1 hpl
  have Hvr := Lib.hid (show projB fs rs = allTo (freeAt fs rs) rs.length by unfold projB; rw [hv, hru]; rfl)
  clear hv hru
  go_wp2_with fail
  go_loopw [3] (fun i wr => PvIn fs rs n2 w2 i wr) (fun i _ => n2 - (intOf i).toNat)
  case atStart => exact ⟨0, Nat.zero_le _, rfl, rfl, Below.refl _ _⟩
  case round =>
    obtain ⟨j, hj, rfl, hok, hB⟩ := hrel
    have Hok := Lib.hid hok
    clear hok
    have hb3 := hb2.next hB
    clear q0 q1 qf0 qf1 hql
    obtain ⟨q0, q1, qf0, qf1, hql⟩ := hb3.facts
    have Bw := B2.trans (hB.mono B2.size)
    by_cases hlt : j < n2
    · obtain ⟨b, off, t, k, s, ks, a', n', c', rfl, _, hb, hg, hc0, hc1, hc2, hc3, hcap, hks⟩ := (hr.next Bw).get hlt
      have hjj : (j : Int) < (n2 : Int) := by omega
      have hj0 : (0 : Int) ≤ (j : Int) := by omega
      have hfree : freeAt fs rs j = !(findF fs t).2 := by unfold freeAt; rw [ruGet_of hg]
      have BD := Bw.drew
      have hfd : FilesAt wr.drew wr.drew.heap.size a1 n1 fs := (hf.below BD).more BD.size
      have HK0 := Lib.hid (show wr.drew.cell? ⟨w.heap.size, 0, none⟩ = some (.slice a1 n1 c1) ∧ wr.drew.cell? ⟨w.heap.size, 1, none⟩ = some (.slice (some ⟨b, off, none⟩) n2 c2) ∧ wr.drew.cell? ⟨b, off + j * 4, none⟩ = some (.string t) from ⟨q0, q1, hc0⟩)
      have hbD : b < wr.drew.heap.size := hb
      have hwD : w.heap.size < wr.drew.heap.size := hql
      have Hgc := Lib.hid hg
      clear hg
      cases hfd2 : (findF fs t).2 with
      | true =>
        have Hno := Lib.hid (show allTo (freeAt fs rs) rs.length = false from allTo_false (k := j) (by omega) (by rw [hfree, hfd2]; rfl))
        clear hfree
        go_wp2_with fail
        go_region_held3 (fun w' => w'.cell? ⟨w.heap.size, 0, none⟩ = some (.slice a1 n1 c1) ∧ w'.cell? ⟨w.heap.size, 1, none⟩ = some (.slice (some ⟨b, off, none⟩) n2 c2) ∧ w'.cell? ⟨b, off + j * 4, none⟩ = some (.string t)) (first | exact HK0.out | exact HK1.out)
          ((first
            | (go_at_call 60; refine (findS0_any a1 n1 c1 fs t _ hfd hn1).mono ?_; rintro e w4 ⟨rfl, hB4⟩; rw [hfd2]; have B4 := BD.trans (hB4.mono BD.size); have HK1 := Lib.hid (show w4.cell? ⟨w.heap.size, 0, none⟩ = some (.slice a1 n1 c1) ∧ w4.cell? ⟨w.heap.size, 1, none⟩ = some (.slice (some ⟨b, off, none⟩) n2 c2) ∧ w4.cell? ⟨b, off + j * 4, none⟩ = some (.string t) from ⟨(hB4.cell (p := ⟨w.heap.size, 0, none⟩) hwD).trans q0, (hB4.cell (p := ⟨w.heap.size, 1, none⟩) hwD).trans q1, (hB4.cell (p := ⟨b, off + j * 4, none⟩) hbD).trans hc0⟩))))
        all_goals (go_wp2_with fail; go_ret; exact ⟨ret_bool (by rw [Hvr.out, Hno.out]), B4⟩)
      | false =>
        have Hst := Lib.hid (allTo_step Hok.out (show freeAt fs rs j = true by rw [hfree, hfd2]; rfl))
        clear hfree
        go_wp2_with fail
        go_region_held3 (fun w' => w'.cell? ⟨w.heap.size, 0, none⟩ = some (.slice a1 n1 c1) ∧ w'.cell? ⟨w.heap.size, 1, none⟩ = some (.slice (some ⟨b, off, none⟩) n2 c2) ∧ w'.cell? ⟨b, off + j * 4, none⟩ = some (.string t)) (first | exact HK0.out | exact HK1.out)
          ((first
            | (go_at_call 60; refine (findS0_any a1 n1 c1 fs t _ hfd hn1).mono ?_; rintro e w4 ⟨rfl, hB4⟩; rw [hfd2]; have B4 := hB.drew.trans (hB4.mono hB.drew.size); have HK1 := Lib.hid (show w4.cell? ⟨w.heap.size, 0, none⟩ = some (.slice a1 n1 c1) ∧ w4.cell? ⟨w.heap.size, 1, none⟩ = some (.slice (some ⟨b, off, none⟩) n2 c2) ∧ w4.cell? ⟨b, off + j * 4, none⟩ = some (.string t) from ⟨(hB4.cell (p := ⟨w.heap.size, 0, none⟩) hwD).trans q0, (hB4.cell (p := ⟨w.heap.size, 1, none⟩) hwD).trans q1, (hB4.cell (p := ⟨b, off + j * 4, none⟩) hbD).trans hc0⟩))))
        all_goals go_wp2_with fail
        all_goals exact ⟨⟨j + 1, by omega, by go_num, Hst.out, B4⟩, by simp [intOf]; omega⟩
    · have e : j = rs.length := by omega
      have hall : allTo (freeAt fs rs) rs.length = true := e ▸ Hok.out
      clear e
      go_wp2_with fail
      go_ret
      exact ⟨ret_bool (by rw [Hvr.out, hall]), Bw⟩
theorem projS_of (hR : RulesC) (a1 a2 : Option Addr) (n1 n2 c1 c2 : Nat) (fs : List Fl) (rs : List Ru) (w : World) (hf : FilesAt w w.heap.size a1 n1 fs) (hr : RuAt w 0 w.heap.size rs a2 n2) (hs : Fits fs) (hrf : RuFits rs) (hn1 : n1 ≤ maxLen) (hn2 : n2 ≤ maxLen) (hz : rs.length + ruTot rs ≤ 1048577) :
    Calls Tryz.prog 34 #[.agg #[.slice a1 n1 c1, .slice a2 n2 c2]] w fun e w' => e = .returned (.bool (projB fs rs)) ∧ Below w.heap.size w w' :=
  projS_z hR a1 a2 n1 n2 c1 c2 fs rs w hf hr hs hrf hn1 hn2 (ruZ_of hz)
end Go.Proofs.YtceiafncpimihaaGreat
