/-
  The laws' words on projects: size, copy into the program's type, equality.
-/
import Derived.Test.YtmmjeokmoffdpaaGreatQRuT
namespace Go.Proofs.YtmmjeokmoffdpaaGreat
set_option linter.unusedVariables false
set_option linter.unusedSimpArgs false
open Go.RowKit

/-- what szProject answers -/
def szP (left : Int) (fs : List Fl) (rs : List Ru) : Int := if (fs.length + tot fs + (rs.length + ruTot rs) : Int) ≤ left then left - (fs.length + tot fs + (rs.length + ruTot rs)) else -1

set_option maxHeartbeats 400000 in
theorem szProject_any (a1 a2 : Option Addr) (n1 n2 c1 c2 : Nat) (fs : List Fl) (rs : List Ru) (left : Int) (w : World) (hf : FilesAt w w.heap.size a1 n1 fs) (hr : RuAt w 0 w.heap.size rs a2 n2) (hs : Fits fs) (hrf : RuFits rs) (hn1 : n1 ≤ maxLen) (hn2 : n2 ≤ maxLen) (h0 : 0 ≤ left) (h1 : left ≤ 1048576) :
    Calls Tryz.prog 4 #[.agg #[.slice a1 n1 c1, .slice a2 n2 c2], .int .i64 left] w fun e w' => e = .returned (.int .i64 (szP left fs rs)) ∧ Below w.heap.size w w' := by
  have hB0 := (Below.refl w.heap.size w).alloc (Nat.le_refl _) (.cells #[.slice a1 n1 c1, .slice a2 n2 c2] 25)
  have hbx := heap_alloc_new w (.cells #[.slice a1 n1 c1, .slice a2 n2 c2] 25)
  go_enter Tryz.func4, Tryz.ntmps4
  go_wp2_with fail
  refine (szFileS_any a1 n1 c1 fs left _ ((hf.below hB0).more hB0.size) hs hn1 h0 h1).mono ?_
  rintro e w1 ⟨rfl, hB1⟩
  have B1 := hB0.trans (hB1.mono hB0.size)
  have hb1 := (hB1.block w.heap.size (by simp)).trans hbx
  have p1 : w1.cell? ⟨w.heap.size, 1, none⟩ = some (.slice a2 n2 c2) := by rw [cell_of_row _ _ _ _ _ _ hb1]; rfl
  by_cases hfs : (fs.length + tot fs : Int) ≤ left
  · rw [szAll_pos hfs]
    have hpos : ¬ left - (fs.length + tot fs : Int) < 0 := by omega
    go_wp2_with fail
    refine (szRuleS_any rs a2 n2 c2 (left - (fs.length + tot fs)) w1 (hr.next B1) hrf hn2 (by omega) (by omega)).mono ?_
    rintro e w2 ⟨rfl, hB2⟩
    have B2 := B1.trans (hB2.mono B1.size)
    by_cases hrs : (rs.length + ruTot rs : Int) ≤ left - (fs.length + tot fs)
    · rw [show szRs (left - (fs.length + tot fs)) rs = left - (fs.length + tot fs) - (rs.length + ruTot rs) from by unfold szRs; rw [if_pos hrs]]
      go_wp2_with fail
      go_ret
      exact ⟨ret_int (by unfold szP; rw [if_pos (by omega)]; omega), B2⟩
    · rw [show szRs (left - (fs.length + tot fs)) rs = -1 from by unfold szRs; rw [if_neg hrs]]
      go_wp2_with fail
      go_ret
      exact ⟨ret_int (by unfold szP; rw [if_neg (by omega)]), B2⟩
  · rw [szAll_neg hfs]
    go_wp2_with fail
    go_ret
    exact ⟨ret_int (by unfold szP; rw [if_neg (by omega)]), B1⟩

/-- block g is a box with a project -/
def BxP (w : World) (g : Nat) (u v : Value) (T : TypeId) : Prop := w.heap[g]? = some (.cells #[u, v] T (0, 0))
section
variable {w w' : World} {g : Nat} {u v : Value} {T : TypeId}
theorem BxP.new (w : World) (u v : Value) (T : TypeId) : BxP (w.alloc (.cells #[u, v] T)) w.heap.size u v T := heap_alloc_new w _
theorem BxP.next (h : BxP w g u v T) (hB : Below w.heap.size w w') : BxP w' g u v T := (hB.block g (blk_lt h)).trans h
theorem BxP.alloc (h : BxP w g u v T) (o : Obj) : BxP (w.alloc o) g u v T := (Below.heap_alloc w o g (blk_lt h)).trans h
theorem BxP.set0 (h : BxP w g u v T) (x : Value) : BxP (w.setCell ⟨g, 0, none⟩ x) g x v T := blk_set h 0 x
theorem BxP.set1 (h : BxP w g u v T) (x : Value) : BxP (w.setCell ⟨g, 1, none⟩ x) g u x T := blk_set h 1 x
theorem BxP.other (h : BxP w g u v T) {g' : Nat} (hne : g ≠ g') (i : Nat) (x : Value) : BxP (w.setCell ⟨g', i, none⟩ x) g u v T := (Below.heap_setCell w _ _ g (fun e => hne (by simpa using e))).trans h
theorem BxP.facts (h : BxP w g u v T) : w.cell? ⟨g, 0, none⟩ = some u ∧ w.cell? ⟨g, 1, none⟩ = some v ∧ w.frozen? ⟨g, 0, none⟩ = false ∧ w.frozen? ⟨g, 1, none⟩ = false ∧ g < w.heap.size :=
  ⟨by rw [cell_of_row _ _ _ _ _ _ h]; rfl, by rw [cell_of_row _ _ _ _ _ _ h]; rfl, blk_frozen h 0, blk_frozen h 1, blk_lt h⟩
end
section
variable {w w' : World} {gx gy : Nat} {u v u' v' : Value} {T T' : TypeId}
theorem bxP_next (h : BxP w gx u v T ∧ BxP w gy u' v' T') (hB : Below w.heap.size w w') : BxP w' gx u v T ∧ BxP w' gy u' v' T' := ⟨h.1.next hB, h.2.next hB⟩
theorem bxP_four (h : BxP w gx u v T ∧ BxP w gy u' v' T') : w.cell? ⟨gx, 0, none⟩ = some u ∧ w.cell? ⟨gx, 1, none⟩ = some v ∧ w.cell? ⟨gy, 0, none⟩ = some u' ∧ w.cell? ⟨gy, 1, none⟩ = some v' := ⟨h.1.facts.1, h.1.facts.2.1, h.2.facts.1, h.2.facts.2.1⟩
end
/-- what toProject leaves -/
def ToPP (fs : List Fl) (rs : List Ru) (w : World) (e : Ending) (w' : World) : Prop :=
  ∃ g1 g2, e = .returned (.agg #[.slice (some ⟨g1, 0, none⟩) fs.length fs.length, .slice (some ⟨g2, 0, none⟩) rs.length rs.length]) ∧ FilesAt w' w'.heap.size (some ⟨g1, 0, none⟩) fs.length fs ∧ RuAt w' w.heap.size w'.heap.size rs (some ⟨g2, 0, none⟩) rs.length ∧ Below w.heap.size w w'

set_option maxHeartbeats 1000000 in
theorem toProject_any (a1 a2 : Option Addr) (n1 n2 c1 c2 : Nat) (fs : List Fl) (rs : List Ru) (w : World) (hf : FilesAt w w.heap.size a1 n1 fs) (hr : RuAt w 0 w.heap.size rs a2 n2) (hz : fs.length + tot fs + (rs.length + ruTot rs) ≤ 1048576) :
    Calls Tryz.prog 7 #[.agg #[.slice a1 n1 c1, .slice a2 n2 c2]] w (ToPP fs rs w) := by
  obtain rfl := hf.1
  obtain rfl := hr.1
  have hB0 := (((Below.refl w.heap.size w).alloc (Nat.le_refl _) (.cells #[.slice a1 fs.length c1, .slice a2 rs.length c2] 25)).alloc (by simp) (.cells #[.slice none 0 0, .slice none 0 0] 36)).alloc (by simp; omega) (.cells #[.slice none 0 0, .slice none 0 0] 36)
  have hw0 : (((w.alloc (.cells #[.slice a1 fs.length c1, .slice a2 rs.length c2] 25)).alloc (.cells #[.slice none 0 0, .slice none 0 0] 36)).alloc (.cells #[.slice none 0 0, .slice none 0 0] 36)).heap.size = w.heap.size + 1 + 1 + 1 := by simp
  have hP0 := ((BxP.new w (.slice a1 fs.length c1) (.slice a2 rs.length c2) 25).alloc (.cells #[.slice none 0 0, .slice none 0 0] 36)).alloc (.cells #[.slice none 0 0, .slice none 0 0] 36)
  have hG0 := (BxP.new (w.alloc (.cells #[.slice a1 fs.length c1, .slice a2 rs.length c2] 25)) (.slice none 0 0) (.slice none 0 0) 36).alloc (.cells #[.slice none 0 0, .slice none 0 0] 36)
  have hO0 := BxP.new ((w.alloc (.cells #[.slice a1 fs.length c1, .slice a2 rs.length c2] 25)).alloc (.cells #[.slice none 0 0, .slice none 0 0] 36)) (.slice none 0 0) (.slice none 0 0) 36
  simp only [World.size_alloc] at hG0 hO0
  go_enter Tryz.func7, Tryz.ntmps7
  go_wp2_with fail
  refine (toFileS_any a1 fs.length c1 fs _ ((hf.below hB0).more hB0.size) (by omega)).mono ?_
  rintro e w1 ⟨g1, rfl, hg1, hown, hB1⟩
  have hP1 := hP0.next hB1
  have hG1 := hG0.next hB1
  have hO1 := hO0.next hB1
  rw [hw0] at hg1
  have B1 := hB0.trans (hB1.mono hB0.size)
  obtain ⟨p0, p1, pf0, pf1, hpl⟩ := hP1.facts
  obtain ⟨o0, o1, of0, of1, hol⟩ := hO1.facts
  have hO2 := hO1.set0 (.slice (some ⟨g1, 0, none⟩) fs.length fs.length)
  have hP2 := hP1.other (g' := w.heap.size + 1 + 1) (by omega) 0 (.slice (some ⟨g1, 0, none⟩) fs.length fs.length)
  have hG2 := hG1.other (g' := w.heap.size + 1 + 1) (by omega) 0 (.slice (some ⟨g1, 0, none⟩) fs.length fs.length)
  have B2 : Below w.heap.size w (w1.setCell ⟨w.heap.size + 1 + 1, 0, none⟩ (.slice (some ⟨g1, 0, none⟩) fs.length fs.length)) := B1.setCell (Nat.le_trans (Nat.le_succ _) (Nat.le_succ _)) _
  have hown2 : OwnF (w1.setCell ⟨w.heap.size + 1 + 1, 0, none⟩ (.slice (some ⟨g1, 0, none⟩) fs.length fs.length)) 83 g1 fs := (Below.heap_setCell w1 _ _ g1 (by simp; omega)).trans hown
  clear hO1 hP1 hG1 hO0 hP0 hG0 hown
  go_wp2_with fail
  generalize w1.setCell ⟨w.heap.size + 1 + 1, 0, none⟩ (.slice (some ⟨g1, 0, none⟩) fs.length fs.length) = W at *
  refine (toRuleS_any rs a2 rs.length c2 _ (hr.next B2) (by omega)).mono ?_
  rintro e w3 ⟨g2, rfl, hru, hB3⟩
  have hP3 := hP2.next hB3
  have hG3 := hG2.next hB3
  have hO3 := hO2.next hB3
  have B3 := B2.trans (hB3.mono B2.size)
  have hWl := blk_lt hO2
  have hown3 : OwnF w3 83 g1 fs := (hB3.block g1 hown2.lt).trans hown2
  obtain ⟨q0, q1, qf0, qf1, hql⟩ := hG3.facts
  obtain ⟨r0, r1, rf0, rf1, hrl⟩ := hO3.facts
  go_wp2_with fail
  refine bodyPost_ret (v := .agg #[.slice (some ⟨g1, 0, none⟩) fs.length fs.length, .slice (some ⟨g2, 0, none⟩) rs.length rs.length]) (by simp [results, Tryz.results7, go_sem, *]) rfl ?_
  have hs2 := B2.size
  have hownW : OwnF (((w3.setCell ⟨w.heap.size + 1 + 1, 1, none⟩ (.slice (some ⟨g2, 0, none⟩) rs.length rs.length)).setCell ⟨w.heap.size + 1, 0, none⟩ (.slice (some ⟨g1, 0, none⟩) fs.length fs.length)).setCell ⟨w.heap.size + 1, 1, none⟩ (.slice (some ⟨g2, 0, none⟩) rs.length rs.length)) 83 g1 fs :=
    (Below.heap_setCell _ _ _ g1 (by simp; omega)).trans ((Below.heap_setCell _ _ _ g1 (by simp; omega)).trans ((Below.heap_setCell _ _ _ g1 (by simp; omega)).trans hown3))
  exact ⟨g1, g2, rfl, hownW.in_ rfl, (((hru.setCell (g := w.heap.size + 1 + 1) (.inl (by omega)) _ _).setCell (g := w.heap.size + 1) (.inl (by omega)) _ _).setCell (g := w.heap.size + 1) (.inl (by omega)) _ _).more hs2 (by simp [World.setCell]),
    ((B3.setCell (Nat.le_trans (Nat.le_succ _) (Nat.le_succ _)) _).setCell (Nat.le_succ _) _).setCell (Nat.le_succ _) _⟩

set_option maxHeartbeats 1000000 in
theorem eqProject_any (a1 a2 b1 b2 : Option Addr) (c1 c2 d1 d2 : Nat) (fs : List Fl) (rs : List Ru) (w : World) (hf : FilesAt w w.heap.size a1 fs.length fs) (hr : RuAt w 0 w.heap.size rs a2 rs.length) (hf2 : FilesAt w w.heap.size b1 fs.length fs) (hr2 : RuAt w 0 w.heap.size rs b2 rs.length) (hrf : RuFits rs) (hn1 : fs.length ≤ maxLen) (hn2 : rs.length ≤ maxLen) :
    Calls Tryz.prog 10 #[.agg #[.slice a1 fs.length c1, .slice a2 rs.length c2], .agg #[.slice b1 fs.length d1, .slice b2 rs.length d2]] w fun e w' => e = .returned (.bool true) ∧ Below w.heap.size w w' := by
  have hB0 := ((Below.refl w.heap.size w).alloc (Nat.le_refl _) (.cells #[.slice a1 fs.length c1, .slice a2 rs.length c2] 36)).alloc (by simp) (.cells #[.slice b1 fs.length d1, .slice b2 rs.length d2] 36)
  have hP0 := (BxP.new w (.slice a1 fs.length c1) (.slice a2 rs.length c2) 36).alloc (.cells #[.slice b1 fs.length d1, .slice b2 rs.length d2] 36)
  have hQ0 := BxP.new (w.alloc (.cells #[.slice a1 fs.length c1, .slice a2 rs.length c2] 36)) (.slice b1 fs.length d1) (.slice b2 rs.length d2) 36
  rw [World.size_alloc] at hQ0
  go_enter Tryz.func10, Tryz.ntmps10
  go_wp2_with fail
  refine (eqFileS_any a1 b1 fs.length c1 fs.length d1 fs fs _ ((hf.below hB0).more hB0.size) ((hf2.below hB0).more hB0.size) hn1 hn1).mono ?_
  rintro e w1 ⟨rfl, hB1⟩
  have B1 := hB0.trans (hB1.mono hB0.size)
  obtain ⟨p0, p1, pf0, pf1, hpl⟩ := (hP0.next hB1).facts
  obtain ⟨q0, q1, qf0, qf1, hql⟩ := (hQ0.next hB1).facts
  rw [decide_eq_true (rfl : fs = fs)]
  go_wp2_with fail
  refine (eqRuleS_any rs a2 b2 rs.length c2 d2 _ (hr.next B1) (hr2.next B1) hrf hn2).mono ?_
  rintro e w2 ⟨rfl, hB2⟩
  have B2 := B1.trans (hB2.mono B1.size)
  go_wp2_with fail
  go_ret
  exact ⟨rfl, B2⟩
end Go.Proofs.YtmmjeokmoffdpaaGreat
