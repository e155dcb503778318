/-
  The reference's SetSource and RemoveSource.
-/
import Derived.Test.YtmmjeokmoffdpaaGreatQEdT
import Derived.Deep.RegionHeld3
namespace Go.Proofs.YtmmjeokmoffdpaaGreat
set_option linter.unusedVariables false
set_option linter.unusedSimpArgs false
open Go.RowKit

theorem ownsF_nil {w : World} {base n c : Nat} {a : Option Addr} {fs : List Fl} (h : OwnsF w base (.slice a n c) fs) : a = none → n = 0 ∧ c = 0 := by
  rintro rfl
  rcases h.2 with ⟨e, _⟩ | ⟨g, cap, cur, e, _⟩
  · injection e with _ e2 e3; exact ⟨e2, e3⟩
  · injection e with e1; cases e1
theorem setSrcR_chk {f : Fl} {fs : List Fl} {rs : List Ru} (h : projB fs rs = true) : setSrcR f fs rs = chkR (putF f fs) rs := by
  unfold setSrcR chkR
  by_cases h2 : projB (putF f fs) rs = true
  · rw [if_pos ⟨h, h2⟩, if_pos h2]
  · rw [if_neg (fun h => h2 h.2), if_neg h2]
theorem setSrcR_bad {f : Fl} {fs : List Fl} {rs : List Ru} (h : projB fs rs = false) : setSrcR f fs rs = ([], [], false) := if_neg (fun h2 => by rw [h] at h2; cases h2.1)
theorem delSrcR_chk {x : ByteArray} {fs : List Fl} {rs : List Ru} (h : projB fs rs = true) (h2 : hasF fs x = true) : delSrcR x fs rs = chkR (delU x fs) rs := by
  unfold delSrcR chkR
  by_cases h3 : projB (delU x fs) rs = true
  · rw [if_pos ⟨h, h2, h3⟩, if_pos h3]
  · rw [if_neg (fun h => h3 h.2.2), if_neg h3]
theorem delSrcR_bad {x : ByteArray} {fs : List Fl} {rs : List Ru} (h : projB fs rs = false) : delSrcR x fs rs = ([], [], false) := if_neg (fun h2 => by rw [h] at h2; cases h2.1)
theorem delSrcR_not {x : ByteArray} {fs : List Fl} {rs : List Ru} (h : hasF fs x = false) : delSrcR x fs rs = ([], [], false) := if_neg (fun h2 => by rw [h] at h2; cases h2.2.1)
theorem delSrcR_no {x : ByteArray} {fs gs : List Fl} {rs : List Ru} (h : delR x fs = (gs, false)) : delSrcR x fs rs = ([], [], false) := by
  unfold delR at h
  split at h
  · cases h
  · rename_i h2
    exact if_neg fun h3 => h2 ⟨proj_valid h3.1, h3.2.1⟩
theorem delSrcR_yes {x : ByteArray} {fs gs : List Fl} {rs : List Ru} (hp : projB fs rs = true) (h : delR x fs = (gs, true)) : delSrcR x fs rs = chkR gs rs := by
  unfold delR at h
  split at h
  · rename_i h2
    cases h
    exact delSrcR_chk hp h2.2
  · cases h
theorem two_two {w : World} {g g' : Nat} {u v u' v' : Value} {T T' : TypeId} (h : BxP w g u v T) (h' : BxP w g' u' v' T') : w.cell? ⟨g, 0, none⟩ = some u ∧ w.cell? ⟨g, 1, none⟩ = some v ∧ w.cell? ⟨g', 0, none⟩ = some u' ∧ w.cell? ⟨g', 1, none⟩ = some v' := ⟨h.facts.1, h.facts.2.1, h'.facts.1, h'.facts.2.1⟩
/-- the reference's answer, behind the store into its result's box -/
theorem edS_store {w0 w w4 : World} {r : List Fl × List Ru × Bool} {g c1 : Nat} {a1 a2 : Option Addr} (c2 : Nat) (h1 : OwnsF w4 w.heap.size (.slice a1 r.1.length c1) r.1) (h2 : RuAt w4 w.heap.size w4.heap.size r.2.1 a2 r.2.1.length) (hB : Below w0.heap.size w0 w4) (hw : w0.heap.size ≤ w.heap.size) (hg : g < w.heap.size) (hg0 : w0.heap.size ≤ g) (x y : Value) :
    EdS r w0 (.returned (.tuple #[.agg #[.slice a1 r.1.length c1, .slice a2 r.2.1.length c2], .bool r.2.2])) ((w4.setCell ⟨g, 0, none⟩ x).setCell ⟨g, 1, none⟩ y) := by
  refine ⟨a1, c1, a2, c2, rfl, World.ownsRow.mono (OwnsF.set (OwnsF.set h1 hg 0 x) hg 1 y) hw, ?_, (hB.setCell (p := ⟨g, 0, none⟩) hg0 x).setCell (p := ⟨g, 1, none⟩) hg0 y⟩
  exact ((h2.setCell (.inl hg) 0 x).setCell (.inl hg) 1 y).more hw (by simp [World.setCell])

end Go.Proofs.YtmmjeokmoffdpaaGreat
