/-
  The program's SetSource and RemoveSource.
-/
import Derived.Test.YtmmjeokmoffdpaaGreatQEdF
namespace Go.Proofs.YtmmjeokmoffdpaaGreat
set_option linter.unusedVariables false
set_option linter.unusedSimpArgs false
open Go.RowKit

theorem edP_set {w w' : World} {fs : List Fl} {rs : List Ru} {b : Bool} {e : Ending} {n0 i : Nat} (hn : n0 ≤ i) (hi : i < w.heap.size) (h0 : Below n0 w w') (x y : Value) (a1 : Option Addr) (c1 : Nat) (a : Option Addr) (c : Nat) (bs : List (Nat × Fo)) (g : Nat) (h1 : OwnsF w' w.heap.size (.slice a1 fs.length c1) fs) (h2 : ∀ x ∈ rblksA g bs, (Value.slice a1 fs.length c1).ownBlock ≠ some x) (h3 : CopQ w' w.heap.size rs a c bs g) (w0 : World) (hw0 : w0.heap.size = n0) (hb : Below n0 w0 w) :
    EdP fs rs b w0 (.returned (.tuple #[.agg #[.slice a1 fs.length c1, .slice a rs.length c], .bool b])) ((w'.setCell ⟨i, 0, none⟩ x).setCell ⟨i, 1, none⟩ y) := by
  obtain ⟨k1, k2, k3⟩ := copPr_mk (n0 := n0) h1 h3 h2 (by omega) i hi x y
  subst hw0
  exact ⟨a1, c1, a, c, bs, g, rfl, k1, k2, k3, ((hb.trans h0).setCell (p := ⟨i, 0, none⟩) hn x).setCell (p := ⟨i, 1, none⟩) hn y⟩

theorem putR_fit {p t : ByteArray} {fs fs' : List Fl} {b : Bool} (hs : Fits fs) (hn : fs.length ≤ 1048576) (h : putR (p, t) fs = (fs', b)) (hp : p.size ≤ maxLen) (ht : t.size ≤ maxLen) : Fits fs' ∧ fs'.length ≤ 1048576 := by
  unfold putR at h
  split at h
  · rename_i hv
    cases h
    exact ⟨fits_put hs hp ht, by have := valid_length hv.2; omega⟩
  · cases h
    exact ⟨(fun f hf => by cases hf), by simp⟩
theorem delR_fit {x : ByteArray} {fs fs' : List Fl} {b : Bool} (hs : Fits fs) (hn : fs.length ≤ 1048576) (h : delR x fs = (fs', b)) : Fits fs' ∧ fs'.length ≤ 1048576 := by
  unfold delR at h
  split at h
  · cases h
    exact ⟨fun f hf => hs f (List.mem_filter.1 hf).1, by have := List.length_filter_le (fun g : Fl => decide (g.1 ≠ x)) fs; unfold delU; omega⟩
  · cases h
    exact ⟨(fun f hf => by cases hf), by simp⟩

end Go.Proofs.YtmmjeokmoffdpaaGreat
