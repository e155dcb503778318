/-
  The model's ExprValid.
-/
import Derived.Test.YtfnnpeggjnonjaaProg
import Derived.Test.YtfnnpeggjnonjaaTreeM
import Derived.Test.YtfnnpeggjnonjaaStr
import Derived.StillTailTactics
namespace Go.Proofs.Ytfnnpeggjnonjaa
set_option linter.unusedVariables false
open Go.RowKit

theorem nE_false {s : ByteArray} (h : s ≠ .empty) : (s.toList == ([] : List UInt8)) = false := by
  rw [beq_eq_false_iff_ne]
  intro e
  exact h (WideShapes.bytes_inj (by rw [← Lib.toList_data, e]; rfl))
theorem nE_true {s : ByteArray} (h : s = .empty) : (s.toList == ([] : List UInt8)) = true := by subst h; rw [Lib.toList_data]; rfl
/-- one node, well-formed down to a depth -/
def shape1 (k : Int) (s : ByteArray) (ks : Fo) (d : Nat) : Bool := decide (1 ≤ d) && nodeB k s ks.len && shape ks (d - 1)
theorem shape_node (k : Int) (s : ByteArray) (ks r : Fo) (d : Nat) : shape (.node k s ks r) d = (shape1 k s ks d && shape r d) := rfl
/-- one node's count -/
def count1 (ks : Fo) (d : Nat) : Nat := 1 + if 0 < d then count ks (d - 1) else 0
theorem count_node (k : Int) (s : ByteArray) (ks r : Fo) (d : Nat) : count (.node k s ks r) d = count1 ks d + count r d := rfl
/-- the box of an argument, as a later world holds it -/
theorem box_cells {w wr : World} {k : Int} {s : ByteArray} {v : Value} {T : TypeId} (hB : Below (w.alloc (.cells #[.int .i64 k, .string s, v] T)).heap.size (w.alloc (.cells #[.int .i64 k, .string s, v] T)) wr) :
    wr.cell? ⟨w.heap.size, 0, none⟩ = some (.int .i64 k) ∧ wr.cell? ⟨w.heap.size, 1, none⟩ = some (.string s) ∧ wr.cell? ⟨w.heap.size, 2, none⟩ = some v := by
  have h := (hB.block w.heap.size (by simp)).trans (heap_alloc_new w _)
  refine ⟨?_, ?_, ?_⟩ <;> (rw [cell_of_row _ _ _ _ _ _ h]; rfl)
end Go.Proofs.Ytfnnpeggjnonjaa
