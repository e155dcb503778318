/-
  Boxes that hold an expression. No program is named here.
-/
import Derived.Test.YtfpdeoicalofdaaFiles
namespace Go.Proofs.Ytfpdeoicalofdaa
set_option linter.unusedVariables false
open Go.RowKit

/-- block g is a box with an expression -/
def BxE (w : World) (g : Nat) (k : Int) (s : ByteArray) (v : Value) (T : TypeId) : Prop := w.heap[g]? = some (.cells #[.int .i64 k, .string s, v] T (0, 0))
section
variable {w w' : World} {g : Nat} {k : Int} {s : ByteArray} {v : Value} {T : TypeId}
theorem BxE.new (w : World) (k : Int) (s : ByteArray) (v : Value) (T : TypeId) : BxE (w.alloc (.cells #[.int .i64 k, .string s, v] T)) w.heap.size k s v T := heap_alloc_new w _
theorem BxE.next (h : BxE w g k s v T) (hB : Below w.heap.size w w') : BxE w' g k s v T := (hB.block g (blk_lt h)).trans h
theorem BxE.c0 (h : BxE w g k s v T) : w.cell? ⟨g, 0, none⟩ = some (.int .i64 k) := by rw [cell_of_row _ _ _ _ _ _ h]; rfl
theorem BxE.c1 (h : BxE w g k s v T) : w.cell? ⟨g, 1, none⟩ = some (.string s) := by rw [cell_of_row _ _ _ _ _ _ h]; rfl
theorem BxE.c2 (h : BxE w g k s v T) : w.cell? ⟨g, 2, none⟩ = some v := by rw [cell_of_row _ _ _ _ _ _ h]; rfl
end
end Go.Proofs.Ytfpdeoicalofdaa
