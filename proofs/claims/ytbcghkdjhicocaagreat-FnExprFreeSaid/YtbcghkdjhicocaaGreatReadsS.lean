/-
  The model's ExprReads.
-/
import Derived.Test.YtbcghkdjhicocaaGreatReads
import Derived.Test.YtbcghkdjhicocaaGreatTreeC
import Derived.Test.YtbcghkdjhicocaaGreatApp
import Derived.Test.YtbcghkdjhicocaaGreatBoxE
namespace Go.Proofs.YtbcghkdjhicocaaGreat
set_option linter.unusedVariables false
set_option linter.unusedSimpArgs false
open Go.RowKit

/-- a list of one's own went on: its block was turned, or it lies in a new one -/
def OwnStep (w w' : World) (v v' : Value) : Prop := w.grownBy w' v.ownBlock ∧ (v'.ownBlock = v.ownBlock ∨ ∀ g, v'.ownBlock = some g → w.heap.size ≤ g)
theorem OwnStep.trans {w w' w'' : World} {v v' v'' : Value} (h : OwnStep w w' v v') (h2 : OwnStep w' w'' v' v'') : OwnStep w w'' v v'' := by
  refine ⟨⟨h2.1.os.trans h.1.os, h2.1.tape.trans h.1.tape, h2.1.output.trans h.1.output, Nat.le_trans h.1.size h2.1.size, fun k hk hne => ?_⟩, ?_⟩
  · refine (h2.1.block k (Nat.lt_of_lt_of_le hk h.1.size) fun e => ?_).trans (h.1.block k hk hne)
    rcases h.2 with h3 | h3
    · exact hne (e.trans h3)
    · have := h3 k e.symm; omega
  · rcases h2.2 with h3 | h3
    · rw [h3]; exact h.2
    · exact .inr fun g hg => Nat.le_trans h.1.size (h3 g hg)
theorem OwnStep.alloc (w : World) (v : Value) (o : Obj) : OwnStep w (w.alloc o) v v := ⟨World.grownBy_alloc w o _, .inl rfl⟩
theorem OwnStep.refl (w : World) (v : Value) : OwnStep w w v v := ⟨⟨rfl, rfl, rfl, Nat.le_refl _, fun _ _ _ => rfl⟩, .inl rfl⟩
theorem OwnStep.below {w w' : World} {v v' : Value} {B : Nat} {ss : List ByteArray} (h : OwnStep w w' v v') (ho : OwnsS w B v ss) (hB : B ≤ w.heap.size) : Below B w w' := (Below.refl B w).grown h.1 hB (strs_at ho)
theorem OwnStep.box {w w' : World} {v v' : Value} {B : Nat} {ss : List ByteArray} {k : Int} {s : ByteArray} {u : Value} {T : TypeId} (h : OwnStep (w.alloc (.cells #[.int .i64 k, .string s, u] T)) w' v v') (ho : OwnsS w B v ss) : BxE w' w.heap.size k s u T :=
  (h.1.block w.heap.size (by simp) (fun e => by have := strs_lt ho _ e.symm; omega)).trans (heap_alloc_new w _)
theorem uniqN_append (xs : List ByteArray) (l m : List (Option ByteArray)) : uniqN xs (l ++ m) = uniqN (uniqN xs l) m := List.foldl_append

end Go.Proofs.YtbcghkdjhicocaaGreat
