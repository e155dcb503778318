/-
  The reference's FindRule.
-/
import Derived.Test.YtmmjeokmoffdpaaGreatGone
import Derived.Test.YtmmjeokmoffdpaaGreatQPrV
import Derived.Test.YtmmjeokmoffdpaaGreatQPrW
namespace Go.Proofs.YtmmjeokmoffdpaaGreat
set_option linter.unusedVariables false
set_option linter.unusedSimpArgs false
open Go.RowKit

/-- what l3Rule finds -/
def ruleF (rs : List Ru) (x : ByteArray) : Int × ByteArray × Fo × Bool := match findB rs x with
  | some (k, s, ks) => (k, s, ks, true)
  | none => (0, .empty, .nil, false)
/-- what l3Rule leaves -/
def L3P (k : Int) (s : ByteArray) (ks : Fo) (found : Bool) (w : World) (e : Ending) (w' : World) : Prop := ∃ a n c, e = .returned (.tuple #[.agg #[.int .i64 k, .string s, .slice a n c], .bool found]) ∧ KA w' 0 w'.heap.size ks a n ∧ n ≤ c ∧ Below w.heap.size w w'

theorem ruleF_false {rs : List Ru} {x : ByteArray} {k : Int} {s : ByteArray} {ks : Fo} (h : ruleF rs x = (k, s, ks, false)) (fs : List Fl) : findP fs rs x = (0, .empty, .nil, false) := by
  unfold ruleF at h
  unfold findP
  cases hf : findB rs x with
  | some y => rw [hf] at h; simp at h
  | none => split <;> rfl
theorem ruleF_true {rs : List Ru} {x : ByteArray} {k : Int} {s : ByteArray} {ks : Fo} (h : ruleF rs x = (k, s, ks, true)) : findB rs x = some (k, s, ks) := by
  unfold ruleF at h
  cases hf : findB rs x with
  | some y =>
    obtain ⟨k', s', ks'⟩ := y
    rw [hf] at h
    simp only [Prod.mk.injEq] at h
    obtain ⟨rfl, rfl, rfl, _⟩ := h
    rfl
  | none => rw [hf] at h; simp at h
/-- what the reference's FindRule leaves -/
def FsP (k : Int) (s : ByteArray) (ks : Fo) (found : Bool) (w : World) (e : Ending) (w' : World) : Prop := ∃ a c, e = .returned (.tuple #[.agg #[.int .i64 k, .string s, .slice a ks.len c], .bool found]) ∧ KA w' w.heap.size w'.heap.size ks a ks.len ∧ Below w.heap.size w w'

end Go.Proofs.YtmmjeokmoffdpaaGreat
