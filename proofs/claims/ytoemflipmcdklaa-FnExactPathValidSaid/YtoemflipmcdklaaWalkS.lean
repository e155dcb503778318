/-
  The laws on single strings, walked.
-/
import Derived.Test.YtoemflipmcdklaaStr
namespace Go.Proofs.Ytoemflipmcdklaa
open Go.RowKit

theorem walkFnExactPathValid (s : ByteArray) (w : World) (hs : s.size ≤ maxLen) :
    Calls Try.prog 3 #[.string s] w fun e w' => e = .returned (.bool true) ∧ Below w.heap.size w w' := by
  have hs' := hs
  unfold maxLen at hs
  go_enter Try.func3, Try.ntmps3
  go_wp2_with (first | (go_at_call 9; refine (pathS_any s _ hs').mono ?_; rintro e w' ⟨rfl, rfl⟩) | (go_at_call 10; refine (pathI_any s _ hs').mono ?_; rintro e w' ⟨rfl, rfl⟩))
  all_goals (go_ret; exact ⟨rfl, Below.refl _ _⟩)

theorem walkFnExactTextValid (s : ByteArray) (w : World) (hs : s.size ≤ maxLen) :
    Calls Try.prog 4 #[.string s] w fun e w' => e = .returned (.bool true) ∧ Below w.heap.size w w' := by
  have hs' := hs
  unfold maxLen at hs
  go_enter Try.func4, Try.ntmps4
  go_wp2_with (first | (go_at_call 11; refine (textS_any s _ hs').mono ?_; rintro e w' ⟨rfl, rfl⟩) | (go_at_call 12; refine (textI_any s _ hs').mono ?_; rintro e w' ⟨rfl, rfl⟩))
  all_goals (go_ret; exact ⟨rfl, Below.refl _ _⟩)
end Go.Proofs.Ytoemflipmcdklaa
