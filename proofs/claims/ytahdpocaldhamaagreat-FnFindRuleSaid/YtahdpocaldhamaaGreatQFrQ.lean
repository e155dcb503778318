/-
  Plain words for FnFindRule: a rule is found exactly if the target is a path of the project but not of a source; what is found is a valid expression.
-/
import Derived.Test.YtahdpocaldhamaaGreatQPpQ
import Derived.Test.YtahdpocaldhamaaGreatQOwnS
import Derived.Test.YtahdpocaldhamaaGreatQFmP
namespace Go.Proofs.YtahdpocaldhamaaGreat
set_option linter.unusedVariables false
open Go.RowKit

theorem findP_bad {fs : List Fl} {rs : List Ru} {x : ByteArray} (h : projB fs rs = false) : findP fs rs x = (0, .empty, .nil, false) := by unfold findP; rw [h]; rfl
theorem findP_law {fs : List Fl} {rs : List Ru} {x : ByteArray} (h : projB fs rs = true) : (findP fs rs x).2.2.2 = (hasB (pathsP fs rs) x && !(findF fs x).2) := by
  rw [Bool.eq_iff_iff, findP_two h, Bool.and_eq_true, Bool.not_eq_true', hasB_iff, paths_mem h]
  constructor
  · rintro ⟨r, hr, rfl⟩
    refine ⟨.inr ⟨r, hr, rfl⟩, ?_⟩
    rw [Bool.eq_false_iff]
    intro hf
    obtain ⟨f, hf, e⟩ := findF_two.1 hf
    exact proj_free h hf hr e
  · rintro ⟨hm | hm, hn⟩
    · rw [findF_two.2 hm] at hn
      cases hn
    · exact hm
theorem findP_val {fs : List Fl} {rs : List Ru} {x : ByteArray} (h : projB fs rs = true) (hf : (findP fs rs x).2.2.2 = true) : validE (findP fs rs x).1 (findP fs rs x).2.1 (findP fs rs x).2.2.1 = true := by
  unfold findP at hf ⊢
  rw [if_pos h] at hf ⊢
  cases hb : findB rs x with
  | none => rw [hb] at hf; cases hf
  | some y => exact ((proj_sizes h).2.2.2 _ (findB_some hb)).2.2
/-- what is found is no larger than the rules -/
theorem findP_sm {z : Nat} {fs : List Fl} {rs : List Ru} {x : ByteArray} (h : ∀ r ∈ rs, r.2.2.2.size ≤ z ∧ r.2.2.2.Fits ∧ r.2.2.1.size ≤ 1000 ∧ r.2.2.2.len ≤ z) : (findP fs rs x).2.2.1.size ≤ z ∧ (findP fs rs x).2.2.1.Fits ∧ (findP fs rs x).2.1.size ≤ 1000 ∧ (findP fs rs x).2.2.1.len ≤ z := by
  unfold findP
  split
  · cases hb : findB rs x with
    | none => exact ⟨Nat.zero_le _, trivial, Nat.zero_le _, Nat.zero_le _⟩
    | some y => exact h _ (findB_some hb)
  · exact ⟨Nat.zero_le _, trivial, Nat.zero_le _, Nat.zero_le _⟩
end Go.Proofs.YtahdpocaldhamaaGreat
