/-
  Plain words for ProjectValid.
-/
import Derived.Test.YtpaibnfmokgebaaRu
import Derived.Test.YtpaibnfmokgebaaTreeM
import Derived.Test.YtpaibnfmokgebaaFFind
namespace Go.Proofs.Ytpaibnfmokgebaa
set_option linter.unusedVariables false
open Go.RowKit

/-- a test of each of the first numbers -/
def allTo (p : Nat → Bool) (n : Nat) : Bool := (List.range n).all p
theorem allTo_succ (p : Nat → Bool) (n : Nat) : allTo p (n + 1) = (allTo p n && p n) := by simp [allTo, List.range_succ]
theorem allTo_step {p : Nat → Bool} {n : Nat} (h : allTo p n = true) (h2 : p n = true) : allTo p (n + 1) = true := by rw [allTo_succ, h, h2]; rfl
theorem allTo_false {p : Nat → Bool} {k n : Nat} (hk : k < n) (h : p k = false) : allTo p n = false := by
  unfold allTo
  rw [List.all_eq_false]
  exact ⟨k, List.mem_range.2 hk, by simp [h]⟩
theorem allTo_and (p q : Nat → Bool) (n : Nat) : allTo (fun j => p j && q j) n = (allTo p n && allTo q n) := by
  induction n with
  | zero => rfl
  | succ n ih => rw [allTo_succ, allTo_succ, allTo_succ, ih]; cases allTo p n <;> cases allTo q n <;> cases p n <;> cases q n <;> rfl
/-- the rule at a place -/
def ruGet (rs : List Ru) (j : Nat) : Ru := (rs[j]?).getD (.empty, 0, .empty, .nil)
theorem ruGet_of {rs : List Ru} {j : Nat} {x : Ru} (h : rs[j]? = some x) : ruGet rs j = x := by unfold ruGet; rw [h]; rfl
/-- its target is greater than the one before -/
def ascAt (rs : List Ru) (j : Nat) : Bool := decide (j = 0) || sLess (ruGet rs (j - 1)).1 (ruGet rs j).1
/-- its target is a path and its body is valid -/
def bodyAt (rs : List Ru) (j : Nat) : Bool := pathB (ruGet rs j).1 && validE (ruGet rs j).2.1 (ruGet rs j).2.2.1 (ruGet rs j).2.2.2
/-- its target is no source -/
def freeAt (fs : List Fl) (rs : List Ru) (j : Nat) : Bool := !(findF fs (ruGet rs j).1).2
/-- what l3Rules answers -/
def rulesB (rs : List Ru) : Bool := allTo (fun j => ascAt rs j && bodyAt rs j) rs.length && decide (rs.length ≤ 10)
/-- what ProjectValid answers -/
def projB (fs : List Fl) (rs : List Ru) : Bool := validB fs && rulesB rs && allTo (freeAt fs rs) rs.length
theorem projB_each (fs : List Fl) (rs : List Ru) : projB fs rs = (validB fs && decide (rs.length ≤ 10) && allTo (fun j => (ascAt rs j && bodyAt rs j) && freeAt fs rs j) rs.length) := by
  unfold projB rulesB
  rw [allTo_and (fun j => ascAt rs j && bodyAt rs j)]
  cases validB fs <;> cases allTo (fun j => ascAt rs j && bodyAt rs j) rs.length <;> cases decide (rs.length ≤ 10) <;> rfl
end Go.Proofs.Ytpaibnfmokgebaa
