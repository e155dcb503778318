/-
  Plain words for StoreValid.
-/
import Derived.Test.YtaiijnepeccllaaGreatQEnV
namespace Go.Proofs.YtaiijnepeccllaaGreat
set_option linter.unusedVariables false
open Go.RowKit

theorem enAll_step {p : Nat → Bool} {n : Nat} (h : (List.range n).all p = true) (h2 : p n = true) : (List.range (n + 1)).all p = true := by rw [List.range_succ, List.all_append, h]; simpa using h2
theorem enAll_false {p : Nat → Bool} {k n : Nat} (hk : k < n) (h : p k = false) : (List.range n).all p = false := by
  rw [List.all_eq_false]
  exact ⟨k, List.mem_range.2 hk, by simp [h]⟩
/-- the entry at a place -/
def enGet (es : List En) (j : Nat) : En := (es[j]?).getD (.empty, .empty, [], .empty)
theorem enGet_of {es : List En} {j : Nat} {x : En} (h : es[j]? = some x) : enGet es j = x := by unfold enGet; rw [h]; rfl
/-- its target is greater than the one before -/
def ascE (es : List En) (j : Nat) : Bool := decide (j = 0) || Op.bytesLess (enGet es (j - 1)).1.toList (enGet es j).1.toList
/-- it is right -/
def stOk (pb : ByteArray → Bool) (es : List En) (j : Nat) : Bool := ascE es j && enB (pb (enGet es j).2.1) (enGet es j)
def stB (pb : ByteArray → Bool) (es : List En) : Bool := (List.range es.length).all (stOk pb es) && decide (es.length ≤ 20)
theorem stOk_eq {pb : ByteArray → Bool} {es : List En} {j : Nat} {x : En} {r : Bool} (h : es[j]? = some x) (ha : ascE es j = r) : stOk pb es j = (r && enB (pb x.2.1) x) := by unfold stOk; rw [ha, enGet_of h]
theorem stB_false {pb : ByteArray → Bool} {es : List En} {k n : Nat} (hl : es.length = n) (hk : k < n) (h : stOk pb es k = false) : stB pb es = false := by unfold stB; rw [enAll_false (n := es.length) (k := k) (by omega) h, Bool.false_and]
theorem ascE_succ {es : List En} {j : Nat} {x y : En} (h : es[j]? = some x) (h2 : es[j + 1]? = some y) : ascE es (j + 1) = Op.bytesLess x.1.toList y.1.toList := by
  unfold ascE
  rw [show j + 1 - 1 = j from rfl, enGet_of h, enGet_of h2]
  rfl
end Go.Proofs.YtaiijnepeccllaaGreat
