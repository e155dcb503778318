/-
  The drawing functions l2Still, DrawExprValid, DrawExprReads and DrawExprFree.
-/
import Derived.Test.YtfpdeoicalofdaaDrawE3
import Derived.Test.YtfpdeoicalofdaaInB
namespace Go.Proofs.Ytfpdeoicalofdaa
set_option linter.unusedVariables false
set_option linter.unusedSimpArgs false
open Go.RowKit

/-- what a drawn expression is: readable -/
def ExprDraw (w : World) (e : Ending) (w' : World) : Prop :=
  ∃ k s ks a c, e = .returned (.agg #[.int .i64 k, .string s, .slice a (Fo.len ks) c]) ∧ KP w' w.heap.size w'.heap.size ks a ks.len ∧ ks.len ≤ c ∧ s.size ≤ 100 ∧ ks.Fits ∧ ks.size ≤ 10001 ∧ Below w.heap.size w w'
theorem TreePost.drawn {m B R n c p l : Nat} {a : Option Addr} {w w1 w' : World} {e : Ending} (h : TreePost m w1 B R a n c p l e w') (hB : Below w.heap.size w w1) (hm : m ≤ 10001) (hR : w.heap.size ≤ R) : ExprDraw w e w' := by
  obtain ⟨k, s, v, ks, q, rfl, hown, hs, hf, hz, hst⟩ := h
  obtain ⟨a', c', rfl, hc, _, hk⟩ := hown.form
  exact ⟨k, s, ks, a', c', rfl, hk.more hB.size (Nat.le_refl _), hc, hs, hf, by omega, hB.trans (hst.toBelow hR hB.size)⟩

end Go.Proofs.Ytfpdeoicalofdaa
