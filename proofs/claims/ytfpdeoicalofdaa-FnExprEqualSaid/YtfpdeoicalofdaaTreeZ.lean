/-
  The law's helper szExpr: what is left of a budget behind an expression.
-/
import Derived.Test.YtfpdeoicalofdaaProg
import Derived.Test.YtfpdeoicalofdaaTree
namespace Go.Proofs.Ytfpdeoicalofdaa
set_option linter.unusedVariables false
open Go.RowKit

theorem Fo.drop_tot_le : ∀ (f : Fo) (j : Nat), (f.drop j).tot ≤ f.tot
  | .nil, 0 => Nat.le_refl _
  | .nil, _ + 1 => Nat.le_refl _
  | .node k s ks r, 0 => Nat.le_refl _
  | .node k s ks r, j + 1 => by have := drop_tot_le r j; simp only [drop, tot]; omega
/-- what is left behind a list of expressions -/
def szS (left : Int) (f : Fo) : Int := if (f.len + f.tot : Int) ≤ left then left - (f.len + f.tot) else -1
/-- what is left behind one expression -/
def szE (left : Int) (s : ByteArray) (ks : Fo) : Int := if (s.size + ks.len + ks.tot : Int) ≤ left then left - (s.size + ks.len + ks.tot) else -1
end Go.Proofs.Ytfpdeoicalofdaa
