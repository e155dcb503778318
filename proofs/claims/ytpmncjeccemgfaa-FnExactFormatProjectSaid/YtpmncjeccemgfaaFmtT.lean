/-
  The model's FormatExpr, whole.
-/
import Derived.Test.YtpmncjeccemgfaaFmtS
namespace Go.Proofs.Ytpmncjeccemgfaa
set_option linter.unusedVariables false
open Go.RowKit

theorem lf_all (N : Nat) : ∀ k s ks, Fo.size ks ≤ N → LfC k s ks := by
  induction N with
  | zero => exact fun k s ks hN => lf_of k s ks fun k' s' ks' h => absurd h (by omega)
  | succ N ih => exact fun k s ks hN => lf_of k s ks fun k' s' ks' h => ih k' s' ks' (by omega)

end Go.Proofs.Ytpmncjeccemgfaa
