/-
  The law's helper eqExpr at two places that hold one expression.
-/
import Derived.Test.YtfpdeoicalofdaaProg
import Derived.Test.YtfpdeoicalofdaaTree
import Derived.StillTailTactics
namespace Go.Proofs.Ytfpdeoicalofdaa
set_option linter.unusedVariables false
open Go.RowKit

end Go.Proofs.Ytfpdeoicalofdaa
