/-
  The law's helper eqExpr at two places that hold one expression.
-/
import Derived.Test.YtfcdgdgcadolpaaProg
import Derived.Test.YtfcdgdgcadolpaaTree
import Derived.StillTailTactics
namespace Go.Proofs.Ytfcdgdgcadolpaa
set_option linter.unusedVariables false
open Go.RowKit

end Go.Proofs.Ytfcdgdgcadolpaa
