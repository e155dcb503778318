/-
  The law's helper eqExpr at two places that hold one expression.
-/
import Derived.Test.YtbcghkdjhicocaaGreatProg
import Derived.Test.YtbcghkdjhicocaaGreatTree
import Derived.StillTailTactics
namespace Go.Proofs.YtbcghkdjhicocaaGreat
set_option linter.unusedVariables false
open Go.RowKit

end Go.Proofs.YtbcghkdjhicocaaGreat
