/-
  The law's helper eqExpr at two places that hold one expression.
-/
import Derived.Test.YtbcghkdjhicocaaProg
import Derived.Test.YtbcghkdjhicocaaTree
import Derived.StillTailTactics
namespace Go.Proofs.Ytbcghkdjhicocaa
set_option linter.unusedVariables false
open Go.RowKit

end Go.Proofs.Ytbcghkdjhicocaa
