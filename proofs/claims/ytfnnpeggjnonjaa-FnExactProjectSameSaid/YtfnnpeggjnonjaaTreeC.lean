/-
  The model's ExprValid: the count of nodes, and the whole.
-/
import Derived.Test.YtfnnpeggjnonjaaTreeS
import Derived.Deep.QuietTactic
namespace Go.Proofs.Ytfnnpeggjnonjaa
set_option linter.unusedVariables false
open Go.RowKit

end Go.Proofs.Ytfnnpeggjnonjaa
