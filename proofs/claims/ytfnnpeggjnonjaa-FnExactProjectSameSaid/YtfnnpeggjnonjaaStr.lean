/-
  What the functions on single strings answer: bytesBetween, PathValid and TextValid, of the program and of the model.
-/
import Derived.Test.YtfnnpeggjnonjaaProg
import Derived.Test.YtfnnpeggjnonjaaBase
namespace Go.Proofs.Ytfnnpeggjnonjaa
set_option linter.unusedVariables false
open Go.RowKit

end Go.Proofs.Ytfnnpeggjnonjaa
