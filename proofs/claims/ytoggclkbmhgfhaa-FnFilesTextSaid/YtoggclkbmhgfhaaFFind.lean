/-
  What FindFile answers, of the program and of the model.
-/
import Derived.Test.YtoggclkbmhgfhaaProg
import Derived.Test.YtoggclkbmhgfhaaFiles
namespace Go.Proofs.Ytoggclkbmhgfhaa
set_option linter.unusedVariables false
open Go.RowKit

end Go.Proofs.Ytoggclkbmhgfhaa
