/-
  The exact law FnExactProjectValid, walked, out of l3Rules' contract.
-/
import Derived.Test.YtmmjeokmoffdpaaGreatGone
import Derived.Test.YtmmjeokmoffdpaaGreatQPrI
import Derived.Test.YtmmjeokmoffdpaaGreatQPrV
import Derived.Deep.RegionHeld3
namespace Go.Proofs.YtmmjeokmoffdpaaGreat
set_option linter.unusedVariables false
set_option linter.unusedSimpArgs false
open Go.RowKit


end Go.Proofs.YtmmjeokmoffdpaaGreat
