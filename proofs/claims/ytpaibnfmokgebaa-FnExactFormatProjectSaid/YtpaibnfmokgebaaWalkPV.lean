/-
  The exact law FnExactProjectValid, walked, out of l3Rules' contract.
-/
import Derived.Test.YtpaibnfmokgebaaPrI
import Derived.Test.YtpaibnfmokgebaaPrV
import Derived.Deep.RegionHeld3
namespace Go.Proofs.Ytpaibnfmokgebaa
set_option linter.unusedVariables false
set_option linter.unusedSimpArgs false
open Go.RowKit

/-- what the law's argument is told of: a readable project -/
def InP (w : World) (fs : List Fl) (rs : List Ru) (a1 a2 : Option Addr) (n1 n2 : Nat) : Prop := FilesAt w w.heap.size a1 n1 fs ∧ Fits fs ∧ n1 ≤ maxLen ∧ RuAt w 0 w.heap.size rs a2 n2 ∧ RuFits rs ∧ n2 ≤ maxLen

end Go.Proofs.Ytpaibnfmokgebaa
