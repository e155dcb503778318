/-
  Boxes that hold an expression; what the exact laws' argument is told of.
-/
import Derived.Test.YtceiafncpimihaaGreatQTreeC
import Derived.Test.YtceiafncpimihaaGreatGone
namespace Go.Proofs.YtceiafncpimihaaGreat
set_option linter.unusedVariables false
open Go.RowKit

/-- what the law's argument is told of: a readable expression -/
def InE (w : World) (s : ByteArray) (ks : Fo) (a : Option Addr) (n c : Nat) : Prop := KA w 0 w.heap.size ks a n ∧ ks.Fits ∧ s.size ≤ maxLen ∧ n ≤ c ∧ n ≤ maxLen
end Go.Proofs.YtceiafncpimihaaGreat
