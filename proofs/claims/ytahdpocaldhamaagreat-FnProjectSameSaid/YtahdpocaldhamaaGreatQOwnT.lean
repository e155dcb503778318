/-
  Lists of expressions of one's own, beside a reader that draws.
-/
import Derived.Test.YtahdpocaldhamaaGreatGone
import Derived.Test.YtahdpocaldhamaaGreatQStepK
namespace Go.Proofs.YtahdpocaldhamaaGreat
set_option linter.unusedVariables false
open Go.RowKit

section
variable {w w' : World} {base : Nat} {v : Value} {f : Fo}
theorem OwnT.step {B R n c p q k : Nat} {a : Option Addr} (h : OwnT w base v f) (hR : R < base) (hs : Step w w' B R a n c p q k) : OwnT w' base v f := h.grown hs.grown fun g e => by injection e with e; omega
end
end Go.Proofs.YtahdpocaldhamaaGreat
