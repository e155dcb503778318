/-
  The exact law FnExactProjectValid, walked.
-/
import Derived.Test.YtgjanokaoiaaeaaPrS
import Derived.Test.YtgjanokaoiaaeaaWalkPV
namespace Go.Proofs.Ytgjanokaoiaaeaa
open Go.RowKit

theorem walkFnExactProjectValid (a1 a2 : Option Addr) (n1 n2 c1 c2 : Nat) (fs : List Fl) (rs : List Ru) (w : World) (h : InP w fs rs a1 a2 n1 n2) :
    Calls Try.prog 3 #[.agg #[.slice a1 n1 c1, .slice a2 n2 c2]] w fun e w' => e = .returned (.bool true) ∧ Below w.heap.size w w' :=
  walkPV_of (fun rs a n c w hr hrf hz hn => rulesS_any rs a n c w hr hrf hz hn) a1 a2 n1 n2 c1 c2 fs rs w h
end Go.Proofs.Ytgjanokaoiaaeaa
