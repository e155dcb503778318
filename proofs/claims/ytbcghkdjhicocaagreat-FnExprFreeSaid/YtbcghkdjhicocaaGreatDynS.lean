/-
  The model's ExprDynamic.
-/
import Derived.Test.YtbcghkdjhicocaaGreatDyn
import Derived.Test.YtbcghkdjhicocaaGreatTreeC
import Derived.Test.YtbcghkdjhicocaaGreatBoxE
namespace Go.Proofs.YtbcghkdjhicocaaGreat
set_option linter.unusedVariables false
open Go.RowKit

/-- a read that names nothing is among these -/
def anyN (l : List (Option ByteArray)) : Bool := l.any fun o => o.isNone
theorem anyN_append (a b : List (Option ByteArray)) : anyN (a ++ b) = (anyN a || anyN b) := List.any_append
theorem dynI_expr (k : Int) (s : ByteArray) (ks : Fo) (a : Option Addr) (n c : Nat) (w : World) (hk : KA w 0 w.heap.size ks a n) (hs : s.size ≤ maxLen) (hfit : ks.Fits) (hn : n ≤ maxLen) :
    Calls Tryz.prog 9 #[.agg #[.int .i64 k, .string s, .slice a n c]] w fun e w' => e = .returned (.bool (validE k s ks && anyN (rd1 k ks))) ∧ Below w.heap.size w w' :=
  callsIn_wide.1 (dynI_in k s ks a n c w hk hs hfit hn)
end Go.Proofs.YtbcghkdjhicocaaGreat
