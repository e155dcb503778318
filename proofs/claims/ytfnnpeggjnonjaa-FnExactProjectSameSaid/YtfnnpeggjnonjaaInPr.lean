/-
  What a law's argument is told of: a readable project.
-/
import Derived.Test.YtfnnpeggjnonjaaRu
namespace Go.Proofs.Ytfnnpeggjnonjaa
open Go.RowKit

/-- what the law's argument is told of: a readable project -/
def InP (w : World) (fs : List Fl) (rs : List Ru) (a1 a2 : Option Addr) (n1 n2 : Nat) : Prop := FilesAt w w.heap.size a1 n1 fs ∧ Fits fs ∧ n1 ≤ maxLen ∧ RuAt w 0 w.heap.size rs a2 n2 ∧ RuFits rs ∧ n2 ≤ maxLen
end Go.Proofs.Ytfnnpeggjnonjaa
