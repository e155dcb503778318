/-
  The law's marks: markText (for seats without lists of files).
-/
import Derived.Test.YtfnnpeggjnonjaaProg
import Derived.Test.YtfnnpeggjnonjaaFiles
import Derived.Outline
import Derived.Deep.RegionHeld3
namespace Go.Proofs.Ytfnnpeggjnonjaa
set_option linter.unusedVariables false
open Go.RowKit

/-- the decimal digits of k ahead of acc -/
def mkD : Nat → Nat → List UInt8 → List UInt8
  | 0, _, acc => acc
  | fuel + 1, k, acc => if k = 0 then acc else mkD fuel (k / 10) (UInt8.ofNat (48 + k % 10) :: acc)
/-- the mark k -/
def mkS (k : Nat) : ByteArray := ⟨#[109]⟩ ++ ⟨(mkD k k []).toArray⟩

end Go.Proofs.Ytfnnpeggjnonjaa
