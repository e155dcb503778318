/-
  The law's marks: markText (for seats without lists of files).
-/
import Derived.Test.YtfpdeoicalofdaaProg
import Derived.Test.YtfpdeoicalofdaaFiles
import Derived.Outline
import Derived.Deep.RegionHeld3
namespace Go.Proofs.Ytfpdeoicalofdaa
set_option linter.unusedVariables false
open Go.RowKit

/-- the decimal digits of k ahead of acc -/
def mkD : Nat → Nat → List UInt8 → List UInt8
  | 0, _, acc => acc
  | fuel + 1, k, acc => if k = 0 then acc else mkD fuel (k / 10) (UInt8.ofNat (48 + k % 10) :: acc)
/-- the mark k -/
def mkS (k : Nat) : ByteArray := ⟨#[109]⟩ ++ ⟨(mkD k k []).toArray⟩

theorem conv_digit (k : Nat) (w : World) : (convert 22 9 (.slice (some ⟨w.heap.size, 0, none⟩) 1 1)).run Try.prog (w.alloc (.cells #[.int .u8 (48 + (k : Int) % 10)] 5)) = .ok (.string ⟨#[UInt8.ofNat (48 + k % 10)]⟩) (w.alloc (.cells #[.int .u8 (48 + (k : Int) % 10)] 5)) := by
  refine run_convert_bytes_back _ 22 9 5 ⟨w.heap.size, 0, none⟩ 1 [UInt8.ofNat (48 + k % 10)] Try.underlying22 Try.underlying5 Try.underlying9 (fun j hj => ?_)
  obtain rfl : j = 0 := by simpa using hj
  rw [add_none, cell_of_row _ _ _ _ _ _ (heap_alloc_new w _)]
  have h : (UInt8.ofNat (48 + k % 10)).toNat = 48 + k % 10 := by rw [UInt8.toNat_ofNat']; omega
  simp only [List.getElem_cons_zero, h]
  simp

end Go.Proofs.Ytfpdeoicalofdaa
