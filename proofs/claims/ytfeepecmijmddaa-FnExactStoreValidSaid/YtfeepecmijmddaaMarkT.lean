/-
  The law's marks: markText (for seats without lists of files).
-/
import Derived.Test.YtfeepecmijmddaaProg
import Derived.Test.YtfeepecmijmddaaFiles
import Derived.Outline
import Derived.Deep.RegionHeld3
namespace Go.Proofs.Ytfeepecmijmddaa
set_option linter.unusedVariables false
open Go.RowKit

/-- the decimal digits of k ahead of acc -/
def mkD : Nat → Nat → List UInt8 → List UInt8
  | 0, _, acc => acc
  | fuel + 1, k, acc => if k = 0 then acc else mkD fuel (k / 10) (UInt8.ofNat (48 + k % 10) :: acc)
/-- the mark k -/
def mkS (k : Nat) : ByteArray := ⟨#[109]⟩ ++ ⟨(mkD k k []).toArray⟩

theorem conv_digit (k : Nat) (w : World) : (convert 91 9 (.slice (some ⟨w.heap.size, 0, none⟩) 1 1)).run Try.prog (w.alloc (.cells #[.int .u8 (48 + (k : Int) % 10)] 5)) = .ok (.string ⟨#[UInt8.ofNat (48 + k % 10)]⟩) (w.alloc (.cells #[.int .u8 (48 + (k : Int) % 10)] 5)) := by
  refine run_convert_bytes_back _ 91 9 5 ⟨w.heap.size, 0, none⟩ 1 [UInt8.ofNat (48 + k % 10)] Try.underlying91 Try.underlying5 Try.underlying9 (fun j hj => ?_)
  obtain rfl : j = 0 := by simpa using hj
  rw [add_none, cell_of_row _ _ _ _ _ _ (heap_alloc_new w _)]
  have h : (UInt8.ofNat (48 + k % 10)).toNat = 48 + k % 10 := by rw [UInt8.toNat_ofNat']; omega
  simp only [List.getElem_cons_zero, h]
  simp

set_option maxRecDepth 100000 in
set_option maxHeartbeats 400000 in
theorem markText_any (k : Nat) (w : World) (h0 : 1 ≤ k) (h1 : k ≤ 8388608) :
    Calls Try.prog 49 #[.int .i64 k] w fun e w' => e = .returned (.string (mkS k)) ∧ Below w.heap.size w w' := by
  go_enter Try.func49, Try.ntmps49
  go_wp2_with fail
  go_loopw [0, 3] (fun x s wr => ∃ (fuel kk : Nat) (acc : List UInt8), x = .int .i64 kk ∧ s = .string ⟨acc.toArray⟩ ∧ kk ≤ fuel ∧ mkD fuel kk acc = mkD k k [] ∧ acc.length + fuel = k ∧ Below w.heap.size w wr) (fun x _ _ => (intOf x).toNat)
  case atStart => exact ⟨k, k, [], rfl, rfl, Nat.le_refl _, rfl, by simp, Below.refl _ _⟩
  case round =>
    obtain ⟨fuel, kk, acc, rfl, rfl, hkf, hd, hacc, hB⟩ := hrel
    by_cases hk : 0 < kk
    · have hcv := fun W => conv_digit kk W
      have q := fun W => run_string_add_sum (P := Try.prog) W ⟨#[UInt8.ofNat (48 + kk % 10)]⟩ ⟨acc.toArray⟩ (by simp [ByteArray.size]; omega)
      have HD := Lib.hid hd; clear hd
      go_wp2_with fail
      obtain ⟨f, rfl⟩ : ∃ f, fuel = f + 1 := ⟨fuel - 1, by omega⟩
      exact ⟨⟨f, kk / 10, UInt8.ofNat (48 + kk % 10) :: acc, by go_num, by rw [ByteArray.mk_append_mk]; simp, by omega, by rw [← HD.out, mkD, if_neg (by omega)], by simp; omega, hB.alloc hB.size _⟩, by simp [intOf]; omega⟩
    · obtain rfl : kk = 0 := by omega
      have HD : Hid (acc = mkD k k []) := by
        have : mkD fuel 0 acc = acc := by cases fuel <;> simp [mkD]
        exact Lib.hid (this ▸ hd)
      clear hd
      have q := fun W => run_string_add_sum (P := Try.prog) W ⟨#[109]⟩ ⟨acc.toArray⟩ (by simp [ByteArray.size]; omega)
      go_wp2_with fail
      go_ret
      exact ⟨ret_str (by unfold mkS; rw [← HD.out]), hB⟩

theorem markText_at {z : Int} (m : Nat) (w : World) (hz : z = (m : Int)) (h0 : 1 ≤ m) (h1 : m ≤ 8388608) :
    Calls Try.prog 49 #[.int .i64 z] w fun e w' => e = .returned (.string (mkS m)) ∧ Below w.heap.size w w' := by
  subst hz; exact markText_any m w h0 h1
end Go.Proofs.Ytfeepecmijmddaa
