/-
  The model's l18Dec and l2Apply.
-/
import Derived.Test.YtbcghkdjhicocaaGreatFreeM
import Derived.Test.YtbcghkdjhicocaaGreatTreeS
import Derived.Laws.Concat
namespace Go.Proofs.YtbcghkdjhicocaaGreat
set_option linter.unusedVariables false
open Go.RowKit

theorem cdig (k : Nat) (w : World) : (convert 22 9 (.slice (some ⟨w.heap.size, 0, none⟩) 1 1)).run Tryz.prog (w.alloc (.cells #[.int .u8 (48 + (k : Int) % 10)] 5)) = .ok (.string ⟨#[UInt8.ofNat (48 + k % 10)]⟩) (w.alloc (.cells #[.int .u8 (48 + (k : Int) % 10)] 5)) := by
  refine run_convert_bytes_back _ 22 9 5 ⟨w.heap.size, 0, none⟩ 1 [UInt8.ofNat (48 + k % 10)] Tryz.underlying22 Tryz.underlying5 Tryz.underlying9 (fun j hj => ?_)
  obtain rfl : j = 0 := by simpa using hj
  rw [add_none, cell_of_row _ _ _ _ _ _ (heap_alloc_new w _)]
  have h : (UInt8.ofNat (48 + k % 10)).toNat = 48 + k % 10 := by rw [UInt8.toNat_ofNat']; omega
  simp only [List.getElem_cons_zero, h]
  simp
theorem cone (k : Nat) (hk : k < 10) (w : World) : (convert 22 9 (.slice (some ⟨w.heap.size, 0, none⟩) 1 1)).run Tryz.prog (w.alloc (.cells #[.int .u8 (48 + (k : Int))] 5)) = .ok (.string ⟨#[UInt8.ofNat (48 + k)]⟩) (w.alloc (.cells #[.int .u8 (48 + (k : Int))] 5)) := by
  refine run_convert_bytes_back _ 22 9 5 ⟨w.heap.size, 0, none⟩ 1 [UInt8.ofNat (48 + k)] Tryz.underlying22 Tryz.underlying5 Tryz.underlying9 (fun j hj => ?_)
  obtain rfl : j = 0 := by simpa using hj
  rw [add_none, cell_of_row _ _ _ _ _ _ (heap_alloc_new w _)]
  have h : (UInt8.ofNat (48 + k)).toNat = 48 + k := by rw [UInt8.toNat_ofNat']; omega
  simp only [List.getElem_cons_zero, h]
  simp
theorem dec_more {n : Nat} (h : ¬ n < 10) : Lib.decDigits n = Lib.decDigits (n / 10) ++ [UInt8.ofNat (48 + n % 10)] := by rw [Lib.decDigits, dif_neg h]

set_option maxRecDepth 100000 in
set_option maxHeartbeats 400000 in
theorem dec_any (n : Nat) (w : World) (hn : n ≤ 1000) :
    Calls Tryz.prog 41 #[.int .i64 n] w fun e w' => e = .returned (.string ⟨(Lib.decDigits n).toArray⟩) ∧ Below w.heap.size w w' := by
  go_enter Tryz.func41, Tryz.ntmps41
  go_wp2_with fail
  go_loopw [0, 3] (fun x s wr => ∃ (m : Nat) (acc : List UInt8), x = .int .i64 m ∧ s = .string ⟨acc.toArray⟩ ∧ m ≤ n ∧ Lib.decDigits m ++ acc = Lib.decDigits n ∧ acc.length + m ≤ n ∧ Below w.heap.size w wr) (fun x _ _ => (intOf x).toNat)
  case atStart => exact ⟨n, [], rfl, rfl, Nat.le_refl _, by simp, by simp, Below.refl _ _⟩
  case round =>
    obtain ⟨m, acc, rfl, rfl, hm, hd, hacc, hB⟩ := hrel
    have HD := Lib.hid hd; clear hd
    by_cases hk : 9 < m
    · have hcv := fun W => cdig m W
      have q := fun W => run_string_add_sum (P := Tryz.prog) W ⟨#[UInt8.ofNat (48 + m % 10)]⟩ ⟨acc.toArray⟩ (by simp [ByteArray.size]; omega)
      go_wp2_with fail
      exact ⟨⟨m / 10, UInt8.ofNat (48 + m % 10) :: acc, by go_num, by rw [ByteArray.mk_append_mk]; simp, by omega, by rw [← HD.out, dec_more (n := m) (by omega)]; simp, by simp; omega, hB.alloc hB.size _⟩, by simp [intOf]; omega⟩
    · have hcv := fun W => cone m (by omega) W
      have q := fun W => run_string_add_sum (P := Tryz.prog) W ⟨#[UInt8.ofNat (48 + m)]⟩ ⟨acc.toArray⟩ (by simp [ByteArray.size]; omega)
      go_wp2_with fail
      go_ret
      exact ⟨ret_str (by rw [← HD.out, dec_one (n := m) (by omega), ByteArray.mk_append_mk]; simp), hB.alloc hB.size _⟩

/-- what l2Apply answers -/
theorem apply_any (k : Int) (s : ByteArray) (w : World) (hk : k = 5 ∨ k = 6 ∨ k = 7) (hs : s.size ≤ 60) :
    Calls Tryz.prog 32 #[.int .i64 k, .string s] w fun e w' => e = .returned (.string ((comb k [s]).getD .empty)) ∧ Below w.heap.size w w' := by
  have hm0 : s.size = 0 → s = .empty := fun h => ByteArray.size_eq_zero_iff.1 h
  rcases hk with rfl | rfl | rfl
  · rw [show (comb 5 [s]).getD .empty = s.extract 0 (min 1 s.size) from by unfold comb; simp]
    by_cases h0 : s.size = 0
    · obtain rfl := hm0 h0
      rw [show (ByteArray.empty.extract 0 (min 1 ByteArray.empty.size)) = .empty from rfl]
      have e : (ByteArray.empty.toList == ([] : List UInt8)) = true := nE_true rfl
      clear h0 hm0 hs
      go_enter Tryz.func32, Tryz.ntmps32
      go_wp2_with fail
      go_ret
      exact ⟨rfl, Below.refl _ _⟩
    · rw [show min 1 s.size = 1 from by omega]
      have e : (s.toList == ([] : List UInt8)) = false := nE_false (fun h => h0 (by rw [h]; rfl))
      have hsl := fun W => run_slice_string_h (P := Tryz.prog) W 9 s Tryz.underlying9 .i64 1 (by omega) (by omega)
      clear h0 hm0
      go_enter Tryz.func32, Tryz.ntmps32
      go_wp2_with fail
      go_ret
      exact ⟨rfl, Below.refl _ _⟩
  · rw [show (comb 6 [s]).getD .empty = s.extract (min 1 s.size) s.size from by unfold comb; simp]
    by_cases h0 : s.size = 0
    · obtain rfl := hm0 h0
      rw [show (ByteArray.empty.extract (min 1 ByteArray.empty.size) ByteArray.empty.size) = .empty from rfl]
      have e : (ByteArray.empty.toList == ([] : List UInt8)) = true := nE_true rfl
      clear h0 hm0 hs
      go_enter Tryz.func32, Tryz.ntmps32
      go_wp2_with fail
      go_ret
      exact ⟨rfl, Below.refl _ _⟩
    · rw [show min 1 s.size = 1 from by omega]
      have e : (s.toList == ([] : List UInt8)) = false := nE_false (fun h => h0 (by rw [h]; rfl))
      have hsl := fun W => run_slice_string_l (P := Tryz.prog) W 9 s Tryz.underlying9 .i64 1 (by omega) (by omega)
      clear h0 hm0
      go_enter Tryz.func32, Tryz.ntmps32
      go_wp2_with fail
      go_ret
      exact ⟨rfl, Below.refl _ _⟩
  · rw [show (comb 7 [s]).getD .empty = ⟨(Lib.decDigits s.size).toArray⟩ from by unfold comb; simp]
    clear hm0
    go_enter Tryz.func32, Tryz.ntmps32
    go_wp2_with fail
    refine (dec_any s.size _ (by omega)).mono ?_
    rintro e w1 ⟨rfl, hB1⟩
    go_wp2_with fail
    go_ret
    exact ⟨rfl, hB1⟩
end Go.Proofs.YtbcghkdjhicocaaGreat
