/-
  What FindFile answers, of the program and of the model.
-/
import Derived.Test.YtpaibnfmokgebaaProg
import Derived.Test.YtpaibnfmokgebaaFiles
namespace Go.Proofs.Ytpaibnfmokgebaa
set_option linter.unusedVariables false
open Go.RowKit

set_option maxHeartbeats 400000 in
theorem findS0_any (a : Option Addr) (n c : Nat) (fs : List Fl) (x : ByteArray) (w : World) (hf : FilesAt w w.heap.size a n fs) (hn : n ≤ maxLen) :
    Calls Try.prog 39 #[.slice a n c, .string x] w fun e w' => e = .returned (.tuple #[.string (findF fs x).1, .bool (findF fs x).2]) ∧ Below w.heap.size w w' := by
  unfold maxLen at hn
  have hlen := Lib.hid hf.1
  go_enter Try.func39, Try.ntmps39
  go_wp2
  go_loopw [6] (fun i wr => ∃ k : Nat, k ≤ n ∧ i = .int .i64 k ∧ notTo fs x k ∧ Below w.heap.size w wr) (fun i _ => n - (intOf i).toNat)
  case atStart => exact ⟨0, Nat.zero_le _, rfl, notTo_zero _ _, Below.refl _ _⟩
  case round =>
    obtain ⟨k, hk, rfl, hno, hB⟩ := hrel
    have Hno := Lib.hid hno; clear hno
    by_cases hlt : k < n
    · obtain ⟨b, off, p, t, rfl, hb, hg, hc1, hc2⟩ := (hf.below hB).get hlt
      have Hg := Lib.hid hg; clear hg
      by_cases hpx : p = x
      · subst hpx
        go_wp2
        go_ret2
        exact ⟨by rw [findF_at Hno.out Hg.out]; rfl, hB⟩
      · have hd : (p.toList == x.toList) = false := by rw [sEq]; simpa using hpx
        have Hpx := Lib.hid hpx; clear hpx
        go_wp2
        go_roundw
        case rel => exact ⟨k + 1, by omega, by go_num, notTo_step Hno.out Hg.out Hpx.out, hB⟩
        case measure => simp [intOf]; omega
    · have e : n = k := by omega
      have Hall := Lib.hid (notTo_all hlen.out (e ▸ Hno.out)); clear e
      go_wp2
      go_ret2
      exact ⟨by rw [Hall.out]; rfl, hB⟩

set_option maxHeartbeats 400000 in
theorem findI_any (a : Option Addr) (n c : Nat) (fs : List Fl) (x : ByteArray) (w : World) (hf : FilesAt w w.heap.size a n fs) (hn : n ≤ maxLen) :
    Calls Try.prog 43 #[.slice a n c, .string x] w fun e w' => e = .returned (.tuple #[.string (findF fs x).1, .bool (findF fs x).2]) ∧ Below w.heap.size w w' := by
  unfold maxLen at hn
  have hlen := Lib.hid hf.1
  go_enter Try.func43, Try.ntmps43
  go_wp2
  go_loopw [10] (fun i wr => ∃ k : Nat, k ≤ n ∧ i = .int .i64 k ∧ notTo fs x k ∧ Below w.heap.size w wr) (fun i _ => n - (intOf i).toNat)
  case atStart => exact ⟨0, Nat.zero_le _, rfl, notTo_zero _ _, Below.refl _ _⟩
  case round =>
    obtain ⟨k, hk, rfl, hno, hB⟩ := hrel
    have Hno := Lib.hid hno; clear hno
    by_cases hlt : k < n
    · obtain ⟨b, off, p, t, rfl, hb, hg, hc1, hc2⟩ := (hf.below hB).get hlt
      have Hg := Lib.hid hg; clear hg
      by_cases hpx : p = x
      · subst hpx
        go_wp2
        go_ret2
        exact ⟨by rw [findF_at Hno.out Hg.out]; rfl, hB.alloc hB.size _⟩
      · have hd : (p.toList == x.toList) = false := by rw [sEq]; simpa using hpx
        have Hpx := Lib.hid hpx; clear hpx
        go_wp2
        go_roundw
        case rel => exact ⟨k + 1, by omega, by go_num, notTo_step Hno.out Hg.out Hpx.out, hB.alloc hB.size _⟩
        case measure => simp [intOf]; omega
    · have e : n = k := by omega
      have Hall := Lib.hid (notTo_all hlen.out (e ▸ Hno.out)); clear e
      go_wp2
      go_ret2
      exact ⟨by rw [Hall.out]; rfl, hB⟩
end Go.Proofs.Ytpaibnfmokgebaa
