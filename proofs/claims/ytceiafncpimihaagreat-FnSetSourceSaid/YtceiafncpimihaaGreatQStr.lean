/-
  What the functions on single strings answer: bytesBetween, PathValid and TextValid, of the program and of the model.
-/
import Derived.Test.YtceiafncpimihaaGreatProg
import Derived.Test.YtceiafncpimihaaGreatGone
namespace Go.Proofs.YtceiafncpimihaaGreat
set_option linter.unusedVariables false
open Go.RowKit

set_option maxHeartbeats 400000 in
theorem between_any (s : ByteArray) (lo hi : Nat) (hlo : lo < 256) (hhi : hi < 256) (w : World) (hs : s.size ≤ maxLen) :
    Calls Tryz.prog 69 #[.string s, .int .u8 lo, .int .u8 hi] w fun e w' => e = .returned (.bool (btw lo hi s.data.toList)) ∧ w = w' := by
  unfold maxLen at hs
  go_enter Tryz.func69, Tryz.ntmps69
  go_wp2
  go_loop [10] (fun i => ∃ k : Nat, k ≤ s.size ∧ i = .int .i64 k ∧ btw lo hi (s.data.toList.take k) = true) (fun i => s.size - (intOf i).toNat)
  case atStart => exact ⟨0, Nat.zero_le _, rfl, rfl⟩
  case round =>
    obtain ⟨k, hk, rfl, hb⟩ := hrel
    have Hb := Lib.hid hb; clear hb
    by_cases hlt : k < s.size
    · go_wp2
      all_goals first
        | (go_ret; exact ⟨ret_bool (btw_false_of lo hi s k hlt (by omega)).symm, rfl⟩)
        | (go_round
           case rel => exact ⟨k + 1, by omega, by go_num, by rw [btw_take_succ _ _ _ _ hlt, Hb.out]; simp; omega⟩
           case measure => simp [intOf]; omega)
    · go_wp2
      go_ret
      have e : s.size = k := by omega
      exact ⟨ret_bool (by have := Hb.out; rw [List.take_of_length_le (by simp; omega)] at this; exact this.symm), rfl⟩

theorem pathI_any (s : ByteArray) (w : World) (hs : s.size ≤ maxLen) :
    Calls Tryz.prog 41 #[.string s] w fun e w' => e = .returned (.bool (pathB s)) ∧ w = w' := by
  have hs' := hs
  unfold maxLen at hs
  go_enter Tryz.func41, Tryz.ntmps41
  go_wp2_with (go_at_call 69; refine (between_any s 97 122 (by omega) (by omega) _ hs').mono ?_; rintro e w' ⟨rfl, rfl⟩)
  all_goals go_ret
  · exact ⟨ret_bool (by rw [pathB, decide_eq_true (by omega), decide_eq_true (by omega)]; rfl), rfl⟩
  · exact ⟨ret_bool (by rw [pathB, decide_eq_false (p := s.size ≤ 8) (by omega)]; simp), rfl⟩
  · exact ⟨ret_bool (by rw [pathB, decide_eq_false (p := 1 ≤ s.size) (by omega)]; simp), rfl⟩

theorem textI_any (s : ByteArray) (w : World) (hs : s.size ≤ maxLen) :
    Calls Tryz.prog 68 #[.string s] w fun e w' => e = .returned (.bool (textB s)) ∧ w = w' := by
  have hs' := hs
  unfold maxLen at hs
  go_enter Tryz.func68, Tryz.ntmps68
  go_wp2_with (go_at_call 69; refine (between_any s 32 126 (by omega) (by omega) _ hs').mono ?_; rintro e w' ⟨rfl, rfl⟩)
  all_goals go_ret
  · exact ⟨ret_bool (by rw [textB, decide_eq_true (by omega)]; rfl), rfl⟩
  · exact ⟨ret_bool (by rw [textB, decide_eq_false (p := s.size ≤ 60) (by omega)]; simp), rfl⟩

set_option maxHeartbeats 400000 in
theorem pathS_any (s : ByteArray) (w : World) (hs : s.size ≤ maxLen) :
    Calls Tryz.prog 85 #[.string s] w fun e w' => e = .returned (.bool (pathB s)) ∧ w = w' := by
  unfold maxLen at hs
  go_enter Tryz.func85, Tryz.ntmps85
  go_wp2
  go_loop [3] (fun i => ∃ k : Nat, k ≤ s.size ∧ i = .int .i64 k ∧ btw 97 122 (s.data.toList.take k) = true) (fun i => s.size - (intOf i).toNat)
  case atStart => exact ⟨0, Nat.zero_le _, rfl, rfl⟩
  case round =>
    obtain ⟨k, hk, rfl, hb⟩ := hrel
    have Hb := Lib.hid hb; clear hb
    by_cases hlt : k < s.size
    · go_wp2
      all_goals first
        | (go_ret; exact ⟨ret_bool (by rw [pathB, btw_false_of 97 122 s k hlt (by omega)]; simp), rfl⟩)
        | (go_round
           case rel => exact ⟨k + 1, by omega, by go_num, by rw [btw_take_succ _ _ _ _ hlt, Hb.out]; simp; omega⟩
           case measure => simp [intOf]; omega)
    · have e : s.size = k := by omega
      have H2 : Hid (btw 97 122 s.data.toList = true) := by have := Hb.out; rw [List.take_of_length_le (by simp; omega)] at this; exact this
      clear e
      go_wp2
      all_goals go_ret
      · exact ⟨ret_bool (by rw [pathB, H2.out, decide_eq_true (p := 1 ≤ s.size) (by omega)]; simp; omega), rfl⟩
      · exact ⟨ret_bool (by rw [pathB, decide_eq_false (p := 1 ≤ s.size) (by omega)]; simp), rfl⟩

set_option maxHeartbeats 400000 in
theorem textS_any (s : ByteArray) (w : World) (hs : s.size ≤ maxLen) :
    Calls Tryz.prog 86 #[.string s] w fun e w' => e = .returned (.bool (textB s)) ∧ w = w' := by
  unfold maxLen at hs
  go_enter Tryz.func86, Tryz.ntmps86
  go_wp2
  go_loop [3] (fun i => ∃ k : Nat, k ≤ s.size ∧ i = .int .i64 k ∧ btw 32 126 (s.data.toList.take k) = true) (fun i => s.size - (intOf i).toNat)
  case atStart => exact ⟨0, Nat.zero_le _, rfl, rfl⟩
  case round =>
    obtain ⟨k, hk, rfl, hb⟩ := hrel
    have Hb := Lib.hid hb; clear hb
    by_cases hlt : k < s.size
    · go_wp2
      all_goals first
        | (go_ret; exact ⟨ret_bool (by rw [textB, btw_false_of 32 126 s k hlt (by omega)]; simp), rfl⟩)
        | (go_round
           case rel => exact ⟨k + 1, by omega, by go_num, by rw [btw_take_succ _ _ _ _ hlt, Hb.out]; simp; omega⟩
           case measure => simp [intOf]; omega)
    · have e : s.size = k := by omega
      have H2 : Hid (btw 32 126 s.data.toList = true) := by have := Hb.out; rw [List.take_of_length_le (by simp; omega)] at this; exact this
      clear e
      go_wp2
      all_goals go_ret
      exact ⟨ret_bool (by rw [textB, H2.out]; simp; omega), rfl⟩

theorem pathS_is (s : ByteArray) (w : World) (hs : s.size ≤ maxLen) {b : Bool} (h : pathB s = b) :
    Calls Tryz.prog 85 #[.string s] w fun e w' => e = .returned (.bool b) ∧ w' = w :=
  (pathS_any s w hs).mono fun e w' ⟨he, hw⟩ => ⟨by rw [he, h], hw.symm⟩

theorem pathI_is (s : ByteArray) (w : World) (hs : s.size ≤ maxLen) {b : Bool} (h : pathB s = b) :
    Calls Tryz.prog 41 #[.string s] w fun e w' => e = .returned (.bool b) ∧ w' = w :=
  (pathI_any s w hs).mono fun e w' ⟨he, hw⟩ => ⟨by rw [he, h], hw.symm⟩

theorem textS_is (s : ByteArray) (w : World) (hs : s.size ≤ maxLen) {b : Bool} (h : textB s = b) :
    Calls Tryz.prog 86 #[.string s] w fun e w' => e = .returned (.bool b) ∧ w' = w :=
  (textS_any s w hs).mono fun e w' ⟨he, hw⟩ => ⟨by rw [he, h], hw.symm⟩

theorem textI_is (s : ByteArray) (w : World) (hs : s.size ≤ maxLen) {b : Bool} (h : textB s = b) :
    Calls Tryz.prog 68 #[.string s] w fun e w' => e = .returned (.bool b) ∧ w' = w :=
  (textI_any s w hs).mono fun e w' ⟨he, hw⟩ => ⟨by rw [he, h], hw.symm⟩
end Go.Proofs.YtceiafncpimihaaGreat
