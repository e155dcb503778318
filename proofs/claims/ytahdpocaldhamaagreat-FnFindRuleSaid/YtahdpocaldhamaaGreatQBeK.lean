/-
  beTexts and beHas on lists of strings (no files).
-/
import Derived.Test.YtahdpocaldhamaaGreatQOwnS
import Derived.StillTailTactics
import Derived.Deep.QuietTactic
import Derived.Deep.RegionHeld3
namespace Go.Proofs.YtahdpocaldhamaaGreat
set_option linter.unusedVariables false
open Go.RowKit

set_option maxHeartbeats 1000000 in
theorem beT_yes (a b : Option Addr) (n c d : Nat) (ss : List ByteArray) (w : World) (hf : SvAt w w.heap.size a n ss) (hg : SvAt w w.heap.size b n ss) (hn : n ≤ maxLen) :
    Calls Tryz.prog 12 #[.slice a n c, .slice b n d] w fun e w' => e = .returned (.bool true) ∧ Below w.heap.size w w' := by
  unfold maxLen at hn
  go_enter Tryz.func12, Tryz.ntmps12
  go_wp2_with fail
  go_loopw [5] (fun i wr => ∃ j : Nat, j ≤ n ∧ i = .int .i64 j ∧ Below w.heap.size w wr) (fun i _ => n - (intOf i).toNat)
  case atStart => exact ⟨0, Nat.zero_le _, rfl, Below.refl _ _⟩
  case round =>
    obtain ⟨j, hj, rfl, hB⟩ := hrel
    by_cases hlt : j < n
    · obtain ⟨b1, o1, s, rfl, hb1, hs1, hc1⟩ := (hf.below hB).get hlt
      obtain ⟨b2, o2, s2, rfl, hb2, hs2, hc2⟩ := (hg.below hB).get hlt
      obtain rfl : s = s2 := by rw [hs1] at hs2; cases hs2; rfl
      have hd : (s.toList == s.toList) = true := by simp
      have hj0 : (0 : Int) ≤ (j : Int) := by omega
      have hj3 : (j : Int) < (n : Int) := by omega
      clear hs1 hs2
      go_wp2_with fail
      go_quiet (fail)
      go_wp2_with fail
      exact ⟨⟨j + 1, by omega, by go_num, below_drewN hB _⟩, by simp [intOf]; omega⟩
    · go_wp2_with fail
      go_ret
      exact ⟨rfl, hB⟩

set_option maxHeartbeats 1000000 in
theorem beHas_any (a : Option Addr) (n c : Nat) (ss : List ByteArray) (s : ByteArray) (w : World) (hf : SvAt w w.heap.size a n ss) (hn : n ≤ maxLen) :
    Calls Tryz.prog 20 #[.slice a n c, .string s] w fun e w' => e = .returned (.bool (hasB ss s)) ∧ w' = w := by
  unfold maxLen at hn
  go_enter Tryz.func20, Tryz.ntmps20
  go_wp2_with fail
  go_loop [5] (fun i => ∃ j : Nat, j ≤ n ∧ i = .int .i64 j ∧ ∀ x ∈ ss.take j, x ≠ s) (fun i => n - (intOf i).toNat)
  case atStart => exact ⟨0, Nat.zero_le _, rfl, by simp⟩
  case round =>
    obtain ⟨j, hj, rfl, hall⟩ := hrel
    have Hall := Lib.hid hall
    clear hall
    by_cases hlt : j < n
    · obtain ⟨b1, o1, x, rfl, hb1, hs1, hc1⟩ := hf.get hlt
      have Hs1 := Lib.hid hs1
      clear hs1
      by_cases hx : x = s
      · subst hx
        have hd : (x.toList == x.toList) = true := by simp
        go_wp2_with fail
        go_ret
        exact ⟨ret_bool (has_yes Hs1.out).symm, rfl⟩
      · have hd : (x.toList == s.toList) = false := by rw [beq_eq_false_iff_ne]; exact fun e => hx (WideShapes.bytes_inj (by simpa [Lib.toList_data] using e))
        have Hx := Lib.hid hx
        clear hx
        go_wp2_with fail
        go_round
        case rel => exact ⟨j + 1, by omega, by go_num, idx_none Hall.out Hs1.out Hx.out⟩
        case measure => simp [intOf]; omega
    · have hl := hf.1
      go_wp2_with fail
      go_ret
      exact ⟨ret_bool (has_no Hall.out (by omega)).symm, rfl⟩

end Go.Proofs.YtahdpocaldhamaaGreat
