/-
  beTexts of two equal lists of strings; an own row of strings as a list that came in.
-/
import Derived.Test.YtollcckdfehdeaaStrs
namespace Go.Proofs.Ytollcckdfehdeaa
set_option linter.unusedVariables false
open Go.RowKit

set_option maxHeartbeats 1000000 in
theorem beT_yes (a b : Option Addr) (n c d : Nat) (ss : List ByteArray) (w : World) (hf : SvAt w w.heap.size a n ss) (hg : SvAt w w.heap.size b n ss) (hn : n ≤ maxLen) :
    Calls Try.prog 8 #[.slice a n c, .slice b n d] w fun e w' => e = .returned (.bool true) ∧ Below w.heap.size w w' := by
  unfold maxLen at hn
  go_enter Try.func8, Try.ntmps8
  go_wp2_with fail
  go_loopw [5] (fun i wr => ∃ j : Nat, j ≤ n ∧ i = .int .i64 j ∧ Below w.heap.size w wr) (fun i _ => n - (intOf i).toNat)
  case atStart => exact ⟨0, Nat.zero_le _, rfl, Below.refl _ _⟩
  case round =>
    obtain ⟨j, hj, rfl, hB⟩ := hrel
    by_cases hlt : j < n
    · obtain ⟨b1, o1, s, rfl, hb1, hs1, hc1⟩ := (hf.below hB).get hlt
      obtain ⟨b2, o2, s2, rfl, hb2, hs2, hc2⟩ := (hg.below hB).get hlt
      obtain rfl : s = s2 := by rw [hs1] at hs2; cases hs2; rfl
      have hd : (s.toList == s.toList) = true := by simp
      have hj0 : (0 : Int) ≤ (j : Int) := by omega
      have hj3 : (j : Int) < (n : Int) := by omega
      clear hs1 hs2
      go_wp2_with fail
      go_quiet (fail)
      go_wp2_with fail
      exact ⟨⟨j + 1, by omega, by go_num, below_drewN hB _⟩, by simp [intOf]; omega⟩
    · go_wp2_with fail
      go_ret
      exact ⟨rfl, hB⟩
end Go.Proofs.Ytollcckdfehdeaa
