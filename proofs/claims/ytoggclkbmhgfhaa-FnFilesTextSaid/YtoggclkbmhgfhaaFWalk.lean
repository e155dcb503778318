/-
  What the functions on files and lists of files answer: the law's helpers szFile, szFileS, toFile, toFileS, eqFile, eqFileS.
-/
import Derived.Test.YtoggclkbmhgfhaaProg
import Derived.Test.YtoggclkbmhgfhaaFiles
import Derived.StillTailTactics
namespace Go.Proofs.Ytoggclkbmhgfhaa
set_option linter.unusedVariables false
open Go.RowKit

/-- what is left of a budget behind a file -/
def szOne (left : Int) (f : Fl) : Int := if (f.1.size + f.2.size : Int) ≤ left then left - (f.1.size + f.2.size) else -1

def eqFl (a b : Fl) : Bool := a.1.toList == b.1.toList && a.2.toList == b.2.toList
theorem eqFl_iff (a b : Fl) : eqFl a b = decide (a = b) := by
  unfold eqFl
  rw [sEq, sEq]
  obtain ⟨a1, a2⟩ := a
  obtain ⟨b1, b2⟩ := b
  by_cases h1 : a1 = b1 <;> by_cases h2 : a2 = b2 <;> simp [h1, h2]

theorem eqFile_any (p t p' t' : ByteArray) (w : World) :
    Calls Try.prog 33 #[.agg #[.string p, .string t], .agg #[.string p', .string t']] w fun e w' =>
      e = .returned (.bool (eqFl (p, t) (p', t'))) ∧ Below w.heap.size w w' := by
  go_enter Try.func33, Try.ntmps33
  go_wp2
  all_goals go_ret
  all_goals refine ⟨ret_bool ?_, ((Below.refl _ _).alloc (Nat.le_refl _) _).alloc (by simp) _⟩
  all_goals (unfold eqFl; simp_all)

/-- what is left of a budget behind a list of files -/
def szAll (left : Int) (fs : List Fl) : Int := if (fs.length + tot fs : Int) ≤ left then left - (fs.length + tot fs) else -1

/-- what the law's argument is told of: a readable list of files -/
def InF (w : World) (a : Option Addr) (len : Nat) (fs : List Fl) : Prop := FilesAt w w.heap.size a len fs ∧ Fits fs ∧ len ≤ maxLen

theorem szAll_neg {left : Int} {fs : List Fl} (h : ¬ (fs.length + tot fs : Int) ≤ left) : szAll left fs = -1 := by unfold szAll; rw [if_neg h]
theorem szAll_pos {left : Int} {fs : List Fl} (h : (fs.length + tot fs : Int) ≤ left) : szAll left fs = left - (fs.length + tot fs) := by unfold szAll; rw [if_pos h]

theorem file_info : (Try.prog.info? 38).map (fun i => (i.zero, i.size, i.bytes)) = some (some (.agg #[.string .empty, .string .empty]), 2, 32) := by kernel_rfl

theorem eqFile_yes (p t p' t' : ByteArray) (w : World) (h : (p, t) = (p', t')) :
    Calls Try.prog 33 #[.agg #[.string p, .string t], .agg #[.string p', .string t']] w fun e w' =>
      e = .returned (.bool true) ∧ Below w.heap.size w w' :=
  (eqFile_any p t p' t' w).mono fun e w' ⟨he, hb⟩ => ⟨by rw [he, eqFl_iff, decide_eq_true h], hb⟩
theorem eqFile_no (p t p' t' : ByteArray) (w : World) (h : ¬ (p, t) = (p', t')) :
    Calls Try.prog 33 #[.agg #[.string p, .string t], .agg #[.string p', .string t']] w fun e w' =>
      e = .returned (.bool false) ∧ Below w.heap.size w w' :=
  (eqFile_any p t p' t' w).mono fun e w' ⟨he, hb⟩ => ⟨by rw [he, eqFl_iff, decide_eq_false h], hb⟩

set_option maxRecDepth 100000 in
set_option maxHeartbeats 400000 in
theorem eqFileS_any (a b : Option Addr) (n c m d : Nat) (fs gs : List Fl) (w : World) (hf : FilesAt w w.heap.size a n fs) (hg : FilesAt w w.heap.size b m gs) (hn : n ≤ maxLen) (hm : m ≤ maxLen) :
    Calls Try.prog 14 #[.slice a n c, .slice b m d] w fun e w' =>
      e = .returned (.bool (decide (fs = gs))) ∧ Below w.heap.size w w' := by
  unfold maxLen at hn hm
  have hl1 := Lib.hid hf.1
  have hl2 := Lib.hid hg.1
  by_cases hne : n = m
  · subst hne
    go_enter Try.func14, Try.ntmps14
    go_wp2
    go_loopw [5] (fun i wr => ∃ k : Nat, k ≤ n ∧ i = .int .i64 k ∧ fs.take k = gs.take k ∧ Below w.heap.size w wr) (fun i _ => n - (intOf i).toNat)
    case atStart => exact ⟨0, Nat.zero_le _, rfl, rfl, Below.refl _ _⟩
    case round =>
      obtain ⟨k, hk, rfl, heq, hB⟩ := hrel
      have Heq := Lib.hid heq; clear heq
      by_cases hlt : k < n
      · obtain ⟨b1, off1, p, t, rfl, hb1, hg1, hc1, hc2⟩ := (hf.below hB).get hlt
        obtain ⟨b2, off2, p', t', rfl, hb2, hg2, hc3, hc4⟩ := (hg.below hB).get hlt
        have Hg1 := Lib.hid hg1; clear hg1
        have Hg2 := Lib.hid hg2; clear hg2
        by_cases he : (p, t) = (p', t')
        · have He := Lib.hid he; clear he
          go_wp2_with fail
          go_still_tail 8, (by kernel_rfl)
          change wpList _ _ _ _ _ wr.drew
          go_wp2_with (go_at_call 33; refine (eqFile_yes p t p' t' _ He.out).mono ?_; rintro e w1 ⟨rfl, hB1⟩)
          go_roundw
          case rel => exact ⟨k + 1, by omega, by go_num, take_eq_succ Heq.out Hg1.out Hg2.out He.out, hB.drew.trans (hB1.mono hB.size)⟩
          case measure => simp [intOf]; omega
        · have He := Lib.hid he; clear he
          go_wp2_with fail
          go_still_tail 8, (by kernel_rfl)
          change wpList _ _ _ _ _ wr.drew
          go_wp2_with (go_at_call 33; refine (eqFile_no p t p' t' _ He.out).mono ?_; rintro e w1 ⟨rfl, hB1⟩)
          go_ret
          exact ⟨ret_bool (by rw [decide_eq_false (ne_of_get Hg1.out Hg2.out He.out)]), hB.drew.trans (hB1.mono hB.size)⟩
      · go_wp2
        go_ret
        have h1 := hl1.out
        have h2 := hl2.out
        have h3 := Heq.out
        rw [List.take_of_length_le (by omega), List.take_of_length_le (by omega)] at h3
        exact ⟨ret_bool (by rw [decide_eq_true h3]), hB⟩
  · have hne' : ((n : Int) != (m : Int)) = true := by simp; omega
    go_enter Try.func14, Try.ntmps14
    go_wp2
    go_ret
    exact ⟨ret_bool (by rw [decide_eq_false]; rintro rfl; exact hne (hl1.out.symm.trans hl2.out)), Below.refl _ _⟩
end Go.Proofs.Ytoggclkbmhgfhaa
