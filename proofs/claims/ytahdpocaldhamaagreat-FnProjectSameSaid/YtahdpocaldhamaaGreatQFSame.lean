/-
  What FilesSame answers, of the program and of the model; the library's slices.Equal at files.
-/
import Derived.Test.YtahdpocaldhamaaGreatProg
import Derived.Test.YtahdpocaldhamaaGreatGone
import Derived.Deep.QuietTactic
import Derived.BigQuiet
import Derived.Laws.StructEq
import Derived.KernelRfl
namespace Go.Proofs.YtahdpocaldhamaaGreat
set_option linter.unusedVariables false
open Go.RowKit

theorem file_underlying : Tryz.prog.underlying 64 = some (.struct (Tryz.prog.fieldsOf 64)) := by kernel_rfl
theorem file_held : Tryz.prog.stoodInHeld 64 = false := by kernel_rfl
theorem file_guard : Tryz.prog.eqGuardType Tryz.prog.depth 64 = false := by kernel_rfl
theorem file_eq (d : Nat) (p t p' t' : ByteArray) (W : World) : (Op.eqFields (d + 1) #[.string p, .string t] #[.string p', .string t'] (Tryz.prog.fieldsOf 64).toList).run Tryz.prog W = .ok (p.toList == p'.toList && t.toList == t'.toList) W := by
  have h9 : Tryz.prog.underlying 9 = some .string := Tryz.underlying9
  have h0 : (Tryz.prog.fieldsOf 64).toList = [{ name := "Path", type := 9, offset := 0, embedded := false, tag := "", pkgPath := "", byteOffset := 0 }, { name := "Text", type := 9, offset := 1, embedded := false, tag := "", pkgPath := "", byteOffset := 16 }] := by kernel_rfl
  rw [h0]
  cases h1 : (p.toList == p'.toList) <;> cases h2 : (t.toList == t'.toList) <;> simp [Op.eqFields, part, go_sem, h9, h1, h2]
theorem file_neq (p t p' t' : ByteArray) (W : World) : (binOp .neq 64 (.agg #[.string p, .string t]) (.agg #[.string p', .string t'])).run Tryz.prog W = .ok (.bool (!decide ((p, t) = (p', t')))) W := by
  rw [run_neq_struct, run_equalIn_agg _ _ _ _ _ file_underlying file_held, file_eq, sEq, sEq]
  by_cases h1 : p = p' <;> by_cases h2 : t = t' <;> simp [h1, h2]

set_option maxHeartbeats 400000 in
theorem equal_any (a b : Option Addr) (n c m d : Nat) (fs gs : List Fl) (w : World) (hf : FilesAt w w.heap.size a n fs) (hg : FilesAt w w.heap.size b m gs) (hn : n ≤ maxLen) (hm : m ≤ maxLen) :
    Calls Tryz.prog 54 #[.slice a n c, .slice b m d] w fun e w' =>
      e = .returned (.bool (decide (fs = gs))) ∧ Below w.heap.size w w' := by
  unfold maxLen at hn hm
  have hl1 := Lib.hid hf.1
  have hl2 := Lib.hid hg.1
  by_cases hne : n = m
  · subst hne
    go_enter Tryz.func54, Tryz.ntmps54
    go_wp2
    go_loopw [13] (fun i wr => ∃ k : Nat, k ≤ n ∧ i = .int .i64 k ∧ fs.take k = gs.take k ∧ Below w.heap.size w wr) (fun i _ => n - (intOf i).toNat)
    case atStart => exact ⟨0, Nat.zero_le _, rfl, rfl, Below.refl _ _⟩
    case round =>
      obtain ⟨k, hk, rfl, heq, hB⟩ := hrel
      have Heq := Lib.hid heq; clear heq
      by_cases hlt : k < n
      · obtain ⟨b1, off1, p, t, rfl, hb1, hg1, hc1, hc2⟩ := (hf.below hB).get hlt
        obtain ⟨b2, off2, p', t', rfl, hb2, hg2, hc3, hc4⟩ := (hg.below hB).get hlt
        have Hg1 := Lib.hid hg1; clear hg1
        have Hg2 := Lib.hid hg2; clear hg2
        have hk0 : (0 : Int) ≤ (k : Int) := by omega
        have hk1 : (k : Int) < (n : Int) := by omega
        have hneq := fun W => file_neq p t p' t' W
        have hgd := file_guard
        by_cases he : (p, t) = (p', t')
        · have He := Lib.hid he
          simp only [decide_eq_true he, Bool.not_true] at hneq
          clear he
          go_wp2_with fail
          go_quiet (fail)
          go_wp2
          go_roundw
          case rel => exact ⟨k + 1, by omega, by go_num, take_eq_succ Heq.out Hg1.out Hg2.out He.out, below_drewN hB _⟩
          case measure => simp [intOf]; omega
        · have He := Lib.hid he
          simp only [decide_eq_false he, Bool.not_false] at hneq
          clear he
          go_wp2_with fail
          go_quiet (fail)
          go_wp2
          go_ret
          exact ⟨ret_bool (by rw [decide_eq_false (ne_of_get Hg1.out Hg2.out He.out)]), below_drewN hB _⟩
      · go_wp2
        go_ret
        have h1 := hl1.out
        have h2 := hl2.out
        have h3 := Heq.out
        rw [List.take_of_length_le (by omega), List.take_of_length_le (by omega)] at h3
        exact ⟨ret_bool (by rw [decide_eq_true h3]), hB⟩
  · have hne' : ((n : Int) != (m : Int)) = true := by simp; omega
    go_enter Tryz.func54, Tryz.ntmps54
    go_wp2
    go_ret
    exact ⟨ret_bool (by rw [decide_eq_false]; rintro rfl; exact hne (hl1.out.symm.trans hl2.out)), Below.refl _ _⟩

set_option maxHeartbeats 400000 in
theorem sameS_any (a b : Option Addr) (n c m d : Nat) (fs gs : List Fl) (w : World) (hf : FilesAt w w.heap.size a n fs) (hg : FilesAt w w.heap.size b m gs) (hn : n ≤ maxLen) (hm : m ≤ maxLen) :
    Calls Tryz.prog 29 #[.slice a n c, .slice b m d] w fun e w' =>
      e = .returned (.bool (decide (fs = gs))) ∧ Below w.heap.size w w' := by
  unfold maxLen at hn hm
  have hl1 := Lib.hid hf.1
  have hl2 := Lib.hid hg.1
  by_cases hne : n = m
  · subst hne
    go_enter Tryz.func29, Tryz.ntmps29
    go_wp2
    go_loopw [5] (fun i wr => ∃ k : Nat, k ≤ n ∧ i = .int .i64 k ∧ fs.take k = gs.take k ∧ Below w.heap.size w wr) (fun i _ => n - (intOf i).toNat)
    case atStart => exact ⟨0, Nat.zero_le _, rfl, rfl, Below.refl _ _⟩
    case round =>
      obtain ⟨k, hk, rfl, heq, hB⟩ := hrel
      have Heq := Lib.hid heq; clear heq
      by_cases hlt : k < n
      · obtain ⟨b1, off1, p, t, rfl, hb1, hg1, hc1, hc2⟩ := (hf.below hB).get hlt
        obtain ⟨b2, off2, p', t', rfl, hb2, hg2, hc3, hc4⟩ := (hg.below hB).get hlt
        have Hg1 := Lib.hid hg1; clear hg1
        have Hg2 := Lib.hid hg2; clear hg2
        have hk0 : (0 : Int) ≤ (k : Int) := by omega
        have hk1 : (k : Int) < (n : Int) := by omega
        have hneq := fun W => file_neq p t p' t' W
        have hgd := file_guard
        by_cases he : (p, t) = (p', t')
        · have He := Lib.hid he
          simp only [decide_eq_true he, Bool.not_true] at hneq
          clear he
          go_wp2_with fail
          go_quiet (fail)
          go_wp2
          go_roundw
          case rel => exact ⟨k + 1, by omega, by go_num, take_eq_succ Heq.out Hg1.out Hg2.out He.out, below_drewN hB _⟩
          case measure => simp [intOf]; omega
        · have He := Lib.hid he
          simp only [decide_eq_false he, Bool.not_false] at hneq
          clear he
          go_wp2_with fail
          go_quiet (fail)
          go_wp2
          go_ret
          exact ⟨ret_bool (by rw [decide_eq_false (ne_of_get Hg1.out Hg2.out He.out)]), below_drewN hB _⟩
      · go_wp2
        go_ret
        have h1 := hl1.out
        have h2 := hl2.out
        have h3 := Heq.out
        rw [List.take_of_length_le (by omega), List.take_of_length_le (by omega)] at h3
        exact ⟨ret_bool (by rw [decide_eq_true h3]), hB⟩
  · have hne' : ((n : Int) != (m : Int)) = true := by simp; omega
    go_enter Tryz.func29, Tryz.ntmps29
    go_wp2
    go_ret
    exact ⟨ret_bool (by rw [decide_eq_false]; rintro rfl; exact hne (hl1.out.symm.trans hl2.out)), Below.refl _ _⟩
end Go.Proofs.YtahdpocaldhamaaGreat
