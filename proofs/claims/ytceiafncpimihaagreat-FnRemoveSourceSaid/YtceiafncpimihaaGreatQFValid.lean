/-
  What FilesValid answers, of the program and of the model.
-/
import Derived.Test.YtceiafncpimihaaGreatQStr
import Derived.Test.YtceiafncpimihaaGreatGone
import Derived.Deep.QuietTactic
import Derived.BigQuiet
namespace Go.Proofs.YtceiafncpimihaaGreat
set_option linter.unusedVariables false
open Go.RowKit

set_option maxHeartbeats 400000 in
theorem validS_any (a : Option Addr) (n c : Nat) (fs : List Fl) (w : World) (hf : FilesAt w w.heap.size a n fs) (hs : Fits fs) (hn : n ≤ maxLen) :
    Calls Tryz.prog 65 #[.slice a n c] w fun e w' => e = .returned (.bool (validB fs)) ∧ Below w.heap.size w w' := by
  unfold maxLen at hn
  have hlen := Lib.hid hf.1
  go_enter Tryz.func65, Tryz.ntmps65
  go_wp2
  go_loopw [3] (fun i wr => ∃ k : Nat, k ≤ n ∧ i = .int .i64 k ∧ okTo fs k = true ∧ Below w.heap.size w wr) (fun i _ => n - (intOf i).toNat)
  case atStart => exact ⟨0, Nat.zero_le _, rfl, rfl, Below.refl _ _⟩
  case round =>
    obtain ⟨k, hk, rfl, hok, hB⟩ := hrel
    have Hok := Lib.hid hok; clear hok
    by_cases hlt : k < n
    · obtain ⟨b, off, p, t, rfl, hb, hg, hc1, hc2⟩ := (hf.below hB).get hlt
      have hfit := hs.get hg
      have Hg := Lib.hid hg; clear hg
      have hk0 : (0 : Int) ≤ (k : Int) := by omega
      have hk1 : (k : Int) < (n : Int) := by omega
      have hf1 : p.size ≤ maxLen := hfit.1
      have hf2 : t.size ≤ maxLen := hfit.2
      clear hfit
      cases hp : pathB p with
      | false =>
        have Hp := Lib.hid hp; clear hp
        go_wp2_with fail
        go_quiet ((go_at_call 85; exact Calls.quiet_of_same (pathS_is p _ hf1 Hp.out)))
        go_wp2
        go_ret
        exact ⟨ret_bool (validB_false hlen.out hlt Hg.out (okAt_path Hg.out Hp.out)).symm, below_drewN hB _⟩
      | true =>
        have Hp := Lib.hid hp; clear hp
        cases hp : textB t with
        | false =>
          have Ht := Lib.hid hp; clear hp
          go_wp2_with fail
          go_quiet (first | (go_at_call 85; exact Calls.quiet_of_same (pathS_is p _ hf1 Hp.out)) | (go_at_call 86; exact Calls.quiet_of_same (textS_is t _ hf2 Ht.out)))
          go_wp2
          go_ret
          exact ⟨ret_bool (validB_false hlen.out hlt Hg.out (okAt_text Hg.out Ht.out)).symm, below_drewN hB _⟩
        | true =>
          have Ht := Lib.hid hp; clear hp
          cases k with
          | zero =>
            rw [Nat.zero_mul, Nat.add_zero] at hc1 hc2
            have hk2 : (0 : Int) < (n : Int) := by omega
            have hk3 : 0 < n := by omega
            clear hk0 hk1 hk
            have hd : decide ((0 : Int) < 0) = false := rfl
            go_wp2_with fail
            go_quiet (first | (go_at_call 85; exact Calls.quiet_of_same (pathS_is p _ hf1 Hp.out)) | (go_at_call 86; exact Calls.quiet_of_same (textS_is t _ hf2 Ht.out)))
            go_wp2
            exact ⟨⟨1, by omega, rfl, okTo_step Hok.out (okAt_zero Hg.out Hp.out Ht.out), below_drewN hB _⟩, by simp [intOf]; omega⟩
          | succ j =>
            obtain ⟨b2, off2, q, r, he, _, hq, hc3, _⟩ := (hf.below hB).get (k := j) (by omega)
            simp only [Option.some.injEq, Addr.mk.injEq, and_true] at he
            obtain ⟨rfl, rfl⟩ := he
            have Hq := Lib.hid hq; clear hq
            have hp0 : (0 : Int) < ((j + 1 : Nat) : Int) := by omega
            have hs := okAt_succ Hg.out Hq.out Hp.out Ht.out
            unfold sLess at hs
            cases hl : Op.bytesLess q.toList p.toList with
            | false =>
              have Hs := Lib.hid (hs.trans hl); clear hs
              go_wp2_with fail
              go_quiet (first | (go_at_call 85; exact Calls.quiet_of_same (pathS_is p _ hf1 Hp.out)) | (go_at_call 86; exact Calls.quiet_of_same (textS_is t _ hf2 Ht.out)))
              go_wp2
              go_ret
              exact ⟨ret_bool (validB_false hlen.out hlt Hg.out Hs.out).symm, below_drewN hB _⟩
            | true =>
              have Hs := Lib.hid (hs.trans hl); clear hs
              go_wp2_with fail
              go_quiet (first | (go_at_call 85; exact Calls.quiet_of_same (pathS_is p _ hf1 Hp.out)) | (go_at_call 86; exact Calls.quiet_of_same (textS_is t _ hf2 Ht.out)))
              go_wp2
              exact ⟨⟨j + 1 + 1, by omega, by go_num, okTo_step Hok.out Hs.out, below_drewN hB _⟩, by simp [intOf]; omega⟩
    · have e : n = k := by omega
      have Hv := Lib.hid (validB_all hlen.out (e ▸ Hok.out))
      clear e
      go_wp2
      go_ret
      exact ⟨ret_bool Hv.out.symm, hB⟩

set_option maxHeartbeats 400000 in
theorem validI_any (a : Option Addr) (n c : Nat) (fs : List Fl) (w : World) (hf : FilesAt w w.heap.size a n fs) (hs : Fits fs) (hn : n ≤ maxLen) :
    Calls Tryz.prog 40 #[.slice a n c] w fun e w' => e = .returned (.bool (validB fs)) ∧ Below w.heap.size w w' := by
  unfold maxLen at hn
  have hlen := Lib.hid hf.1
  by_cases h12 : 12 < n
  · have Hv := Lib.hid (show validB fs = false by unfold validB; rw [decide_eq_false (by have := hlen.out; omega)]; rfl)
    go_enter Tryz.func40, Tryz.ntmps40
    go_wp2
    go_ret
    exact ⟨ret_bool Hv.out.symm, Below.refl _ _⟩
  go_enter Tryz.func40, Tryz.ntmps40
  go_wp2
  go_loopw [10] (fun i wr => ∃ k : Nat, k ≤ n ∧ i = .int .i64 k ∧ okTo fs k = true ∧ Below w.heap.size w wr) (fun i _ => n - (intOf i).toNat)
  case atStart => exact ⟨0, Nat.zero_le _, rfl, rfl, Below.refl _ _⟩
  case round =>
    obtain ⟨k, hk, rfl, hok, hB⟩ := hrel
    have Hok := Lib.hid hok; clear hok
    by_cases hlt : k < n
    · obtain ⟨b, off, p, t, rfl, hb, hg, hc1, hc2⟩ := (hf.below hB).get hlt
      have hfit := hs.get hg
      have Hg := Lib.hid hg; clear hg
      have hk0 : (0 : Int) ≤ (k : Int) := by omega
      have hk1 : (k : Int) < (n : Int) := by omega
      have hf1 : p.size ≤ maxLen := hfit.1
      have hf2 : t.size ≤ maxLen := hfit.2
      clear hfit
      cases hp : pathB p with
      | false =>
        have Hp := Lib.hid hp; clear hp
        go_wp2_with (go_at_call 41; refine (pathI_is p _ hf1 Hp.out).mono ?_; rintro e w' ⟨rfl, rfl⟩)
        go_ret
        exact ⟨ret_bool (validB_false hlen.out hlt Hg.out (okAt_path Hg.out Hp.out)).symm, hB.alloc hB.size _⟩
      | true =>
        have Hp := Lib.hid hp; clear hp
        cases hp : textB t with
        | false =>
          have Ht := Lib.hid hp; clear hp
          go_wp2_with (first | (go_at_call 41; refine (pathI_is p _ hf1 Hp.out).mono ?_; rintro e w' ⟨rfl, rfl⟩) | (go_at_call 68; refine (textI_is t _ hf2 Ht.out).mono ?_; rintro e w' ⟨rfl, rfl⟩))
          go_ret
          exact ⟨ret_bool (validB_false hlen.out hlt Hg.out (okAt_text Hg.out Ht.out)).symm, hB.alloc hB.size _⟩
        | true =>
          have Ht := Lib.hid hp; clear hp
          cases k with
          | zero =>
            rw [Nat.zero_mul, Nat.add_zero] at hc1 hc2
            have hk2 : (0 : Int) < (n : Int) := by omega
            have hk3 : 0 < n := by omega
            clear hk0 hk1 hk
            have hd : decide ((0 : Int) < 0) = false := rfl
            go_wp2_with (first | (go_at_call 41; refine (pathI_is p _ hf1 Hp.out).mono ?_; rintro e w' ⟨rfl, rfl⟩) | (go_at_call 68; refine (textI_is t _ hf2 Ht.out).mono ?_; rintro e w' ⟨rfl, rfl⟩))
            go_quiet (fail)
            go_wp2
            go_roundw
            case rel => exact ⟨1, by omega, rfl, okTo_step Hok.out (okAt_zero Hg.out Hp.out Ht.out), below_drewN (hB.alloc hB.size _) _⟩
            case measure => simp [intOf]; omega
          | succ j =>
            obtain ⟨b2, off2, q, r, he, _, hq, hc3, _⟩ := (hf.below hB).get (k := j) (by omega)
            simp only [Option.some.injEq, Addr.mk.injEq, and_true] at he
            obtain ⟨rfl, rfl⟩ := he
            have Hq := Lib.hid hq; clear hq
            have hp0 : (0 : Int) < ((j + 1 : Nat) : Int) := by omega
            have hs := okAt_succ Hg.out Hq.out Hp.out Ht.out
            have hbw : b < wr.heap.size := by have := hB.size; omega
            have hc3' : ∀ o : Obj, (wr.alloc o).cell? ⟨b, off + j * 2, none⟩ = some (.string q) := fun o => (World.cell?_alloc_lt wr o ⟨b, off + j * 2, none⟩ hbw).trans hc3
            unfold sLess at hs
            cases hl : Op.bytesLess q.toList p.toList with
            | false =>
              have Hs := Lib.hid (hs.trans hl); clear hs
              go_wp2_with (first | (go_at_call 41; refine (pathI_is p _ hf1 Hp.out).mono ?_; rintro e w' ⟨rfl, rfl⟩) | (go_at_call 68; refine (textI_is t _ hf2 Ht.out).mono ?_; rintro e w' ⟨rfl, rfl⟩))
              go_quiet (fail)
              go_wp2
              go_ret
              exact ⟨ret_bool (validB_false hlen.out hlt Hg.out Hs.out).symm, below_drewN (hB.alloc hB.size _) _⟩
            | true =>
              have Hs := Lib.hid (hs.trans hl); clear hs
              go_wp2_with (first | (go_at_call 41; refine (pathI_is p _ hf1 Hp.out).mono ?_; rintro e w' ⟨rfl, rfl⟩) | (go_at_call 68; refine (textI_is t _ hf2 Ht.out).mono ?_; rintro e w' ⟨rfl, rfl⟩))
              go_quiet (fail)
              go_wp2
              go_roundw
              case rel => exact ⟨j + 1 + 1, by omega, by go_num, okTo_step Hok.out Hs.out, below_drewN (hB.alloc hB.size _) _⟩
              case measure => simp [intOf]; omega
    · have e : n = k := by omega
      have Hv := Lib.hid (validB_all hlen.out (e ▸ Hok.out))
      clear e
      go_wp2
      go_ret
      exact ⟨ret_bool (by rw [Hv.out, decide_eq_true (by omega)]), hB⟩
end Go.Proofs.YtceiafncpimihaaGreat
