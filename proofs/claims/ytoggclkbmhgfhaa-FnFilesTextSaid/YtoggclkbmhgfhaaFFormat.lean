/-
  What FormatFiles answers, of the program and of the model.
-/
import Derived.Test.YtoggclkbmhgfhaaFValid
import Derived.Test.YtoggclkbmhgfhaaBuild
import Derived.Deep.QuietTactic
import Derived.BigQuiet
import Derived.Laws.Concat
namespace Go.Proofs.Ytoggclkbmhgfhaa
set_option linter.unusedVariables false
open Go.RowKit

set_option maxHeartbeats 800000 in
theorem formatI_any (a : Option Addr) (n c : Nat) (fs : List Fl) (w : World) (hf : FilesAt w w.heap.size a n fs) (hs : Fits fs) (hn : n ≤ maxLen) :
    Calls Try.prog 6 #[.slice a n c] w fun e w' => e = .returned (.string (fmtS fs)) ∧ Below w.heap.size w w' := by
  have hlen := Lib.hid hf.1
  cases hv : validB fs with
  | false =>
    have Hv := Lib.hid hv; clear hv
    go_enter Try.func6, Try.ntmps6
    go_wp2_with fail
    refine (validI_any a n c fs w hf hs hn).mono ?_
    rintro e w1 ⟨rfl, hB1⟩
    rw [Hv.out]
    go_wp2_with fail
    go_ret
    exact ⟨ret_str (by unfold fmtS; rw [Hv.out]; rfl), hB1⟩
  | true =>
    have Hv := Lib.hid hv; clear hv
    have hn12 : n ≤ 12 := by have h1 := valid_length Hv.out; have h2 := hlen.out; omega
    go_enter Try.func6, Try.ntmps6
    go_wp2_with fail
    refine (validI_any a n c fs w hf hs hn).mono ?_
    rintro e w1 ⟨rfl, hB1⟩
    rw [Hv.out]
    have hf1 := (hf.below hB1).more hB1.size
    clear hf hn
    go_wp2_with fail
    go_loopw [11] (fun i wr => ∃ k : Nat, k ≤ n ∧ i = .int .i64 k ∧ Bld w1.heap.size w1.heap.size (fmtF (fs.take k)) wr ∧ Below w1.heap.size w1 wr) (fun i _ => n - (intOf i).toNat)
    case atStart => exact ⟨0, Nat.zero_le _, rfl, Bld.new w1, (Below.refl _ _).alloc (Nat.le_refl _) _⟩
    case round =>
      obtain ⟨k, hk, rfl, hbl, hB⟩ := hrel
      have Hbl := Lib.hid hbl
      have hbs := hB.size
      by_cases hlt : k < n
      · obtain ⟨b, off, p, t, rfl, hb, hg, hc1, hc2⟩ := (hf1.below hB).get hlt
        have hfit := valid_sizes Hv.out hg
        have hln := fmtF_length Hv.out (k := k) (by have := hlen.out; omega)
        have Hg := Lib.hid hg; clear hg
        have hbl0 := hbl.lt
        have hp8 : p.data.toList.length ≤ 8 := by rw [Array.length_toList]; exact hfit.1
        have ht60 : t.data.toList.length ≤ 60 := by rw [Array.length_toList]; exact hfit.2
        have hp9 : p.size ≤ 8 := hfit.1
        have ht9 : t.size ≤ 60 := hfit.2
        clear hfit hbl
        go_wp2_with fail
        refine (writeString_any w1.heap.size w1.heap.size _ p _ (Hbl.out.alloc _) (by omega) (by simp; omega)).mono ?_
        rintro e w2 ⟨rfl, hW2⟩
        have hx2 := hW2.cell (heap_alloc_new wr _) (by decide) (by omega)
        have hB2 := (hB.alloc hbs (.cells #[.string p, .string t] 38)).trans hW2.below
        have Hb2 := Lib.hid hW2.is
        clear hW2
        go_wp2_with fail
        refine (writeBlank_any w1.heap.size w1.heap.size _ w2 Hb2.out (by simp only [List.length_append]; omega) hB2.size).mono ?_
        rintro e w3 ⟨rfl, hW3⟩
        have hx3 := hW3.cell hx2 (by decide) (by omega)
        have hB3 := hB2.trans hW3.below
        have Hb3 := Lib.hid hW3.is
        have hc3 : w3.cell? ⟨wr.heap.size, 1, none⟩ = some (.string t) := by rw [cell_of_row w3 _ 1 _ _ _ hx3]; rfl
        clear hW3
        have Hx3 := Lib.hid hx3
        clear hx2 hx3
        go_wp2_with fail
        refine (writeString_any w1.heap.size w1.heap.size _ t w3 Hb3.out (by simp only [List.length_append, List.length_cons, List.length_nil]; omega) hB3.size).mono ?_
        rintro e w4 ⟨rfl, hW4⟩
        have hB4 := hB3.trans hW4.below
        have Hb4 := Lib.hid hW4.is
        clear hW4
        go_wp2_with fail
        refine (writeLine_any w1.heap.size w1.heap.size _ w4 Hb4.out (by simp only [List.length_append, List.length_cons, List.length_nil]; omega) hB4.size).mono ?_
        rintro e w5 ⟨rfl, hW5⟩
        have hB5 := hB4.trans hW5.below
        have Hb5 := Lib.hid hW5.is
        clear hW5
        go_wp2_with fail
        go_roundw
        case rel => exact ⟨k + 1, by omega, by go_num, by rw [fmtF_take_succ Hg.out]; exact Hb5.out, hB5⟩
        case measure => simp [intOf]; omega
      · have e : n = k := by omega
        clear hbl
        have Hall : Hid (Bld w1.heap.size w1.heap.size (fmtF fs) wr) := by
          have h := Hbl.out
          rw [List.take_of_length_le (by have := hlen.out; omega)] at h
          exact h
        clear e
        go_wp2_with fail
        refine (builderString_any w1.heap.size w1.heap.size _ wr Hall.out hbs).mono ?_
        rintro e w2 ⟨rfl, hB2⟩
        go_wp2_with fail
        go_ret
        exact ⟨ret_str (by unfold fmtS; rw [if_pos Hv.out]), hB1.trans ((hB.trans hB2).mono hB1.size)⟩

set_option maxHeartbeats 800000 in
theorem formatS_any (a : Option Addr) (n c : Nat) (fs : List Fl) (w : World) (hf : FilesAt w w.heap.size a n fs) (hs : Fits fs) (hn : n ≤ maxLen) :
    Calls Try.prog 8 #[.slice a n c] w fun e w' => e = .returned (.string (fmtS fs)) ∧ Below w.heap.size w w' := by
  have hlen := Lib.hid hf.1
  cases hv : validB fs with
  | false =>
    have Hv := Lib.hid hv; clear hv
    go_enter Try.func8, Try.ntmps8
    go_wp2_with fail
    refine (validS_any a n c fs w hf hs hn).mono ?_
    rintro e w1 ⟨rfl, hB1⟩
    rw [Hv.out]
    go_wp2_with fail
    go_ret
    exact ⟨ret_str (by unfold fmtS; rw [Hv.out]; rfl), hB1⟩
  | true =>
    have Hv := Lib.hid hv; clear hv
    have hn12 : n ≤ 12 := by have h1 := valid_length Hv.out; have h2 := hlen.out; omega
    go_enter Try.func8, Try.ntmps8
    go_wp2_with fail
    refine (validS_any a n c fs w hf hs hn).mono ?_
    rintro e w1 ⟨rfl, hB1⟩
    rw [Hv.out]
    clear hn
    go_wp2_with fail
    go_loopw [3, 4] (fun s i wr => ∃ (k : Nat) (o : ByteArray), k ≤ n ∧ i = .int .i64 k ∧ s = .string o ∧ o.data.toList = fmtF (fs.take k) ∧ Below w.heap.size w wr) (fun _ i _ => n - (intOf i).toNat)
    case atStart => exact ⟨0, _, Nat.zero_le _, rfl, rfl, rfl, hB1⟩
    case round =>
      obtain ⟨k, o, hk, rfl, rfl, ho, hB⟩ := hrel
      have Ho := Lib.hid ho; clear ho
      by_cases hlt : k < n
      · obtain ⟨b, off, p, t, rfl, hb, hg, hc1, hc2⟩ := (hf.below hB).get hlt
        have hk0 : (0 : Int) ≤ (k : Int) := by omega
        have hk1 : (k : Int) < (n : Int) := by omega
        have hfit := valid_sizes Hv.out hg
        have hol : o.size ≤ 70 * k := by have h1 := fmtF_length Hv.out (k := k) (by have := hlen.out; omega); rw [← Ho.out, Array.length_toList] at h1; exact h1
        have z1 : ({ data := #[32] } : ByteArray).size = 1 := rfl
        have z2 : ({ data := #[10] } : ByteArray).size = 1 := rfl
        have q1 := fun W => run_string_add_sum (P := Try.prog) W o p (by omega)
        have q2 := fun W => run_string_add_sum (P := Try.prog) W (o ++ p) { data := #[32] } (by simp only [ByteArray.size_append]; omega)
        have q3 := fun W => run_string_add_sum (P := Try.prog) W (o ++ p ++ { data := #[32] }) t (by simp only [ByteArray.size_append]; omega)
        have q4 := fun W => run_string_add_sum (P := Try.prog) W (o ++ p ++ { data := #[32] } ++ t) { data := #[10] } (by simp only [ByteArray.size_append]; omega)
        clear hfit hol z1 z2
        have Hg := Lib.hid hg; clear hg
        go_wp2_with fail
        go_quiet (fail)
        go_wp2_with fail
        go_roundw
        case rel => exact ⟨k + 1, _, by omega, by go_num, rfl, by rw [fmtF_take_succ Hg.out, ← Ho.out]; simp, below_drewN hB _⟩
        case measure => simp [intOf]; omega
      · have e : n = k := by omega
        have Hall : Hid (o.data.toList = fmtF fs) := by
          have h := Ho.out
          rw [List.take_of_length_le (by have := hlen.out; omega)] at h
          exact h
        clear e
        go_wp2_with fail
        go_ret
        exact ⟨ret_str (by unfold fmtS; rw [if_pos Hv.out, ← Hall.out]), hB⟩
end Go.Proofs.Ytoggclkbmhgfhaa
