/-
  The program's comparison of paths, the iterator's maker, cmp.Or.
-/
import Derived.Test.YtollcckdfehdeaaProg
import Derived.Test.YtollcckdfehdeaaChgM
import Derived.Deep.QuietTactic
import Derived.BigQuiet
import Derived.Lib.Walk
import Derived.Laws.Strings3
import Derived.Outline
namespace Go.Proofs.Ytollcckdfehdeaa
set_option linter.unusedVariables false
open Go.RowKit

set_option maxRecDepth 100000 in
theorem cmp0_any (a b : ByteArray) (w : World) :
    Calls Try.prog 45 #[.string a, .string b] w fun e w' => e = .returned (.int .i64 (cmpS a b)) ∧ w' = w := by
  go_enter Try.func45, Try.ntmps45
  go_wp2
  rw [run_callFunc_extern Try.func46 (by kernel_rfl) (by kernel_rfl) (by kernel_rfl) (e := Extern.BytealgCompare.compare) (by kernel_rfl), Lib.run_compareString]
  simp only [Result.andThen]
  rw [Oper.upon_value]
  go_wp2
  go_ret
  exact ⟨ret_int (compare_cmpS a b), rfl⟩
theorem cmp_any (a b : ByteArray) (w : World) :
    Calls Try.prog 44 #[.string a, .string b] w fun e w' => e = .returned (.int .i64 (cmpS a b)) ∧ w' = w := by
  go_enter Try.func44, Try.ntmps44
  go_wp2_with (go_at_call 45; refine (cmp0_any _ _ _).mono ?_; rintro e w' ⟨rfl, rfl⟩)
  go_ret
  exact ⟨rfl, rfl⟩

/-- the next paths of two lists, from slices of the rest -/
def HeadAt (w : World) (a : Option Addr) (n : Nat) (f : Option Fl) : Prop :=
  match f with
  | none => n = 0
  | some (p, _) => 0 < n ∧ ∃ b off, a = some ⟨b, off, none⟩ ∧ w.cell? ⟨b, off, none⟩ = some (.string p)
def ordO (f g : Option Fl) : Int :=
  match f, g with
  | none, _ => 1
  | _, none => -1
  | some f, some g => cmpS f.1 g.1

set_option maxHeartbeats 400000 in
theorem cpaths_any (a b : Option Addr) (n c m d : Nat) (f g : Option Fl) (w : World) (hf : HeadAt w a n f) (hg : HeadAt w b m g) :
    Calls Try.prog 40 #[.slice a n c, .slice b m d] w fun e w' => e = .returned (.int .i64 (ordO f g)) ∧ ∃ k, w' = w.drewN k := by
  cases f with
  | none =>
    obtain rfl : n = 0 := hf
    go_enter Try.func40, Try.ntmps40
    go_wp2_with fail
    go_ret
    exact ⟨rfl, 0, rfl⟩
  | some f =>
    obtain ⟨p, t⟩ := f
    obtain ⟨hn, b1, o1, rfl, hc1⟩ := hf
    have hn0 : ((n : Int) == 0) = false := by rw [beq_eq_false_iff_ne]; omega
    have hn1 : (0 : Int) < (n : Int) := by omega
    cases g with
    | none =>
      obtain rfl : m = 0 := hg
      go_enter Try.func40, Try.ntmps40
      go_wp2_with fail
      go_ret
      exact ⟨rfl, 0, rfl⟩
    | some g =>
      obtain ⟨q, u⟩ := g
      obtain ⟨hm, b2, o2, rfl, hc2⟩ := hg
      have hm0 : ((m : Int) == 0) = false := by rw [beq_eq_false_iff_ne]; omega
      have hm1 : (0 : Int) < (m : Int) := by omega
      go_enter Try.func40, Try.ntmps40
      go_wp2_with fail
      go_quiet ((go_at_call 44; exact Calls.quiet_of_same (cmp_any _ _ _)))
      go_wp2
      go_ret
      exact ⟨rfl, _, rfl⟩

def OrRel (a b : ByteArray) (w : World) (i : Value) (wr : World) : Prop := (i = .int .i64 0 ∨ (i = .int .i64 1 ∧ a = .empty) ∨ (i = .int .i64 2 ∧ a = .empty ∧ b = .empty)) ∧ wr = w
theorem str_empty {a : ByteArray} (h : ¬ a = .empty) : a.toList.isEmpty = false := by
  rw [Lib.toList_data]
  cases hl : a.data.toList with
  | nil => exact absurd (bytes_ext (by simpa using hl)) h
  | cons x l => rfl
theorem str_is_empty : ByteArray.empty.toList.isEmpty = true := by rw [Lib.toList_data]; rfl

set_option maxHeartbeats 400000 in
theorem or_any (a b : ByteArray) (g : Nat) (w : World) (h0 : w.cell? ⟨g, 0, none⟩ = some (.string a)) (h1 : w.cell? ⟨g, 1, none⟩ = some (.string b)) :
    Calls Try.prog 28 #[.slice (some ⟨g, 0, none⟩) 2 2] w fun e w' => e = .returned (.string (orS a b)) ∧ w' = w := by
  go_enter Try.func28, Try.ntmps28
  go_wp2_with fail
  go_loopw [8] (fun i wr => OrRel a b w i wr) (fun i _ => 2 - (intOf i).toNat)
  case atStart => exact ⟨.inl rfl, rfl⟩
  case round =>
    obtain ⟨hh, rfl⟩ := hrel
    rcases hh with rfl | ⟨rfl, rfl⟩ | ⟨rfl, rfl, rfl⟩
    · by_cases ha : a = .empty
      · subst ha
        have hE := str_is_empty
        have hE2 : ((ByteArray.empty.toList == ([] : List UInt8)) = true) := by rw [Lib.toList_data]; rfl
        go_wp2_with fail
        exact ⟨⟨.inr (.inl ⟨rfl, rfl⟩), rfl⟩, by simp [intOf]⟩
      · have hE := str_empty ha
        have HA := Lib.hid ha
        clear ha
        go_wp2_with fail
        go_ret
        exact ⟨ret_str (by unfold orS; rw [if_neg HA.out]), rfl⟩
    · by_cases ha : b = .empty
      · subst ha
        have hE := str_is_empty
        go_wp2_with fail
        exact ⟨⟨.inr (.inr ⟨rfl, rfl, rfl⟩), rfl⟩, by simp [intOf]⟩
      · have hE := str_empty ha
        have HA := Lib.hid ha
        clear ha
        go_wp2_with fail
        go_ret
        exact ⟨ret_str (by unfold orS; rw [if_pos rfl]), rfl⟩
    · go_wp2_with fail
      go_ret
      exact ⟨ret_str (by unfold orS; rw [if_pos rfl]; rfl), rfl⟩
end Go.Proofs.Ytollcckdfehdeaa
