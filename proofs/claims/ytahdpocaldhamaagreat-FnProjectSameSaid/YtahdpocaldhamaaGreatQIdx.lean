/-
  The library's strings.Contains at a substring of one byte.
-/
import Derived.Test.YtahdpocaldhamaaGreatProg
import Derived.Test.YtahdpocaldhamaaGreatGone
import Derived.Shelf.Strings.Search1
import Derived.Lib.IndexLaws
import Derived.Lib.Walk
import Derived.Lib.Strings
import Derived.Lib.Slices
import Derived.Lib.Bytealg
namespace Go.Proofs.YtahdpocaldhamaaGreat
set_option linter.unusedVariables false
open Go.RowKit

set_option maxRecDepth 100000 in
theorem ixb_one (s : ByteArray) (c : Int) (w : World) :
    Calls Tryz.prog 108 #[.string s, .int .u8 c] w fun e w' => e = .returned (.int .i64 (Lib.indexByte s.data.toList c.toNat.toUInt8)) ∧ w' = w := by
  go_enter Tryz.func108, Tryz.ntmps108
  go_wp2
  rw [run_callFunc_extern Tryz.func112 (by kernel_rfl) (by kernel_rfl) (by kernel_rfl) (e := Extern.BytealgIndexByte.indexByte) (by kernel_rfl), Lib.run_indexByteString]
  simp only [Result.andThen]
  rw [Oper.upon_value]
  go_wp2
  go_ret
  exact ⟨rfl, rfl⟩

set_option maxRecDepth 100000 in
set_option maxHeartbeats 2000000 in
theorem ix_one (s : ByteArray) (c : UInt8) (w : World) :
    Calls Tryz.prog 107 #[.string s, .string ⟨#[c]⟩] w fun e w' => e = .returned (.int .i64 (Lib.indexByte s.data.toList c)) ∧ w' = w := by
  go_enter Tryz.func107, Tryz.ntmps107
  go_wp2_with (go_at_call 108; refine (ixb_one _ _ _).mono ?_; rintro e w' ⟨rfl, rfl⟩)
  · have h : ([c] == s.toList) = true := by assumption
    go_ret
    refine ⟨?_, rfl⟩
    have e : s.data.toList = [c] := by rw [← Lib.toList_data]; exact (beq_iff_eq.1 h).symm
    rw [e]
    simp [Lib.indexByte]
  · go_ret
    exact ⟨rfl, rfl⟩
theorem si_one (s : ByteArray) (c : UInt8) (w : World) :
    Calls Tryz.prog 106 #[.string s, .string ⟨#[c]⟩] w fun e w' => e = .returned (.int .i64 (Lib.indexByte s.data.toList c)) ∧ w' = w := by
  go_enter Tryz.func106, Tryz.ntmps106
  go_wp2_with (go_at_call 107; refine (ix_one _ _ _).mono ?_; rintro e w' ⟨rfl, rfl⟩)
  go_ret
  exact ⟨rfl, rfl⟩
theorem con_one (s : ByteArray) (c : UInt8) (w : World) :
    Calls Tryz.prog 105 #[.string s, .string ⟨#[c]⟩] w fun e w' => e = .returned (.bool (decide (0 ≤ Lib.indexByte s.data.toList c))) ∧ w' = w := by
  go_enter Tryz.func105, Tryz.ntmps105
  go_wp2_with (go_at_call 106; refine (si_one _ _ _).mono ?_; rintro e w' ⟨rfl, rfl⟩)
  go_ret
  exact ⟨rfl, rfl⟩
theorem ixq (l : List UInt8) : decide (0 ≤ Lib.indexByte l 39) = !noQ l := by
  induction l with
  | nil => rfl
  | cons b l ih =>
    have h1 : Lib.indexByte (b :: l) 39 = (if b == 39 then 0 else if Lib.indexByte l 39 == -1 then -1 else Lib.indexByte l 39 + 1) := rfl
    rw [h1]
    by_cases hb : b = 39
    · subst hb; simp [noQ]
    · have hb1 : (b == (39 : UInt8)) = false := beq_eq_false_iff_ne.2 hb
      have hb2 : b.toNat ≠ 39 := fun e => hb (UInt8.toNat_inj.1 (by rw [e]; rfl))
      have h2 : noQ (b :: l) = noQ l := by unfold noQ; rw [List.all_cons, decide_eq_true hb2, Bool.true_and]
      rw [h2, ← ih, hb1]
      simp only [Bool.false_eq_true, if_false]
      by_cases hm : Lib.indexByte l 39 = -1
      · rw [hm]; rfl
      · have hm1 : (Lib.indexByte l 39 == -1) = false := beq_eq_false_iff_ne.2 hm
        rw [hm1]
        simp only [Bool.false_eq_true, if_false]
        have hge : -1 ≤ Lib.indexByte l 39 := Lib.indexByte_ge l 39
        exact Bool.eq_iff_iff.2 (by simp; omega)
/-- a text holds a quote -/
theorem quote_any (s : ByteArray) (w : World) :
    Calls Tryz.prog 105 #[.string s, .string ⟨#[39]⟩] w fun e w' => e = .returned (.bool (!noQ s.data.toList)) ∧ w' = w :=
  (con_one s 39 w).mono fun _ _ ⟨he, hw⟩ => ⟨by rw [he, ixq], hw⟩
end Go.Proofs.YtahdpocaldhamaaGreat
