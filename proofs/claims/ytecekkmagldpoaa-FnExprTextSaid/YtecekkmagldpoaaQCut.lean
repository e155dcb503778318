/-
  The library's strings.Cut at a separator of one byte, and parseFile.
-/
import Derived.Test.YtecekkmagldpoaaProg
import Derived.Test.YtecekkmagldpoaaGone
import Derived.Shelf.Strings.Search1
import Derived.Lib.IndexLaws
import Derived.Lib.Walk
import Derived.Laws.Strings3
import Derived.Deep.QuietTactic
import Derived.BigQuiet
import Derived.Outline
namespace Go.Proofs.Ytecekkmagldpoaa
set_option linter.unusedVariables false
open Go.RowKit

set_option maxRecDepth 100000 in
theorem ixb_any (s : ByteArray) (c : Int) (w : World) :
    Calls Try.prog 53 #[.string s, .int .u8 c] w fun e w' => e = .returned (.int .i64 (Lib.indexByte s.data.toList c.toNat.toUInt8)) ∧ w' = w := by
  go_enter Try.func53, Try.ntmps53
  go_wp2
  rw [run_callFunc_extern Try.func58 (by kernel_rfl) (by kernel_rfl) (by kernel_rfl) (e := Extern.BytealgIndexByte.indexByte) (by kernel_rfl), Lib.run_indexByteString]
  simp only [Result.andThen]
  rw [Oper.upon_value]
  go_wp2
  go_ret
  exact ⟨rfl, rfl⟩

set_option maxRecDepth 100000 in
set_option maxHeartbeats 2000000 in
theorem ix_any (s : ByteArray) (c : UInt8) (w : World) :
    Calls Try.prog 59 #[.string s, .string ⟨#[c]⟩] w fun e w' => e = .returned (.int .i64 (Lib.indexByte s.data.toList c)) ∧ w' = w := by
  go_enter Try.func59, Try.ntmps59
  go_wp2_with (go_at_call 53; refine (ixb_any _ _ _).mono ?_; rintro e w' ⟨rfl, rfl⟩)
  · have h : ([c] == s.toList) = true := by assumption
    go_ret
    refine ⟨?_, rfl⟩
    have e : s.data.toList = [c] := by rw [← Lib.toList_data]; exact (beq_iff_eq.1 h).symm
    rw [e]
    simp [Lib.indexByte]
  · go_ret
    exact ⟨rfl, rfl⟩
theorem ixB_hit {c : UInt8} {y : List UInt8} : ∀ {x : List UInt8}, c ∉ x → Lib.indexByte (x ++ c :: y) c = x.length
  | [], _ => by simp [Lib.indexByte]
  | b :: x, h => by
    simp at h
    have ih := ixB_hit (y := y) h.2
    show (if b == c then 0 else if Lib.indexByte (x ++ c :: y) c == -1 then -1 else Lib.indexByte (x ++ c :: y) c + 1) = _
    rw [ih, if_neg (by simpa using fun e => h.1 e.symm), if_neg (by simp <;> omega)]
    simp
theorem ixB_miss {c : UInt8} : ∀ {l : List UInt8}, c ∉ l → Lib.indexByte l c = -1
  | [], _ => rfl
  | b :: l, h => by
    simp at h
    show (if b == c then 0 else if Lib.indexByte l c == -1 then -1 else Lib.indexByte l c + 1) = _
    rw [ixB_miss h.2, if_neg (by simpa using fun e => h.1 e.symm)]
    rfl
theorem ext_before {s : ByteArray} {c : UInt8} {x y : List UInt8} (h : s.data.toList = x ++ c :: y) : s.extract 0 x.length = ⟨x.toArray⟩ :=
  bytes_ext (by rw [ByteArray.data_extract, Array.toList_extract, h]; simp)
theorem ext_after {s : ByteArray} {c : UInt8} {x y : List UInt8} (h : s.data.toList = x ++ c :: y) : s.extract (x.length + 1) s.size = ⟨y.toArray⟩ := by
  have hl : s.size = x.length + (y.length + 1) := by
    show s.data.size = _
    rw [← Array.length_toList, h]; simp
  refine bytes_ext ?_
  rw [ByteArray.data_extract, Array.toList_extract, h, hl, List.extract_eq_take_drop, List.drop_append, show x.length + (y.length + 1) - (x.length + 1) = y.length from by omega, List.drop_eq_nil_of_le (Nat.le_succ _)]
  simp
theorem size_parts {s : ByteArray} {c : UInt8} {x y : List UInt8} (h : s.data.toList = x ++ c :: y) : s.size = x.length + (y.length + 1) := by
  show s.data.size = _
  rw [← Array.length_toList, h]; simp

set_option maxHeartbeats 400000 in
theorem cut0_hit (s : ByteArray) (c : UInt8) (x y : List UInt8) (w : World) (h : s.data.toList = x ++ c :: y) (hx : c ∉ x) (hs : s.size ≤ maxLen) :
    Calls Try.prog 54 #[.string s, .string ⟨#[c]⟩] w fun e w' => e = .returned (.tuple #[.string ⟨x.toArray⟩, .string ⟨y.toArray⟩, .bool true]) ∧ Below w.heap.size w w' := by
  have hi := Lib.hid (ixB_hit (y := y) hx)
  have hz := size_parts h
  have e1 := Lib.hid (ext_before h)
  have e2 := Lib.hid (ext_after h)
  have H := Lib.hid h
  unfold maxLen at hs
  have c1 : (0 : Int) ≤ (x.length : Int) := by omega
  have c2 : (x.length : Int) ≤ (s.size : Int) := by omega
  have c3 : (0 : Int) ≤ (x.length : Int) + 1 := by omega
  have c4 : (x.length : Int) + 1 ≤ (s.size : Int) := by omega
  clear h hz hx
  go_enter Try.func54, Try.ntmps54
  go_wp2_with (go_at_call 59; refine (ix_any _ _ _).mono ?_; rintro e w' ⟨rfl, rfl⟩; rw [H.out, hi.out])
  go_quiet (fail)
  go_wp2
  go_ret3
  exact ⟨by rw [← e1.out, ← e2.out]; rfl, below_drewN (Below.refl _ _) _⟩

set_option maxHeartbeats 400000 in
theorem cut0_miss (s : ByteArray) (c : UInt8) (w : World) (h : c ∉ s.data.toList) :
    Calls Try.prog 54 #[.string s, .string ⟨#[c]⟩] w fun e w' => e = .returned (.tuple #[.string s, .string .empty, .bool false]) ∧ Below w.heap.size w w' := by
  have hi := Lib.hid (ixB_miss h)
  clear h
  go_enter Try.func54, Try.ntmps54
  go_wp2_with (go_at_call 59; refine (ix_any _ _ _).mono ?_; rintro e w' ⟨rfl, rfl⟩; rw [hi.out])
  go_ret3
  exact ⟨rfl, Below.refl _ _⟩

theorem cut_hit (s : ByteArray) (c : UInt8) (x y : List UInt8) (w : World) (h : s.data.toList = x ++ c :: y) (hx : c ∉ x) (hs : s.size ≤ maxLen) :
    Calls Try.prog 46 #[.string s, .string ⟨#[c]⟩] w fun e w' => e = .returned (.tuple #[.string ⟨x.toArray⟩, .string ⟨y.toArray⟩, .bool true]) ∧ Below w.heap.size w w' := by
  have H := Lib.hid h
  have Hs := Lib.hid hs
  clear h hs
  go_enter Try.func46, Try.ntmps46
  go_wp2_with (go_at_call 54; refine (cut0_hit _ _ x y _ H.out hx Hs.out).mono ?_; rintro e w1 ⟨rfl, hB⟩)
  go_ret3
  exact ⟨rfl, hB⟩
theorem cut_miss (s : ByteArray) (c : UInt8) (w : World) (h : c ∉ s.data.toList) :
    Calls Try.prog 46 #[.string s, .string ⟨#[c]⟩] w fun e w' => e = .returned (.tuple #[.string s, .string .empty, .bool false]) ∧ Below w.heap.size w w' := by
  go_enter Try.func46, Try.ntmps46
  go_wp2_with (go_at_call 54; refine (cut0_miss _ _ _ h).mono ?_; rintro e w1 ⟨rfl, hB⟩)
  go_ret3
  exact ⟨rfl, hB⟩

/-- what parseFile answers -/
def PfPost (p t : ByteArray) (b : Bool) (w : World) (e : Ending) (w' : World) : Prop := e = .returned (.tuple #[.agg #[.string p, .string t], .bool b]) ∧ Below w.heap.size w w'
end Go.Proofs.Ytecekkmagldpoaa
