/-
  Plain words on byte strings for the whole family: no program is named here.
-/
import Derived.WalkKit
import Derived.WalkLawsBesides
import Derived.WalkSpells
import Derived.Lib.Hide
import Derived.Lib.IndexBytes
import Derived.WideShapes
namespace Go.Proofs.Ytfpdeoicalofdaa
set_option linter.unusedVariables false
open Go.RowKit

theorem ret_bool {a b : Bool} (h : a = b) : Ending.returned (.bool a) = .returned (.bool b) := by rw [h]
theorem ret_int {k : IntKind} {a b : Int} (h : a = b) : Ending.returned (.int k a) = .returned (.int k b) := by rw [h]
theorem ret_str {a b : ByteArray} (h : a = b) : Ending.returned (.string a) = .returned (.string b) := by rw [h]

/-- every byte of s lies between lo and hi -/
def btw (lo hi : Nat) (l : List UInt8) : Bool := l.all fun c => decide (lo ≤ c.toNat ∧ c.toNat ≤ hi)

theorem btw_take_succ (lo hi : Nat) (s : ByteArray) (k : Nat) (h : k < s.size) :
    btw lo hi (s.data.toList.take (k + 1)) = (btw lo hi (s.data.toList.take k) && decide (lo ≤ s[k].toNat ∧ s[k].toNat ≤ hi)) := by
  unfold btw
  rw [List.take_succ_eq_append_getElem (by simpa using h)]
  simp [List.all_append]
  rfl

theorem btw_false_of (lo hi : Nat) (s : ByteArray) (k : Nat) (h : k < s.size) (hb : ¬ (lo ≤ s[k].toNat ∧ s[k].toNat ≤ hi)) :
    btw lo hi s.data.toList = false := by
  unfold btw
  rw [List.all_eq_false]
  refine ⟨s.data.toList[k]'(by simpa using h), List.getElem_mem _, ?_⟩
  have hb' : ¬ (lo ≤ (s.data[k]'h).toNat ∧ (s.data[k]'h).toNat ≤ hi) := hb
  simpa using hb'

theorem sEq (a b : ByteArray) : (a.toList == b.toList) = decide (a = b) := by
  rw [Lib.toList_data, Lib.toList_data]
  by_cases h : a = b
  · subst h; simp
  · have h2 : ¬ a.data = b.data := fun e => h (WideShapes.bytes_inj (by rw [e]))
    simp [h, h2]
/-- the order of strings -/
def sLess (a b : ByteArray) : Bool := Op.bytesLess a.toList b.toList

def pathB (s : ByteArray) : Bool := decide (1 ≤ s.size) && decide (s.size ≤ 8) && btw 97 122 s.data.toList
def textB (s : ByteArray) : Bool := decide (s.size ≤ 60) && btw 32 126 s.data.toList


theorem btw_iff (lo hi : Nat) (l : List UInt8) : btw lo hi l = true ↔ ∀ c ∈ l, lo ≤ c.toNat ∧ c.toNat ≤ hi := by
  unfold btw; simp
theorem btw_append (lo hi : Nat) (a b : ByteArray) : btw lo hi (a ++ b).data.toList = (btw lo hi a.data.toList && btw lo hi b.data.toList) := by
  unfold btw; simp
theorem btw_extract {lo hi : Nat} {s : ByteArray} (h : btw lo hi s.data.toList = true) (i j : Nat) : btw lo hi (s.extract i j).data.toList = true := by
  rw [btw_iff] at h ⊢
  intro c hc
  refine h c ?_
  rw [ByteArray.data_extract, Array.toList_extract] at hc
  exact List.mem_of_mem_drop (List.mem_of_mem_take hc)
theorem pathB_iff (s : ByteArray) : pathB s = true ↔ 1 ≤ s.size ∧ s.size ≤ 8 ∧ btw 97 122 s.data.toList = true := by
  unfold pathB; simp [and_assoc]
theorem textB_iff (s : ByteArray) : textB s = true ↔ s.size ≤ 60 ∧ btw 32 126 s.data.toList = true := by
  unfold textB; simp
theorem path_q {s : ByteArray} (h : pathB s = true) : pathB (s ++ { data := #[113] }) = decide ((s.size : Int) < 8) := by
  obtain ⟨h1, h2, h3⟩ := (pathB_iff s).1 h
  unfold pathB
  rw [btw_append, h3, ByteArray.size_append, show ({ data := #[113] } : ByteArray).size = 1 from rfl, show btw 97 122 ({ data := #[113] } : ByteArray).data.toList = true from rfl]
  rw [decide_eq_true (show 1 ≤ s.size + 1 by omega)]
  simp
  omega
theorem path_tail {s : ByteArray} (h : pathB s = true) : pathB (s.extract 1 s.size) = decide ((1 : Int) < s.size) := by
  obtain ⟨h1, h2, h3⟩ := (pathB_iff s).1 h
  unfold pathB
  rw [btw_extract h3, ByteArray.size_extract, decide_eq_true (show min s.size s.size - 1 ≤ 8 by omega)]
  simp
  omega
theorem path_text {s : ByteArray} (h : pathB s = true) : textB s = true := by
  obtain ⟨h1, h2, h3⟩ := (pathB_iff s).1 h
  refine (textB_iff s).2 ⟨by omega, ?_⟩
  rw [btw_iff] at h3 ⊢
  intro c hc
  have := h3 c hc
  omega
theorem path_blank (s : ByteArray) : pathB (s ++ { data := #[32] }) = false := by
  unfold pathB
  rw [btw_append, show btw 97 122 ({ data := #[32] } : ByteArray).data.toList = false from rfl]
  simp
theorem text_tail {s : ByteArray} (h : textB s = true) (i : Nat) : textB (s.extract i s.size) = true := by
  obtain ⟨h1, h2⟩ := (textB_iff s).1 h
  exact (textB_iff _).2 ⟨by rw [ByteArray.size_extract]; omega, btw_extract h2 _ _⟩
theorem text_append {a b : ByteArray} (ha : textB a = true) (hb : textB b = true) : textB (a ++ b) = decide ((a.size : Int) + b.size ≤ 60) := by
  obtain ⟨h1, h2⟩ := (textB_iff a).1 ha
  obtain ⟨h3, h4⟩ := (textB_iff b).1 hb
  unfold textB
  rw [btw_append, h2, h4, ByteArray.size_append]
  simp
  omega
end Go.Proofs.Ytfpdeoicalofdaa
