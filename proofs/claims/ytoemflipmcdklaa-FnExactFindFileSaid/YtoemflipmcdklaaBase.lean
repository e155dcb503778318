/-
  Plain words on byte strings for the whole family: no program is named here.
-/
import Derived.WalkKit
import Derived.WalkLawsBesides
import Derived.WalkSpells
import Derived.Lib.Hide
import Derived.Lib.IndexBytes
import Derived.WideShapes
namespace Go.Proofs.Ytoemflipmcdklaa
open Go.RowKit

theorem ret_bool {a b : Bool} (h : a = b) : Ending.returned (.bool a) = .returned (.bool b) := by rw [h]
theorem ret_int {k : IntKind} {a b : Int} (h : a = b) : Ending.returned (.int k a) = .returned (.int k b) := by rw [h]
theorem ret_str {a b : ByteArray} (h : a = b) : Ending.returned (.string a) = .returned (.string b) := by rw [h]

/-- every byte of s lies between lo and hi -/
def btw (lo hi : Nat) (l : List UInt8) : Bool := l.all fun c => decide (lo ≤ c.toNat ∧ c.toNat ≤ hi)

theorem btw_take_succ (lo hi : Nat) (s : ByteArray) (k : Nat) (h : k < s.size) :
    btw lo hi (s.data.toList.take (k + 1)) = (btw lo hi (s.data.toList.take k) && decide (lo ≤ s[k].toNat ∧ s[k].toNat ≤ hi)) := by
  unfold btw
  rw [List.take_succ_eq_append_getElem (by simpa using h)]
  simp [List.all_append]
  rfl

theorem btw_false_of (lo hi : Nat) (s : ByteArray) (k : Nat) (h : k < s.size) (hb : ¬ (lo ≤ s[k].toNat ∧ s[k].toNat ≤ hi)) :
    btw lo hi s.data.toList = false := by
  unfold btw
  rw [List.all_eq_false]
  refine ⟨s.data.toList[k]'(by simpa using h), List.getElem_mem _, ?_⟩
  have hb' : ¬ (lo ≤ (s.data[k]'h).toNat ∧ (s.data[k]'h).toNat ≤ hi) := hb
  simpa using hb'

theorem sEq (a b : ByteArray) : (a.toList == b.toList) = decide (a = b) := by
  rw [Lib.toList_data, Lib.toList_data]
  by_cases h : a = b
  · subst h; simp
  · have h2 : ¬ a.data = b.data := fun e => h (WideShapes.bytes_inj (by rw [e]))
    simp [h, h2]
/-- the order of strings -/
def sLess (a b : ByteArray) : Bool := Op.bytesLess a.toList b.toList

def pathB (s : ByteArray) : Bool := decide (1 ≤ s.size) && decide (s.size ≤ 8) && btw 97 122 s.data.toList
def textB (s : ByteArray) : Bool := decide (s.size ≤ 60) && btw 32 126 s.data.toList

end Go.Proofs.Ytoemflipmcdklaa
