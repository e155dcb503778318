/-
  Plain words on expressions: what is valid, and how a conversion counts its nodes. No program is named here.
-/
import Derived.Test.YtfpdeoicalofdaaTree
namespace Go.Proofs.Ytfpdeoicalofdaa
set_option linter.unusedVariables false
open Go.RowKit

/-- no quote in it -/
def noQ (l : List UInt8) : Bool := l.all fun c => decide (c.toNat ≠ 39)
theorem noQ_succ (s : ByteArray) (k : Nat) (h : k < s.size) : noQ (s.data.toList.take (k + 1)) = (noQ (s.data.toList.take k) && decide (s[k].toNat ≠ 39)) := by
  unfold noQ
  rw [List.take_succ_eq_append_getElem (by simpa using h), List.all_append]
  congr 1
  simp only [List.all_cons, List.all_nil, Bool.and_true]
  rfl
theorem noQ_false (s : ByteArray) (k : Nat) (h : k < s.size) (hb : s[k].toNat = 39) : noQ s.data.toList = false := by
  have h1 := noQ_succ s k h
  rw [decide_eq_false (p := s[k].toNat ≠ 39) (by omega), Bool.and_false] at h1
  unfold noQ at h1 ⊢
  rw [← List.take_append_drop (k + 1) s.data.toList, List.all_append, h1, Bool.false_and]
/-- a text that can stand between quotes -/
def plainB (s : ByteArray) : Bool := noQ s.data.toList && textB s
/-- a number of operands that is right for a kind -/
def kidsB (k : Int) (n : Nat) : Bool := (decide (k = 1) && decide (n = 0)) || (decide (k = 3) && decide (n ≤ 4)) || (decide (k = 4) && decide (n = 4)) || ((decide (k = 2) || decide (k = 5) || decide (k = 6) || decide (k = 7)) && decide (n = 1))
/-- a node that is right, but for its operands -/
def nodeB (k : Int) (s : ByteArray) (n : Nat) : Bool := kidsB k n && plainB s && (decide (k = 1) || decide (s = .empty))
/-- well-formed down to a depth -/
def shape : Fo → Nat → Bool
  | .nil, _ => true
  | .node k s ks r, d => decide (1 ≤ d) && nodeB k s ks.len && shape ks (d - 1) && shape r d
/-- nodes down to a depth -/
def count : Fo → Nat → Nat
  | .nil, _ => 0
  | .node k s ks r, d => 1 + (if 0 < d then count ks (d - 1) else 0) + count r d
theorem count_le : ∀ (f : Fo) (d : Nat), count f d ≤ f.size
  | .nil, _ => Nat.le_refl _
  | .node k s ks r, d => by
    have h1 := count_le ks (d - 1)
    have h2 := count_le r d
    simp only [count, Fo.size]
    split <;> omega
theorem count_shape : ∀ (f : Fo) (d : Nat), shape f d = true → count f d = f.size
  | .nil, _, _ => rfl
  | .node k s ks r, d, h => by
    simp only [shape, Bool.and_eq_true, decide_eq_true_eq] at h
    have h1 := count_shape ks (d - 1) h.1.2
    have h2 := count_shape r d h.2
    simp only [count, Fo.size]
    rw [if_pos (by omega)]
    omega
/-- a valid expression -/
def validE (k : Int) (s : ByteArray) (ks : Fo) : Bool := shape (.node k s ks .nil) 6 && decide (ks.size + 1 ≤ 20)
/-- the count of nodes behind a list of operands at a depth, if all are right -/
def conv : Fo → Nat → Nat → Option Nat
  | .nil, _, m => some m
  | .node k s ks r, d, m => if m + 1 ≤ 20 ∧ d ≤ 6 then (conv ks (d + 1) (m + 1)).bind fun m' => if nodeB k s ks.len = true then conv r d m' else none else none
/-- one node -/
def conv1 (k : Int) (s : ByteArray) (ks : Fo) (d m : Nat) : Option Nat := if m + 1 ≤ 20 ∧ d ≤ 6 then (conv ks (d + 1) (m + 1)).bind fun m' => if nodeB k s ks.len = true then some m' else none else none
theorem conv_node (k : Int) (s : ByteArray) (ks r : Fo) (d m : Nat) : conv (.node k s ks r) d m = (conv1 k s ks d m).bind fun m' => conv r d m' := by
  unfold conv1
  rw [conv]
  split
  · cases conv ks (d + 1) (m + 1) with
    | none => rfl
    | some m' => simp only [Option.bind_some]; split <;> rfl
  · rfl
theorem conv_eq : ∀ (f : Fo) (d m : Nat), d ≤ 7 → m ≤ 20 → conv f d m = if shape f (7 - d) = true ∧ m + f.size ≤ 20 then some (m + f.size) else none
  | .nil, d, m, _, hm => by simp [conv, shape, Fo.size, hm]
  | .node k s ks r, d, m, hd, hm => by
    rw [conv]
    simp only [shape, Fo.size, Bool.and_eq_true, decide_eq_true_eq]
    by_cases h1 : m + 1 ≤ 20 ∧ d ≤ 6
    · rw [if_pos h1, conv_eq ks (d + 1) (m + 1) (by omega) h1.1, show 7 - (d + 1) = 7 - d - 1 from by omega]
      by_cases h2 : shape ks (7 - d - 1) = true ∧ m + 1 + ks.size ≤ 20
      · rw [if_pos h2, Option.bind_some]
        by_cases h3 : nodeB k s ks.len = true
        · rw [if_pos h3, conv_eq r d _ hd h2.2]
          by_cases h4 : shape r (7 - d) = true ∧ m + 1 + ks.size + r.size ≤ 20
          · rw [if_pos h4, if_pos ⟨⟨⟨⟨by omega, h3⟩, h2.1⟩, h4.1⟩, by omega⟩]; congr 1; omega
          · rw [if_neg h4, if_neg (fun h => h4 ⟨h.1.2, by omega⟩)]
        · rw [if_neg h3, if_neg (fun h => h3 h.1.1.1.2)]
      · rw [if_neg h2, Option.bind_none, if_neg (fun h => h2 ⟨h.1.1.2, by omega⟩)]
    · rw [if_neg h1, if_neg (fun h => h1 ⟨by omega, by have := h.1.1.1.1; omega⟩)]
theorem conv1_valid (k : Int) (s : ByteArray) (ks : Fo) : conv1 k s ks 1 0 = if validE k s ks = true then some (ks.size + 1) else none := by
  have h1 : conv (.node k s ks .nil) 1 0 = conv1 k s ks 1 0 := by
    rw [conv_node]
    cases conv1 k s ks 1 0 <;> rfl
  rw [← h1, conv_eq _ 1 0 (by omega) (by omega)]
  unfold validE
  simp only [Bool.and_eq_true, decide_eq_true_eq, Fo.size, show 7 - 1 = 6 from rfl]
  by_cases h : shape (.node k s ks .nil) 6 = true ∧ ks.size + 1 ≤ 20
  · rw [if_pos h, if_pos ⟨h.1, by omega⟩]; congr 1; omega
  · rw [if_neg h, if_neg (fun h2 => h ⟨h2.1, by omega⟩)]
theorem conv_le {f : Fo} {d m m' : Nat} (hd : d ≤ 7) (hm : m ≤ 20) (h : conv f d m = some m') : m' ≤ 20 := by
  rw [conv_eq f d m hd hm] at h
  split at h
  · cases h; omega
  · cases h
end Go.Proofs.Ytfpdeoicalofdaa
