/-
  Rows of literals as lists of expressions; numbers out of their digits.
-/
import Derived.Test.YtbcghkdjhicocaaDrawE4
import Derived.Test.YtbcghkdjhicocaaFreeQ
namespace Go.Proofs.Ytbcghkdjhicocaa
set_option linter.unusedVariables false
open Go.RowKit

/-- a row of a literal, as a list of expressions -/
theorem KA.ofRow {w : World} {L B g n : Nat} {f : Fo} {cs : Array Value} {T : TypeId} {fr : Nat × Nat} (hg : w.heap[g]? = some (.cells cs T fr)) (hL : L ≤ g) (hB : g < B) (h : RowT w L B none f cs.toList) (hn : f.len = n) : KA w L B f (some ⟨g, 0, none⟩) n :=
  ⟨hn, fun _ => ⟨g, 0, rfl, hL, hB, rowT_seg h fun j u hu => by rw [Nat.zero_add, cell_of_row _ _ _ _ _ _ hg]; simpa using hu⟩⟩
theorem rowT_one {w : World} {L B L1 B1 : Nat} {k : Int} {s : ByteArray} {ks r : Fo} {a : Option Addr} {n c : Nat} {ys : List Value} (hc : n ≤ c) (h : KA w L1 B1 ks a n) (hL : L ≤ L1) (hB : B1 ≤ B) (hr : RowT w L B none r ys) : RowT w L B none (.node k s ks r) (.int .i64 k :: .string s :: .slice a n c :: ys) :=
  ⟨a, n, c, ys, rfl, hc, ⟨L1, B1, h, hL, hB, fun g e => by cases e⟩, hr⟩
/-- the number that digits say -/
def numOf (l : List UInt8) : Nat := l.foldl (fun a d => a * 10 + (d.toNat - 48)) 0
theorem numOf_snoc (l : List UInt8) (d : UInt8) : numOf (l ++ [d]) = numOf l * 10 + (d.toNat - 48) := by simp [numOf]
theorem numOf_take (t : ByteArray) (j : Nat) (hj : j < t.size) : numOf (t.data.toList.take (j + 1)) = numOf (t.data.toList.take j) * 10 + (t[j].toNat - 48) := by
  have hl : j < t.data.toList.length := by simpa using hj
  rw [List.take_succ_eq_append_getElem hl, numOf_snoc]
  rfl
theorem dec_all {n : Nat} (h : n < 100) : ∀ d ∈ Lib.decDigits n, 48 ≤ d.toNat ∧ d.toNat ≤ 57 := by
  intro d hd
  by_cases h1 : n < 10
  · rw [dec_one h1] at hd
    simp only [List.mem_singleton] at hd
    subst hd
    simp only [UInt8.toNat_ofNat']
    omega
  · rw [dec_two h1 h] at hd
    simp only [List.mem_cons, List.not_mem_nil, or_false] at hd
    rcases hd with rfl | rfl <;> simp only [UInt8.toNat_ofNat'] <;> omega
end Go.Proofs.Ytbcghkdjhicocaa
