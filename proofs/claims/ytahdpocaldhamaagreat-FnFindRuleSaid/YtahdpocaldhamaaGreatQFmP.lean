/-
  Plain words for FormatProject.
-/
import Derived.Test.YtahdpocaldhamaaGreatGone
import Derived.Test.YtahdpocaldhamaaGreatQFmtM
namespace Go.Proofs.YtahdpocaldhamaaGreat
set_option linter.unusedVariables false
open Go.RowKit

/-- the line of a source -/
def lineS (f : Fl) : List UInt8 := [115, 111, 117, 114, 99, 101, 32] ++ (f.1.data.toList ++ ([32] ++ (f.2.data.toList ++ [10])))
/-- the line of a rule -/
def lineR (x : Ru) : List UInt8 := [114, 117, 108, 101, 32] ++ (x.1.data.toList ++ ([32] ++ ((fmtE x.2.1 x.2.2.1 x.2.2.2).data.toList ++ [10])))
/-- the lines -/
def linesP (fs : List Fl) (rs : List Ru) : List UInt8 := [112, 114, 111, 106, 101, 99, 116, 10] ++ (fs.flatMap lineS ++ rs.flatMap lineR)
/-- what FormatProject answers -/
def fmtP (fs : List Fl) (rs : List Ru) : ByteArray := if projB fs rs = true then ⟨(linesP fs rs).toArray⟩ else .empty
theorem flat_take {α : Type} (g : α → List UInt8) {l : List α} {j : Nat} {x : α} (h : l[j]? = some x) : (l.take (j + 1)).flatMap g = (l.take j).flatMap g ++ g x := by
  rw [List.take_add_one, h, List.flatMap_append]
  simp
theorem allTo_get {p : Nat → Bool} {n j : Nat} (h : allTo p n = true) (hj : j < n) : p j = true := by
  unfold allTo at h
  rw [List.all_eq_true] at h
  exact h j (List.mem_range.2 hj)
theorem flat_len {α : Type} (g : α → List UInt8) (m : Nat) : ∀ (l : List α), (∀ x ∈ l, (g x).length ≤ m) → (l.flatMap g).length ≤ m * l.length
  | [], _ => by simp
  | x :: l, h => by
    have h1 := h x (List.mem_cons_self ..)
    have h2 := flat_len g m l fun y hy => h y (List.mem_cons_of_mem _ hy)
    simp only [List.flatMap_cons, List.length_append, List.length_cons, Nat.mul_add, Nat.mul_one]
    omega
theorem fmtE_len {k : Int} {s : ByteArray} {ks : Fo} (h : validE k s ks = true) : (fmtE k s ks).data.toList.length ≤ 1260 := by
  unfold fmtE
  rw [if_pos h]
  obtain ⟨h1, h2, h3⟩ := valid_good h
  have := fm1_len h1 h2
  show (fm1 k s ks).toArray.toList.length ≤ _
  simp
  omega
/-- what a valid project's parts measure -/
theorem proj_sizes {fs : List Fl} {rs : List Ru} (h : projB fs rs = true) : fs.length ≤ 12 ∧ rs.length ≤ 10 ∧ (∀ f ∈ fs, (lineS f).length ≤ 80) ∧ (∀ x ∈ rs, (lineR x).length ≤ 1300 ∧ x.1.size ≤ 8 ∧ validE x.2.1 x.2.2.1 x.2.2.2 = true) := by
  rw [projB_each] at h
  simp only [Bool.and_eq_true, decide_eq_true_eq] at h
  obtain ⟨⟨hv, hl⟩, ha⟩ := h
  have hfl : fs.length ≤ 12 := by unfold validB at hv; simp only [Bool.and_eq_true, decide_eq_true_eq] at hv; exact hv.1
  refine ⟨hfl, hl, fun f hf => ?_, fun x hx => ?_⟩
  · obtain ⟨j, hj⟩ := List.getElem?_of_mem hf
    obtain ⟨p, t⟩ := f
    have := valid_sizes hv hj
    simp only [lineS, List.length_append, Array.length_toList, List.length_cons, List.length_nil]
    have h1 : p.data.size = p.size := rfl
    have h2 : t.data.size = t.size := rfl
    omega
  · obtain ⟨j, hj⟩ := List.getElem?_of_mem hx
    obtain ⟨t, k, s, ks⟩ := x
    have hjl : j < rs.length := (List.getElem?_eq_some_iff.1 hj).1
    have h1 := allTo_get ha hjl
    simp only [Bool.and_eq_true] at h1
    have h2 := h1.1.2
    unfold bodyAt at h2
    rw [ruGet_of hj] at h2
    simp only [Bool.and_eq_true] at h2
    have h3 : t.size ≤ 8 := by have := h2.1; unfold pathB at this; simp only [Bool.and_eq_true, decide_eq_true_eq] at this; exact this.1.2
    have h4 := fmtE_len h2.2
    refine ⟨?_, h3, h2.2⟩
    simp only [lineR, List.length_append, List.length_cons, List.length_nil]
    have h5 : t.data.toList.length = t.size := by simp
    omega
end Go.Proofs.YtahdpocaldhamaaGreat
