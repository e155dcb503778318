/-
  Plain words on the texts of expressions. No program is named here.
-/
import Derived.Test.YtahdpocaldhamaaGreatGone
namespace Go.Proofs.YtahdpocaldhamaaGreat
set_option linter.unusedVariables false
open Go.RowKit

/-- all nodes are right -/
def good : Fo → Bool
  | .nil => true
  | .node k s ks r => nodeB k s ks.len && good ks && good r
theorem good_of : ∀ {f : Fo} {d : Nat}, shape f d = true → good f = true
  | .nil, _, _ => rfl
  | .node k s ks r, d, h => by
    simp only [shape, Bool.and_eq_true] at h
    simp only [good, Bool.and_eq_true]
    exact ⟨⟨h.1.1.2, good_of h.1.2⟩, good_of h.2⟩
theorem good_get : ∀ {f : Fo} {j : Nat} {k : Int} {s : ByteArray} {ks : Fo}, good f = true → f.get j = some (k, s, ks) → nodeB k s ks.len = true ∧ good ks = true
  | .nil, _, _, _, _, _, h => by simp [Fo.get] at h
  | .node k s ks r, 0, _, _, _, hf, h => by
    simp only [Fo.get, Option.some.injEq, Prod.mk.injEq] at h
    obtain ⟨rfl, rfl, rfl⟩ := h
    simp only [good, Bool.and_eq_true] at hf
    exact hf.1
  | .node k s ks r, j + 1, _, _, _, hf, h => by
    simp only [good, Bool.and_eq_true] at hf
    exact good_get (f := r) (j := j) hf.2 h
theorem valid_good {k : Int} {s : ByteArray} {ks : Fo} (h : validE k s ks = true) : nodeB k s ks.len = true ∧ good ks = true ∧ ks.size + 1 ≤ 20 := by
  unfold validE at h
  simp only [Bool.and_eq_true, decide_eq_true_eq] at h
  have := good_of h.1
  simp only [good, Bool.and_eq_true] at this
  exact ⟨this.1.1, this.1.2, h.2⟩
/-- the kinds -/
theorem node_kinds {k : Int} {s : ByteArray} {n : Nat} (h : nodeB k s n = true) :
    (k = 1 ∧ n = 0 ∧ plainB s = true) ∨ (k = 3 ∧ n ≤ 4 ∧ s = .empty) ∨ (k = 4 ∧ n = 4 ∧ s = .empty) ∨ ((k = 2 ∨ k = 5 ∨ k = 6 ∨ k = 7) ∧ n = 1 ∧ s = .empty) := by
  unfold nodeB kidsB at h
  simp only [Bool.and_eq_true, Bool.or_eq_true, decide_eq_true_eq] at h
  obtain ⟨⟨h1, h2⟩, h3⟩ := h
  rcases h1 with ((⟨h1, h4⟩ | ⟨h1, h4⟩) | ⟨h1, h4⟩) | ⟨h1, h4⟩
  · exact .inl ⟨h1, h4, h2⟩
  · exact .inr (.inl ⟨h1, h4, h3.resolve_left (by omega)⟩)
  · exact .inr (.inr (.inl ⟨h1, h4, h3.resolve_left (by omega)⟩))
  · exact .inr (.inr (.inr ⟨by rcases h1 with ((h1 | h1) | h1) | h1 <;> simp [h1], h4, h3.resolve_left (by omega)⟩))
theorem plain_size {s : ByteArray} (h : plainB s = true) : s.size ≤ 60 := by
  unfold plainB at h
  simp only [Bool.and_eq_true] at h
  exact ((textB_iff s).1 h.2).1
theorem node_size {k : Int} {s : ByteArray} {n : Nat} (h : nodeB k s n = true) : s.size ≤ 60 := by
  unfold nodeB at h
  simp only [Bool.and_eq_true] at h
  exact plain_size h.1.2
theorem len_one {ks : Fo} (h : ks.len = 1) : ∃ k s f, ks = .node k s f .nil := by
  match ks, h with
  | .node k s f .nil, _ => exact ⟨k, s, f, rfl⟩
  | .node k s f (.node ..), h => simp [Fo.len] at h
theorem len_zero {ks : Fo} (h : ks.len = 0) : ks = .nil := by
  match ks, h with
  | .nil, _ => rfl
  | .node .., h => simp [Fo.len] at h
/-- the byte that a node with one operand begins with -/
def chrB (k : Int) : UInt8 := if k = 2 then 64 else if k = 5 then 60 else if k = 6 then 62 else 35
/-- the texts of nodes, each with what stands behind it -/
def fmS : Fo → List (List UInt8) → List UInt8
  | .nil, _ => []
  | .node k s ks r, seps => (if k = 1 then [39] ++ s.data.toList ++ [39] else if k = 3 then [40] ++ fmS ks [] ++ [41] else if k = 4 then [91] ++ fmS ks [[61], [63], [58], [93]] else [chrB k] ++ fmS ks []) ++ seps.headD [] ++ fmS r seps.tail
/-- the text of a node -/
def fm1 (k : Int) (s : ByteArray) (ks : Fo) : List UInt8 :=
  if k = 1 then [39] ++ s.data.toList ++ [39] else if k = 3 then [40] ++ fmS ks [] ++ [41] else if k = 4 then [91] ++ fmS ks [[61], [63], [58], [93]] else [chrB k] ++ fmS ks []
theorem fmS_node (k : Int) (s : ByteArray) (ks r : Fo) (seps : List (List UInt8)) : fmS (.node k s ks r) seps = fm1 k s ks ++ seps.headD [] ++ fmS r seps.tail := rfl
theorem fmS_one (k : Int) (s : ByteArray) (ks : Fo) : fmS (.node k s ks .nil) [] = fm1 k s ks := by rw [fmS_node]; simp [fmS]
theorem fmS_len : ∀ {f : Fo} (seps : List (List UInt8)), good f = true → (∀ x ∈ seps, x.length ≤ 1) → (fmS f seps).length ≤ 63 * f.size
  | .nil, _, _, _ => Nat.le_refl _
  | .node k s ks r, seps, hg, hs => by
    simp only [good, Bool.and_eq_true] at hg
    have h1 := fmS_len (f := ks) [] hg.1.2 (by simp)
    have h2 := fmS_len (f := ks) [[61], [63], [58], [93]] hg.1.2 (by simp)
    have h3 := fmS_len (f := r) seps.tail hg.2 (fun x hx => hs x (List.mem_of_mem_tail hx))
    have h4 : (seps.headD []).length ≤ 1 := by
      cases seps with
      | nil => simp
      | cons a l => exact hs a (by simp)
    have h5 := node_size hg.1.1
    have h6 : s.data.toList.length ≤ 60 := by rw [Array.length_toList]; exact h5
    rw [fmS_node, List.length_append, List.length_append]
    simp only [Fo.size]
    have h7 : (fm1 k s ks).length ≤ 62 + 63 * ks.size := by
      unfold fm1
      split
      · simp only [List.length_append, List.length_cons, List.length_nil]; omega
      · split
        · simp only [List.length_append, List.length_cons, List.length_nil]; omega
        · split
          · simp only [List.length_append, List.length_cons, List.length_nil]; omega
          · simp only [List.length_append, List.length_cons, List.length_nil]; omega
    omega
theorem fm1_len {k : Int} {s : ByteArray} {ks : Fo} (hn : nodeB k s ks.len = true) (hg : good ks = true) : (fm1 k s ks).length ≤ 63 * (ks.size + 1) := by
  have := fmS_len (f := .node k s ks .nil) [] (by simp only [good, hn, hg, Bool.and_true]) (by simp)
  rw [fmS_one] at this
  simpa [Fo.size] using this
/-- the text of an expression, if it is valid -/
def fmtE (k : Int) (s : ByteArray) (ks : Fo) : ByteArray := if validE k s ks = true then ⟨(fm1 k s ks).toArray⟩ else .empty
end Go.Proofs.YtahdpocaldhamaaGreat
