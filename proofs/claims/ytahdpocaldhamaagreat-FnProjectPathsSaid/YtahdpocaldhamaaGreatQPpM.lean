/-
  Plain words for ProjectPaths: two lists in order, merged. No program is named here.
-/
import Derived.Test.YtahdpocaldhamaaGreatQFrM
namespace Go.Proofs.YtahdpocaldhamaaGreat
set_option linter.unusedVariables false
open Go.RowKit Go.Maps

/-- two lists merged: the first of the two heads that is smaller, and the second list's at a tie -/
def mg : List ByteArray → List ByteArray → List ByteArray
  | [], ys => ys
  | x :: xs, [] => x :: xs
  | x :: xs, y :: ys => if sLess x y = true then x :: mg xs (y :: ys) else y :: mg (x :: xs) ys
termination_by xs ys => xs.length + ys.length
theorem mg_nil (xs : List ByteArray) : mg xs [] = xs := by cases xs <;> simp [mg]
theorem mg_left {P T : List ByteArray} {i k : Nat} {x : ByteArray} (h : P[i]? = some x) (hT : T.length ≤ k ∨ ∃ y, T[k]? = some y ∧ sLess x y = true) : mg (P.drop i) (T.drop k) = x :: mg (P.drop (i + 1)) (T.drop k) := by
  obtain ⟨hl, rfl⟩ := List.getElem?_eq_some_iff.1 h
  rw [List.drop_eq_getElem_cons hl]
  rcases hT with hT | ⟨y, hy, hlt⟩
  · rw [List.drop_eq_nil_of_le hT, mg_nil, mg_nil]
  · obtain ⟨hl2, rfl⟩ := List.getElem?_eq_some_iff.1 hy
    rw [List.drop_eq_getElem_cons hl2, mg, if_pos hlt]
theorem mg_right {P T : List ByteArray} {i k : Nat} {y : ByteArray} (h : T[k]? = some y) (hP : P.length ≤ i ∨ ∃ x, P[i]? = some x ∧ sLess x y = false) : mg (P.drop i) (T.drop k) = y :: mg (P.drop i) (T.drop (k + 1)) := by
  obtain ⟨hl, rfl⟩ := List.getElem?_eq_some_iff.1 h
  rw [List.drop_eq_getElem_cons hl]
  rcases hP with hP | ⟨x, hx, hlt⟩
  · rw [List.drop_eq_nil_of_le hP, mg, mg]
  · obtain ⟨hl2, rfl⟩ := List.getElem?_eq_some_iff.1 hx
    rw [List.drop_eq_getElem_cons hl2, mg, if_neg (by rw [hlt]; simp)]
theorem mg_perm : ∀ xs ys : List ByteArray, (mg xs ys).Perm (xs ++ ys)
  | [], ys => by rw [mg]; exact .refl _
  | x :: xs, [] => by rw [mg_nil, List.append_nil]
  | x :: xs, y :: ys => by
    rw [mg]
    split
    · exact (mg_perm xs (y :: ys)).cons x
    · exact ((mg_perm (x :: xs) ys).cons y).trans List.perm_middle.symm
termination_by xs ys => xs.length + ys.length
def leP (a b : ByteArray) : Prop := leB a.data.toList b.data.toList = true
theorem leP_trans {a b c : ByteArray} (h1 : leP a b) (h2 : leP b c) : leP a c := leB_trans _ _ _ h1 h2
theorem leP_of {a b : ByteArray} (h : sLess a b = true) : leP a b := by unfold leP; rw [leB_iff, sLess_asymm h]; rfl
theorem leP_not {a b : ByteArray} (h : sLess a b = false) : leP b a := by unfold leP; rw [leB_iff, h]; rfl
theorem mg_sorted : ∀ xs ys : List ByteArray, xs.Pairwise leP → ys.Pairwise leP → (mg xs ys).Pairwise leP
  | [], ys, _, h => by rw [mg]; exact h
  | x :: xs, [], h, _ => by rw [mg_nil]; exact h
  | x :: xs, y :: ys, h1, h2 => by
    rw [mg]
    obtain ⟨h3, h4⟩ := List.pairwise_cons.1 h1
    obtain ⟨h5, h6⟩ := List.pairwise_cons.1 h2
    split
    · rename_i hlt
      refine List.pairwise_cons.2 ⟨fun z hz => ?_, mg_sorted xs (y :: ys) h4 h2⟩
      rcases List.mem_append.1 ((mg_perm xs (y :: ys)).mem_iff.1 hz) with hz | hz
      · exact h3 z hz
      · rcases List.mem_cons.1 hz with rfl | hz
        · exact leP_of hlt
        · exact leP_trans (leP_of hlt) (h5 z hz)
    · rename_i hlt
      have hyx : leP y x := leP_not (by simpa using hlt)
      refine List.pairwise_cons.2 ⟨fun z hz => ?_, mg_sorted (x :: xs) ys h1 h6⟩
      rcases List.mem_append.1 ((mg_perm (x :: xs) ys).mem_iff.1 hz) with hz | hz
      · rcases List.mem_cons.1 hz with rfl | hz
        · exact hyx
        · exact leP_trans hyx (h3 z hz)
      · exact h5 z hz
termination_by xs ys => xs.length + ys.length
/-- sorted, the two lists are the merged one -/
theorem mg_sort {xs ys : List ByteArray} (h1 : xs.Pairwise leP) (h2 : ys.Pairwise leP) : ((xs ++ ys).map fun s => s.data.toList).mergeSort (fun x y => decide (x ≤ y)) = (mg xs ys).map fun s => s.data.toList := by
  refine List.Perm.eq_of_pairwise (le := fun a b => leB a b = true) (fun a b _ _ h1 h2 => ?_) (List.pairwise_mergeSort leB_trans leB_total _) ?_ ((List.mergeSort_perm _ _).trans ((mg_perm xs ys).map _).symm)
  · simp only [leB, decide_eq_true_eq] at h1 h2
    exact List.le_antisymm h1 h2
  · exact List.pairwise_map.2 (mg_sorted xs ys h1 h2)
/-- what ProjectPaths answers -/
def pathsP (fs : List Fl) (rs : List Ru) : List ByteArray := if projB fs rs = true then mg (fs.map (·.1)) (rs.map (·.1)) else []
theorem pathsP_len (fs : List Fl) (rs : List Ru) : (pathsP fs rs).length ≤ 22 := by
  unfold pathsP
  split
  · rename_i h
    rw [(mg_perm _ _).length_eq, List.length_append, List.length_map, List.length_map]
    obtain ⟨h1, h2, _⟩ := proj_sizes h
    omega
  · simp
theorem proj_leF {fs : List Fl} {rs : List Ru} (h : projB fs rs = true) : (fs.map (·.1)).Pairwise leP := by
  unfold projB at h
  simp only [Bool.and_eq_true] at h
  exact List.pairwise_map.2 ((validB_iff.1 h.1.1).2.2.imp fun h => leP_of h)
theorem proj_leR {fs : List Fl} {rs : List Ru} (h : projB fs rs = true) : (rs.map (·.1)).Pairwise leP := List.pairwise_map.2 ((proj_asc h).imp fun h => leP_of h)
end Go.Proofs.YtahdpocaldhamaaGreat
