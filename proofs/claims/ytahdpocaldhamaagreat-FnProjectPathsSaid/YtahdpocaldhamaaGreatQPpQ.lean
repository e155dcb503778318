/-
  Plain words for the laws of ProjectPaths and FindRule: the paths of a valid project ascend, each is of a source or of a rule, and of one only.
-/
import Derived.Test.YtahdpocaldhamaaGreatQPpM
namespace Go.Proofs.YtahdpocaldhamaaGreat
set_option linter.unusedVariables false
open Go.RowKit

theorem findF_two {fs : List Fl} {x : ByteArray} : (findF fs x).2 = true ↔ ∃ f ∈ fs, f.1 = x := by
  rcases findF_cases fs x with ⟨t, h1, h2⟩ | ⟨h1, h2⟩
  · rw [h2]; exact ⟨fun _ => ⟨_, h1, rfl⟩, fun _ => rfl⟩
  · rw [h2]; exact ⟨fun h => (by cases h), fun ⟨f, hf, e⟩ => absurd e (h1 f hf)⟩
theorem findP_two {fs : List Fl} {rs : List Ru} {x : ByteArray} (h : projB fs rs = true) : (findP fs rs x).2.2.2 = true ↔ ∃ r ∈ rs, r.1 = x := by
  unfold findP
  rw [if_pos h]
  cases hf : findB rs x with
  | none => exact ⟨fun h => (by cases h), fun ⟨r, hr, e⟩ => absurd e (findB_none hf r hr)⟩
  | some y => exact ⟨fun _ => ⟨_, findB_some hf, rfl⟩, fun _ => rfl⟩
/-- no target is a source's path -/
theorem proj_free {fs : List Fl} {rs : List Ru} (h : projB fs rs = true) {f : Fl} {r : Ru} (hf : f ∈ fs) (hr : r ∈ rs) : f.1 ≠ r.1 := by
  unfold projB at h
  simp only [Bool.and_eq_true] at h
  obtain ⟨j, hj, rfl⟩ := List.mem_iff_getElem.1 hr
  have h1 := allTo_get h.2 hj
  unfold freeAt at h1
  rw [ruGet_of (List.getElem?_eq_getElem hj)] at h1
  intro e
  rw [findF_two.2 ⟨f, hf, e⟩] at h1
  cases h1
theorem paths_mem {fs : List Fl} {rs : List Ru} (h : projB fs rs = true) {x : ByteArray} : x ∈ pathsP fs rs ↔ (∃ f ∈ fs, f.1 = x) ∨ ∃ r ∈ rs, r.1 = x := by
  unfold pathsP
  rw [if_pos h, (mg_perm _ _).mem_iff, List.mem_append, List.mem_map, List.mem_map]
/-- each path is of one of both -/
theorem paths_one {fs : List Fl} {rs : List Ru} (h : projB fs rs = true) {x : ByteArray} (hx : x ∈ pathsP fs rs) : ((findF fs x).2 == (findP fs rs x).2.2.2) = false := by
  rw [beq_eq_false_iff_ne]
  rcases (paths_mem h).1 hx with ⟨f, hf, rfl⟩ | ⟨r, hr, rfl⟩
  · rw [findF_two.2 ⟨f, hf, rfl⟩]
    intro e
    obtain ⟨r, hr, e'⟩ := (findP_two h).1 e.symm
    exact proj_free h hf hr e'.symm
  · rw [(findP_two h).2 ⟨r, hr, rfl⟩]
    intro e
    obtain ⟨f, hf, e'⟩ := findF_two.1 e
    exact proj_free h hf hr e'
theorem paths_count {fs : List Fl} {rs : List Ru} (h : projB fs rs = true) : (pathsP fs rs).length = fs.length + rs.length := by
  unfold pathsP
  rw [if_pos h, (mg_perm _ _).length_eq, List.length_append, List.length_map, List.length_map]
theorem paths_le (fs : List Fl) (rs : List Ru) : (pathsP fs rs).length ≤ fs.length + rs.length := by
  unfold pathsP
  split
  · rw [(mg_perm _ _).length_eq, List.length_append, List.length_map, List.length_map]
    omega
  · simp
/-- they ascend -/
theorem paths_asc {fs : List Fl} {rs : List Ru} (h : projB fs rs = true) : (pathsP fs rs).Pairwise fun a b => sLess a b = true := by
  have h1 : (pathsP fs rs).Pairwise leP := by
    unfold pathsP
    rw [if_pos h]
    exact mg_sorted _ _ (proj_leF h) (proj_leR h)
  have h2 : (pathsP fs rs).Nodup := by
    unfold pathsP
    rw [if_pos h, (mg_perm _ _).nodup_iff, List.nodup_append]
    refine ⟨?_, ?_, ?_⟩
    · have ha : Asc fs := by
        unfold projB at h
        simp only [Bool.and_eq_true] at h
        exact (validB_iff.1 h.1.1).2.2
      exact List.pairwise_map.2 (ha.imp fun h => sLess_ne h)
    · exact List.pairwise_map.2 ((proj_asc h).imp fun h => sLess_ne h)
    · intro a ha b hb
      obtain ⟨f, hf, rfl⟩ := List.mem_map.1 ha
      obtain ⟨r, hr, rfl⟩ := List.mem_map.1 hb
      exact proj_free h hf hr
  refine (h1.and h2).imp fun {a b} hab => ?_
  obtain ⟨hle, hne⟩ := hab
  unfold leP at hle
  rw [leB_iff] at hle
  exact sLess_total (by simpa using hle) (Ne.symm hne)
theorem paths_next {fs : List Fl} {rs : List Ru} (h : projB fs rs = true) {i : Nat} {a b : ByteArray} (ha : (pathsP fs rs)[i]? = some a) (hb : (pathsP fs rs)[i + 1]? = some b) : sLess a b = true := by
  obtain ⟨h1, rfl⟩ := List.getElem?_eq_some_iff.1 ha
  obtain ⟨h2, rfl⟩ := List.getElem?_eq_some_iff.1 hb
  exact List.pairwise_iff_getElem.1 (paths_asc h) i (i + 1) h1 h2 (by omega)
end Go.Proofs.YtahdpocaldhamaaGreat
