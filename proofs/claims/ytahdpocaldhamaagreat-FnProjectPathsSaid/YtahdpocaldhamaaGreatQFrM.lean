/-
  Plain words for FindRule.
-/
import Derived.Test.YtahdpocaldhamaaGreatQFmP
import Derived.Test.YtahdpocaldhamaaGreatGone
namespace Go.Proofs.YtahdpocaldhamaaGreat
set_option linter.unusedVariables false
open Go.RowKit

/-- the targets of a valid project ascend -/
theorem proj_asc {fs : List Fl} {rs : List Ru} (h : projB fs rs = true) : rs.Pairwise fun a b => sLess a.1 b.1 = true := by
  unfold projB rulesB at h
  simp only [Bool.and_eq_true] at h
  have ha := h.1.2.1
  have h2 : Asc (rs.map fun x => (x.1, ByteArray.empty)) := by
    refine asc_of_next fun k p t q r h1 h2 => ?_
    rw [List.getElem?_map] at h1 h2
    cases e1 : rs[k + 1]? with
    | none => rw [e1] at h1; cases h1
    | some x1 =>
      cases e2 : rs[k]? with
      | none => rw [e2] at h2; cases h2
      | some x2 =>
        rw [e1] at h1
        rw [e2] at h2
        simp only [Option.map_some, Option.some.injEq, Prod.mk.injEq] at h1 h2
        have h3 := allTo_get ha (List.getElem?_eq_some_iff.1 e1).1
        simp only [Bool.and_eq_true] at h3
        have h4 := h3.1
        unfold ascAt at h4
        rw [show k + 1 - 1 = k from rfl, ruGet_of e1, ruGet_of e2] at h4
        rw [← h1.1, ← h2.1]
        simpa using h4
  exact (List.pairwise_map.1 h2)
theorem ru_inj {rs : List Ru} (h : rs.Pairwise fun a b => sLess a.1 b.1 = true) {f g : Ru} (hf : f ∈ rs) (hg : g ∈ rs) (he : f.1 = g.1) : f = g := by
  induction rs with
  | nil => cases hf
  | cons x rs ih =>
    obtain ⟨h1, h2⟩ := List.pairwise_cons.1 h
    rcases List.mem_cons.1 hf with e1 | m1 <;> rcases List.mem_cons.1 hg with e2 | m2
    · rw [e1, e2]
    · subst e1; exact absurd he (sLess_ne (h1 _ m2))
    · subst e2; exact absurd he.symm (sLess_ne (h1 _ m1))
    · exact ih h2 m1 m2
/-- the body of the rule of a target -/
def findB (rs : List Ru) (x : ByteArray) : Option (Int × ByteArray × Fo) := (rs.find? fun r => decide (r.1 = x)).map (·.2)
/-- what FindRule answers -/
def findP (fs : List Fl) (rs : List Ru) (x : ByteArray) : Int × ByteArray × Fo × Bool := if projB fs rs = true then match findB rs x with
  | some (k, s, ks) => (k, s, ks, true)
  | none => (0, .empty, .nil, false) else (0, .empty, .nil, false)
theorem findB_some {rs : List Ru} {x : ByteArray} {k : Int} {s : ByteArray} {ks : Fo} (h : findB rs x = some (k, s, ks)) : (x, k, s, ks) ∈ rs := by
  unfold findB at h
  cases hf : rs.find? fun r => decide (r.1 = x) with
  | none => rw [hf] at h; cases h
  | some r =>
    rw [hf] at h
    obtain ⟨t, k', s', ks'⟩ := r
    simp only [Option.map_some, Option.some.injEq, Prod.mk.injEq] at h
    obtain ⟨rfl, rfl, rfl⟩ := h
    have h1 := List.find?_some hf
    obtain rfl : t = x := by simpa using h1
    exact List.mem_of_find?_eq_some hf
theorem findB_none {rs : List Ru} {x : ByteArray} (h : findB rs x = none) : ∀ r ∈ rs, r.1 ≠ x := by
  unfold findB at h
  rw [Option.map_eq_none_iff, List.find?_eq_none] at h
  exact fun r hr e => h r hr (by simpa using e)
/-- the first rule with the target, found at a place -/
theorem findB_at {rs : List Ru} {x : ByteArray} {j : Nat} {k : Int} {s : ByteArray} {ks : Fo} (h1 : ∀ (i : Nat) (r : Ru), i < j → rs[i]? = some r → r.1 ≠ x) (h2 : rs[j]? = some (x, k, s, ks)) : findB rs x = some (k, s, ks) := by
  unfold findB
  have hj := (List.getElem?_eq_some_iff.1 h2).1
  have : rs.find? (fun r => decide (r.1 = x)) = some (x, k, s, ks) := by
    rw [List.find?_eq_some_iff_getElem]
    refine ⟨by simp, j, hj, (List.getElem?_eq_some_iff.1 h2).2, fun i hi => ?_⟩
    have := h1 i rs[i] hi (List.getElem?_eq_getElem (by omega))
    simpa using this
  rw [this]
  rfl
theorem findB_all {rs : List Ru} {x : ByteArray} (h1 : ∀ (i : Nat) (r : Ru), rs[i]? = some r → r.1 ≠ x) : findB rs x = none := by
  unfold findB
  rw [Option.map_eq_none_iff, List.find?_eq_none]
  intro r hr
  obtain ⟨i, hi⟩ := List.getElem?_of_mem hr
  simpa using h1 i r hi
end Go.Proofs.YtahdpocaldhamaaGreat
