/-
  Plain words for the laws of the edits of a project, over the four answers setSrcR, delSrcR, setRuleR and delRuleR. No program's function is walked here.
-/
import Derived.Test.YtceiafncpimihaaGreatGtwo
import Derived.Test.YtceiafncpimihaaGreatQEdZ
import Derived.Test.YtceiafncpimihaaGreatQPutI
namespace Go.Proofs.YtceiafncpimihaaGreat
set_option linter.unusedVariables false
open Go.RowKit

theorem setSrc_yes {f : Fl} {fs fs' : List Fl} {rs rs' : List Ru} (h : setSrcR f fs rs = (fs', rs', true)) : projB fs rs = true ∧ projB (putF f fs) rs = true ∧ fs' = putF f fs ∧ rs' = rs := by
  unfold setSrcR at h
  split at h
  · rename_i h2
    cases h
    exact ⟨h2.1, h2.2, rfl, rfl⟩
  · cases h
theorem setSrc_of {f : Fl} {fs : List Fl} {rs : List Ru} (h : projB fs rs = true) (h2 : projB (putF f fs) rs = true) : setSrcR f fs rs = (putF f fs, rs, true) := by
  unfold setSrcR
  rw [if_pos ⟨h, h2⟩]
theorem delSrc_yes {x : ByteArray} {fs fs' : List Fl} {rs rs' : List Ru} (h : delSrcR x fs rs = (fs', rs', true)) : projB fs rs = true ∧ hasF fs x = true ∧ projB (delU x fs) rs = true ∧ fs' = delU x fs ∧ rs' = rs := by
  unfold delSrcR at h
  split at h
  · rename_i h2
    cases h
    exact ⟨h2.1, h2.2.1, h2.2.2, rfl, rfl⟩
  · cases h
theorem setRule_yes {r : Ru} {fs fs' : List Fl} {rs rs' : List Ru} (h : setRuleR r fs rs = (fs', rs', true)) : projB fs rs = true ∧ projB fs (putRu r rs) = true ∧ fs' = fs ∧ rs' = putRu r rs := by
  unfold setRuleR at h
  split at h
  · rename_i h2
    cases h
    exact ⟨h2.1, h2.2, rfl, rfl⟩
  · cases h
theorem setRule_of {r : Ru} {fs : List Fl} {rs : List Ru} (h : projB fs rs = true) (h2 : projB fs (putRu r rs) = true) : setRuleR r fs rs = (fs, putRu r rs, true) := by
  unfold setRuleR
  rw [if_pos ⟨h, h2⟩]
theorem delRule_yes {x : ByteArray} {fs fs' : List Fl} {rs rs' : List Ru} (h : delRuleR x fs rs = (fs', rs', true)) : projB fs rs = true ∧ (findB rs x).isSome = true ∧ fs' = fs ∧ rs' = delRu x rs := by
  unfold delRuleR at h
  split at h
  · rename_i h2
    cases h
    exact ⟨h2.1, h2.2.1, rfl, rfl⟩
  · cases h
theorem delRule_of {x : ByteArray} {fs : List Fl} {rs : List Ru} (h : projB fs rs = true) (h2 : (findB rs x).isSome = true) : delRuleR x fs rs = (fs, delRu x rs, true) := by
  unfold delRuleR
  rw [if_pos ⟨h, h2, projB_del h x⟩]

/-- FnSetSource: a source that is set is found, and setting it again changes nothing -/
theorem setSrc_law {f : Fl} {fs fs' : List Fl} {rs rs' : List Ru} (h : setSrcR f fs rs = (fs', rs', true)) : projB fs' rs' = true ∧ rs' = rs ∧ findF fs' f.1 = (f.2, true) ∧ setSrcR f fs' rs' = (fs', rs', true) := by
  obtain ⟨h1, h2, rfl, rfl⟩ := setSrc_yes h
  have ha := valid_asc (valid_of h1)
  have h3 : putF f (putF f fs) = putF f fs := putF_twice ha rfl
  exact ⟨h2, rfl, by rw [find_put ha, if_pos rfl], by have := setSrc_of (f := f) h2 (by rw [h3]; exact h2); rwa [h3] at this⟩
/-- FnRemoveSource: a source that is removed can be set again -/
theorem delSrc_law {x : ByteArray} {fs fs' : List Fl} {rs rs' : List Ru} (h : delSrcR x fs rs = (fs', rs', true)) : ∃ t, findF fs x = (t, true) ∧ t.size ≤ 60 ∧ projB fs rs = true ∧ setSrcR (x, t) fs' rs' = (fs, rs, true) := by
  obtain ⟨h1, h2, h3, rfl, rfl⟩ := delSrc_yes h
  rcases findF_cases fs x with ⟨t, hm, hf⟩ | ⟨hn, hf⟩
  · have h4 : putF (x, t) (delU x fs) = fs := put_delU (f := (x, t)) (valid_asc (valid_of h1)) hm
    exact ⟨t, hf, ((textB_iff _).1 ((validB_iff.1 (valid_of h1)).2.1 _ hm).2).1, h1, by have := setSrc_of (f := (x, t)) h3 (by rw [h4]; exact h1); rwa [h4] at this⟩
  · rw [← hasF_find, hf] at h2
    cases h2
/-- FnSetRule: a rule that is set is found, and removing it leaves the others -/
theorem setRule_law {r : Ru} {fs fs' : List Fl} {rs rs' : List Ru} (h : setRuleR r fs rs = (fs', rs', true)) : projB fs' rs' = true ∧ findP fs' rs' r.1 = (r.2.1, r.2.2.1, r.2.2.2, true) ∧ projB fs rs = true ∧ ∃ rs2, delRuleR r.1 fs' rs' = (fs, rs2, true) ∧ ((findP fs rs r.1).2.2.2 = false → rs2 = rs) := by
  obtain ⟨h1, h2, rfl, rfl⟩ := setRule_yes h
  have hm : r ∈ putRu r rs := mem_putRu.2 (.inl rfl)
  obtain ⟨t, k, s, ks⟩ := r
  refine ⟨h2, findP_yes h2 hm, h1, delRu t (putRu (t, k, s, ks) rs), ?_, fun hn => ?_⟩
  · exact delRule_of h2 (by rw [findB_mem (proj_asc h2) hm]; rfl)
  · refine delRu_put (r := (t, k, s, ks)) (proj_asc h1) fun x hx e => ?_
    rw [Bool.eq_false_iff] at hn
    exact hn ((findP_two h1).2 ⟨x, hx, e⟩)
/-- FnRemoveRule: a rule that is removed can be set again -/
theorem delRule_law {t : ByteArray} {fs fs' : List Fl} {rs rs' : List Ru} (h : delRuleR t fs rs = (fs', rs', true)) : projB fs rs = true ∧ ∃ k s ks, (t, k, s, ks) ∈ rs ∧ findP fs rs t = (k, s, ks, true) ∧ findP fs' rs' t = (0, .empty, .nil, false) ∧ setRuleR (t, k, s, ks) fs' rs' = (fs, rs, true) := by
  obtain ⟨h1, h2, rfl, rfl⟩ := delRule_yes h
  cases hf : findB rs t with
  | none => rw [hf] at h2; cases h2
  | some y =>
    obtain ⟨k, s, ks⟩ := y
    have hm := findB_some hf
    have h4 : putRu (t, k, s, ks) (delRu t rs) = rs := putRu_del (r := (t, k, s, ks)) (proj_asc h1) hm
    refine ⟨h1, k, s, ks, hm, findP_yes h1 hm, findP_no fun r hr => (mem_delRu.1 hr).2, ?_⟩
    have := setRule_of (r := (t, k, s, ks)) (projB_del h1 t) (by rw [h4]; exact h1)
    rwa [h4] at this
/-- FnSetCommute: setting a source and setting a rule in either order -/
theorem commute_law {f : Fl} {r : Ru} {fs fs' : List Fl} {rs rs' : List Ru} (h : setSrcR f fs rs = (fs', rs', true)) {al bl yl : List Fl} {aq bq yq : List Ru} {p1 p2 p3 : Bool} (ha : setRuleR r fs' rs' = (al, aq, p1)) (hy : setRuleR r fs rs = (yl, yq, p2)) (hb : setSrcR f yl yq = (bl, bq, p3)) :
    p1 = (p2 && p3) ∧ (p1 = true → al = bl ∧ aq = bq) := by
  obtain ⟨h1, h2, e1, e2⟩ := setSrc_yes h
  subst e1
  have e3 := e2.symm
  subst e3
  have hasc := valid_asc (valid_of h1)
  have hsub : projB (putF f fs) (putRu r rs) = true → projB fs (putRu r rs) = true := fun h3 => projB_less h3 (valid_of h1) fun g hg => by
    by_cases e : g.1 = f.1
    · exact ⟨f, (mem_putF hasc).2 (.inl rfl), e.symm⟩
    · exact ⟨g, (mem_putF hasc).2 (.inr ⟨hg, e⟩), rfl⟩
  by_cases h3 : projB (putF f fs) (putRu r rs) = true
  · have h4 := hsub h3
    rw [setRule_of h2 h3] at ha
    rw [setRule_of h1 h4] at hy
    cases ha
    cases hy
    rw [setSrc_of h4 h3] at hb
    cases hb
    exact ⟨rfl, fun _ => ⟨rfl, rfl⟩⟩
  · have hp1 : p1 = false := by
      unfold setRuleR at ha
      rw [if_neg (fun h => h3 h.2)] at ha
      cases ha
      rfl
    subst hp1
    refine ⟨?_, fun h => by cases h⟩
    cases p2 with
    | false => rfl
    | true =>
      obtain ⟨_, h4, e5, e6⟩ := setRule_yes hy
      rw [e5, e6] at hb
      unfold setSrcR at hb
      rw [if_neg (fun h => h3 h.2)] at hb
      cases hb
      rfl
end Go.Proofs.YtceiafncpimihaaGreat
