/-
  Plain words for FindEntry.
-/
import Derived.Test.YtaiijnepeccllaaGreatQStM
import Derived.Test.YtaiijnepeccllaaGreatQEMap
namespace Go.Proofs.YtaiijnepeccllaaGreat
set_option linter.unusedVariables false
open Go.RowKit Go.Maps

theorem all_get {p : Nat → Bool} {n j : Nat} (h : (List.range n).all p = true) (hj : j < n) : p j = true := by
  rw [List.all_eq_true] at h
  exact h j (List.mem_range.2 hj)
/-- the targets of a valid store ascend -/
theorem st_asc {pb : ByteArray → Bool} {es : List En} (h : stB pb es = true) : es.Pairwise fun a b => sLess a.1 b.1 = true := by
  unfold stB at h
  simp only [Bool.and_eq_true] at h
  have ha := h.1
  have h2 : Asc (es.map fun x => (x.1, ByteArray.empty)) := by
    refine asc_of_next fun k p t q r h1 h2 => ?_
    rw [List.getElem?_map] at h1 h2
    cases e1 : es[k + 1]? with
    | none => rw [e1] at h1; cases h1
    | some x1 =>
      cases e2 : es[k]? with
      | none => rw [e2] at h2; cases h2
      | some x2 =>
        rw [e1] at h1
        rw [e2] at h2
        simp only [Option.map_some, Option.some.injEq, Prod.mk.injEq] at h1 h2
        have h3 := all_get ha (List.getElem?_eq_some_iff.1 e1).1
        unfold stOk at h3
        simp only [Bool.and_eq_true] at h3
        have h4 := h3.1
        rw [ascE_succ e2 e1] at h4
        rw [← h1.1, ← h2.1]
        exact h4
  exact (List.pairwise_map.1 h2)
theorem en_inj {rs : List En} (h : rs.Pairwise fun a b => sLess a.1 b.1 = true) {f g : En} (hf : f ∈ rs) (hg : g ∈ rs) (he : f.1 = g.1) : f = g := by
  induction rs with
  | nil => cases hf
  | cons x rs ih =>
    obtain ⟨h1, h2⟩ := List.pairwise_cons.1 h
    rcases List.mem_cons.1 hf with e1 | m1 <;> rcases List.mem_cons.1 hg with e2 | m2
    · rw [e1, e2]
    · subst e1; exact absurd he (sLess_ne (h1 _ m2))
    · subst e2; exact absurd he.symm (sLess_ne (h1 _ m1))
    · exact ih h2 m1 m2
/-- no entry -/
def noEn : En := (.empty, .empty, [], .empty)
/-- the entry of a target -/
def findE (es : List En) (x : ByteArray) : Option En := es.find? fun r => decide (r.1 = x)
/-- the entry found, and whether -/
def entF (es : List En) (x : ByteArray) : En × Bool := match findE es x with
  | some e => (e, true)
  | none => (noEn, false)
/-- what FindEntry answers -/
def findSt (pb : ByteArray → Bool) (es : List En) (x : ByteArray) : En × Bool := if stB pb es = true then entF es x else (noEn, false)
theorem findE_some {es : List En} {x : ByteArray} {e : En} (h : findE es x = some e) : e ∈ es ∧ e.1 = x := ⟨List.mem_of_find?_eq_some h, by simpa using List.find?_some h⟩
theorem findE_none {es : List En} {x : ByteArray} (h : findE es x = none) : ∀ r ∈ es, r.1 ≠ x := by
  unfold findE at h
  rw [List.find?_eq_none] at h
  exact fun r hr e => h r hr (by simpa using e)
theorem findE_at {es : List En} {x : ByteArray} {j : Nat} {e : En} (h1 : ∀ (i : Nat) (r : En), i < j → es[i]? = some r → r.1 ≠ x) (h2 : es[j]? = some e) (h3 : e.1 = x) : findE es x = some e := by
  unfold findE
  have hj := (List.getElem?_eq_some_iff.1 h2).1
  rw [List.find?_eq_some_iff_getElem]
  refine ⟨by simpa using h3, j, hj, (List.getElem?_eq_some_iff.1 h2).2, fun i hi => ?_⟩
  have := h1 i es[i] hi (List.getElem?_eq_getElem (by omega))
  simpa using this
theorem findE_all {es : List En} {x : ByteArray} (h1 : ∀ (i : Nat) (r : En), es[i]? = some r → r.1 ≠ x) : findE es x = none := by
  unfold findE
  rw [List.find?_eq_none]
  intro r hr
  obtain ⟨i, hi⟩ := List.getElem?_of_mem hr
  simpa using h1 i r hi
/-- what the look-up in the map finds -/
theorem mapE_look {w : World} {B : Nat} {rs : List En} {x : ByteArray} (ha : rs.Pairwise fun a b => sLess a.1 b.1 = true) {D : DataW Value} {gs : List Kv} (hrep : RepV D gs) (h1 : ∀ g ∈ gs, ∃ y ∈ rs, EntV w B g y) (h2 : ∀ y ∈ rs, ∃ g ∈ gs, g.1 = y.1) :
    (∃ e a n c, entF rs x = (e, true) ∧ e ∈ rs ∧ Maps.has D (.string x.data.toList) = true ∧ D.atKey (.string x.data.toList) (.held (.agg #[.string .empty, .string .empty, .slice none 0 0, .string .empty])) = .held (.agg #[.string e.1, .string e.2.1, .slice a n c, .string e.2.2.2]) ∧ n ≤ c ∧ FlIn w 0 B a n e.2.2.1) ∨
    (entF rs x = (noEn, false) ∧ Maps.has D (.string x.data.toList) = false ∧ D.atKey (.string x.data.toList) (.held (.agg #[.string .empty, .string .empty, .slice none 0 0, .string .empty])) = .held (.agg #[.string .empty, .string .empty, .slice none 0 0, .string .empty])) := by
  unfold entF
  cases hf : findE rs x with
  | some e =>
    obtain ⟨hm, he⟩ := findE_some hf
    obtain ⟨⟨t, v⟩, hg, e1⟩ := h2 _ hm
    simp only at e1
    obtain ⟨y, hy, e2, a, n, c, hv, hc, hk⟩ := h1 _ hg
    obtain rfl := en_inj ha hy hm (e2.symm.trans e1)
    simp only at hv hk
    subst hv
    have htx : t = x := e1.trans he
    subst htx
    refine .inl ⟨y, a, n, c, rfl, hm, ?_, hrep.at_ hg _, hc, hk⟩
    rw [hrep.has, List.any_eq_true]
    exact ⟨_, hg, by simp⟩
  | none =>
    have hn := findE_none hf
    have hno : ∀ g ∈ gs, g.1 ≠ x := fun g hg e => by
      obtain ⟨y, hy, e1, _⟩ := h1 g hg
      exact hn y hy (e1.symm.trans e)
    refine .inr ⟨rfl, ?_, hrep.none_ hno _⟩
    rw [hrep.has, List.any_eq_false]
    exact fun g hg => by simpa using hno g hg
end Go.Proofs.YtaiijnepeccllaaGreat
