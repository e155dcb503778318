/-
  More plain words on the differences of two lists of files: what they hold, that they are the same from both sides, when there are none. No program is named here.
-/
import Derived.Test.YtollcckdfehdeaaChgM
namespace Go.Proofs.Ytollcckdfehdeaa
set_option linter.unusedVariables false
open Go.RowKit

theorem asc_drop {fs : List Fl} (h : Asc fs) (i : Nat) : Asc (fs.drop i) := List.Pairwise.sublist (List.drop_sublist i fs) h
theorem drop_at {α} {l : List α} {i : Nat} {x : α} (h : l[i]? = some x) : l.drop i = x :: l.drop (i + 1) := by
  obtain ⟨hi, he⟩ := List.getElem?_eq_some_iff.1 h
  rw [List.drop_eq_getElem_cons hi, he]
theorem asc_head {f : Fl} {fs : List Fl} (h : Asc (f :: fs)) : ∀ g ∈ fs, sLess f.1 g.1 = true := (List.pairwise_cons.1 h).1
theorem findF_cons (p t : ByteArray) (fs : List Fl) (x : ByteArray) : findF ((p, t) :: fs) x = if p = x then (t, true) else findF fs x := rfl
theorem findF_past {fs : List Fl} {p : ByteArray} (h : ∀ g ∈ fs, sLess p g.1 = true) : findF fs p = (.empty, false) := findF_not fun g hg => (sLess_ne (h g hg)).symm
theorem past_drop {gs : List Fl} {j : Nat} {p : ByteArray} (ha : Asc gs) (h : gs[j]? = none ∨ ∃ q u, gs[j]? = some (q, u) ∧ sLess p q = true) : ∀ g ∈ gs.drop j, sLess p g.1 = true := by
  rcases h with h | ⟨q, u, h, hl⟩
  · rw [List.drop_eq_nil_of_le (List.getElem?_eq_none_iff.1 h)]; intro g hg; cases hg
  · have h2 := asc_drop ha j
    rw [drop_at h] at h2 ⊢
    intro g hg
    rcases List.mem_cons.1 hg with rfl | hg
    · exact hl
    · exact sLess_trans hl (asc_head h2 g hg)
theorem after_drop {gs : List Fl} {j : Nat} {p u : ByteArray} (ha : Asc gs) (h : gs[j]? = some (p, u)) : ∀ g ∈ gs.drop (j + 1), sLess p g.1 = true := by
  have h2 := asc_drop ha j
  rw [drop_at h] at h2
  exact asc_head h2
/-- the three ways, as cases -/
theorem ways {fs gs : List Fl} (i j : Nat) (hor : i < fs.length ∨ j < gs.length) :
    (∃ p t, fs[i]? = some (p, t) ∧ (gs[j]? = none ∨ ∃ q u, gs[j]? = some (q, u) ∧ sLess p q = true)) ∨
    (∃ q u, gs[j]? = some (q, u) ∧ (fs[i]? = none ∨ ∃ p t, fs[i]? = some (p, t) ∧ sLess q p = true)) ∨
    (∃ p t u, fs[i]? = some (p, t) ∧ gs[j]? = some (p, u)) := by
  cases hf : fs[i]? with
  | none =>
    have := List.getElem?_eq_none_iff.1 hf
    obtain ⟨⟨q, u⟩, hg⟩ : ∃ x, gs[j]? = some x := ⟨gs[j]'(by omega), List.getElem?_eq_getElem (by omega)⟩
    exact .inr (.inl ⟨q, u, hg, .inl rfl⟩)
  | some f =>
    obtain ⟨p, t⟩ := f
    cases hg : gs[j]? with
    | none => exact .inl ⟨p, t, rfl, .inl rfl⟩
    | some g =>
      obtain ⟨q, u⟩ := g
      by_cases he : p = q
      · subst he; exact .inr (.inr ⟨p, t, u, rfl, rfl⟩)
      · cases hl : sLess p q with
        | true => exact .inl ⟨p, t, rfl, .inr ⟨q, u, rfl, hl⟩⟩
        | false => exact .inr (.inl ⟨q, u, rfl, .inr ⟨p, t, rfl, sLess_total hl he⟩⟩)

theorem mem_prs {fs gs : List Fl} (hf : Asc fs) (hg : Asc gs) (hfp : ∀ f ∈ fs, f.1 ≠ .empty) (hgp : ∀ g ∈ gs, g.1 ≠ .empty) (x : ByteArray) :
    ∀ (n i j : Nat), i ≤ fs.length → j ≤ gs.length → fs.length + gs.length - (i + j) ≤ n → (x ∈ chgs (prs fs gs n i j) ↔ findF (fs.drop i) x ≠ findF (gs.drop j) x)
  | 0, i, j, hi, hj, hn => by
    have h1 : fs.length = i := by omega
    have h2 : gs.length = j := by omega
    rw [List.drop_eq_nil_of_le (by omega), List.drop_eq_nil_of_le (by omega)]
    simp [prs, chgs]
  | n + 1, i, j, hi, hj, hn => by
    rw [prs]
    by_cases hor : i < fs.length ∨ j < gs.length
    · rw [if_pos hor, chgs_cons, List.mem_append]
      have hm := next_more fs gs i j
      obtain ⟨h1, h2⟩ := next_le hi hj hor
      have ih := mem_prs hf hg hfp hgp x n _ _ h1 h2 (by omega)
      rcases ways i j hor with ⟨p, t, e, h⟩ | ⟨q, u, e, h⟩ | ⟨p, t, u, e, e2⟩
      · obtain ⟨w1, w2, w3⟩ := way_left e (hfp _ (List.mem_of_getElem? e)) h
        rw [w1, ih, w2, w3, drop_at e, findF_cons]
        by_cases hx : p = x
        · subst hx
          rw [if_pos rfl, findF_past (past_drop hg h), findF_past (after_drop hf e)]
          simp
        · rw [if_neg hx]
          simp [Ne.symm hx]
      · obtain ⟨w1, w2, w3⟩ := way_right e (hgp _ (List.mem_of_getElem? e)) h
        rw [w1, ih, w2, w3, drop_at e, findF_cons]
        by_cases hx : q = x
        · subst hx
          rw [if_pos rfl, findF_past (past_drop hf h), findF_past (after_drop hg e)]
          simp
        · rw [if_neg hx]
          simp [Ne.symm hx]
      · obtain ⟨w1, w2, w3⟩ := way_both e e2 (hfp _ (List.mem_of_getElem? e))
        rw [w1, ih, w2, w3, drop_at e, drop_at e2, findF_cons, findF_cons]
        by_cases hx : p = x
        · subst hx
          rw [if_pos rfl, if_pos rfl, findF_past (after_drop hf e), findF_past (after_drop hg e2)]
          by_cases htu : t = u
          · subst htu; simp
          · rw [if_neg htu]; simp [htu]
        · rw [if_neg hx, if_neg hx]
          by_cases htu : t = u
          · rw [if_pos htu]; simp
          · rw [if_neg htu]; simp [Ne.symm hx]
    · rw [if_neg hor, List.drop_eq_nil_of_le (by omega), List.drop_eq_nil_of_le (by omega)]
      simp [chgs]
theorem paths_full {fs : List Fl} (h : validB fs = true) : ∀ f ∈ fs, f.1 ≠ .empty := fun f hf => path_nonempty ((validB_iff.1 h).2.1 f hf).1
/-- what differs: the paths that are not found alike -/
theorem mem_chgR {fs gs : List Fl} (hf : validB fs = true) (hg : validB gs = true) (x : ByteArray) : x ∈ chgR fs gs ↔ findF fs x ≠ findF gs x := by
  unfold chgR
  rw [if_pos ⟨hf, hg⟩]
  have := mem_prs (valid_asc hf) (valid_asc hg) (paths_full hf) (paths_full hg) x (fs.length + gs.length - (0 + 0)) 0 0 (Nat.zero_le _) (Nat.zero_le _) (Nat.le_refl _)
  rwa [List.drop_zero, List.drop_zero] at this

theorem cmpS_flip (a b : ByteArray) : cmpS b a = - cmpS a b := by
  unfold cmpS
  by_cases h : a = b
  · subst h; simp
  · rw [if_neg h, if_neg (Ne.symm h)]
    cases hl : sLess a b with
    | true => rw [sLess_asymm hl]; simp
    | false => rw [sLess_total hl h]; simp
theorem ord_flip {fs gs : List Fl} {i j : Nat} (hor : i < fs.length ∨ j < gs.length) : ordAt gs fs j i = - ordAt fs gs i j := by
  unfold ordAt
  cases hf : fs[i]? with
  | none =>
    have := List.getElem?_eq_none_iff.1 hf
    cases hg : gs[j]? with
    | none => have := List.getElem?_eq_none_iff.1 hg; omega
    | some g => rfl
  | some f =>
    cases hg : gs[j]? with
    | none => rfl
    | some g => exact cmpS_flip _ _
theorem cmpS_zero {a b : ByteArray} (h : cmpS a b = 0) : a = b := by
  unfold cmpS at h
  by_cases he : a = b
  · exact he
  · rw [if_neg he] at h; split at h <;> simp at h
theorem orS_left (a : ByteArray) : orS a .empty = a := by unfold orS; split <;> simp_all
theorem orS_right (a : ByteArray) : orS .empty a = a := by unfold orS; simp
theorem chg_swap {a b : Fl} (h : orS a.1 b.1 = orS b.1 a.1) : chg (a, b) = chg (b, a) := by
  unfold chg
  by_cases he : a = b
  · subst he; rfl
  · rw [if_neg he, if_neg (Ne.symm he)]
    show [orS a.1 b.1] = [orS b.1 a.1]
    rw [h]
theorem prs_flip (fs gs : List Fl) : ∀ n i j, chgs (prs fs gs n i j) = chgs (prs gs fs n j i)
  | 0, _, _ => rfl
  | n + 1, i, j => by
    rw [prs, prs]
    by_cases hor : i < fs.length ∨ j < gs.length
    · rw [if_pos hor, if_pos hor.symm, chgs_cons, chgs_cons]
      have ho := ord_flip hor
      have hl : lAt gs fs j i = rAt fs gs i j := by
        unfold lAt rAt; rw [ho]
        by_cases h : 0 ≤ ordAt fs gs i j
        · rw [if_pos h, if_pos (by omega)]
        · rw [if_neg h, if_neg (by omega)]
      have hr : rAt gs fs j i = lAt fs gs i j := by
        unfold lAt rAt; rw [ho]
        by_cases h : ordAt fs gs i j ≤ 0
        · rw [if_pos h, if_pos (by omega)]
        · rw [if_neg h, if_neg (by omega)]
      have hi : iNext gs fs j i = jNext fs gs i j := by
        unfold iNext jNext; rw [ho]
        by_cases h : 0 ≤ ordAt fs gs i j
        · rw [if_pos h, if_pos (by omega)]
        · rw [if_neg h, if_neg (by omega)]
      have hj : jNext gs fs j i = iNext fs gs i j := by
        unfold iNext jNext; rw [ho]
        by_cases h : ordAt fs gs i j ≤ 0
        · rw [if_pos h, if_pos (by omega)]
        · rw [if_neg h, if_neg (by omega)]
      rw [hl, hr, hi, hj, prs_flip fs gs n]
      congr 1
      refine chg_swap ?_
      unfold lAt rAt
      by_cases h1 : ordAt fs gs i j ≤ 0
      · rw [if_pos h1]
        by_cases h2 : 0 ≤ ordAt fs gs i j
        · rw [if_pos h2]
          have hz : ordAt fs gs i j = 0 := by omega
          have hb := ord_left h1
          have hc := ord_right h2 hor
          unfold ordAt at hz
          rw [List.getElem?_eq_getElem hb, List.getElem?_eq_getElem hc] at hz ⊢
          have := cmpS_zero hz
          simp only [Option.getD_some]
          rw [this]
        · rw [if_neg h2]
          exact (orS_left _).trans (orS_right _).symm
      · rw [if_neg h1]
        exact (orS_right _).trans (orS_left _).symm
    · rw [if_neg hor, if_neg (fun h => hor h.symm)]
/-- the differences are the same from both sides -/
theorem chgR_flip (fs gs : List Fl) : chgR gs fs = chgR fs gs := by
  unfold chgR
  by_cases h : validB fs = true ∧ validB gs = true
  · rw [if_pos h, if_pos h.symm]
    unfold allP
    rw [Nat.add_comm gs.length, prs_flip gs fs]
  · rw [if_neg h, if_neg (fun h2 => h h2.symm)]
theorem once_nodup {fs : List Fl} (h : Once fs) : fs.Nodup := h.imp fun hne he => hne (congrArg Prod.fst he)
theorem find_same {fs gs : List Fl} (hf : Asc fs) (hg : Asc gs) (h : ∀ x, findF fs x = findF gs x) : fs = gs := by
  have key : ∀ {as bs : List Fl}, Once as → (∀ x, findF as x = findF bs x) → ∀ f, f ∈ as → f ∈ bs := by
    intro as bs ha h f hm
    obtain ⟨p, t⟩ := f
    have h1 := findF_mem ha hm
    rw [h p] at h1
    rcases findF_cases bs p with ⟨u, hm2, e⟩ | ⟨_, e⟩
    · rw [e] at h1; cases h1; exact hm2
    · rw [e] at h1; cases h1
  refine hf.eq hg ((List.perm_ext_iff_of_nodup (once_nodup hf.once) (once_nodup hg.once)).2 fun f => ⟨key hf.once h f, key hg.once (fun x => (h x).symm) f⟩)
/-- there are no differences between equal lists alone -/
theorem chgR_nil {fs gs : List Fl} (hf : validB fs = true) (hg : validB gs = true) : chgR fs gs = [] ↔ fs = gs := by
  constructor
  · intro h
    refine find_same (valid_asc hf) (valid_asc hg) fun x => ?_
    by_cases hx : findF fs x = findF gs x
    · exact hx
    · have := (mem_chgR hf hg x).2 hx
      rw [h] at this; cases this
  · rintro rfl
    refine List.eq_nil_iff_forall_not_mem.2 fun x hx => ?_
    exact (mem_chgR hf hg x).1 hx rfl
theorem chgR_length {fs gs : List Fl} (hf : validB fs = true) (hg : validB gs = true) : (chgR fs gs).length ≤ 24 := by
  unfold chgR
  rw [if_pos ⟨hf, hg⟩]
  have h1 := chgs_length (allP fs gs 0 0)
  have h2 := prs_length fs gs (fs.length + gs.length - (0 + 0)) 0 0
  have h3 := valid_length hf
  have h4 := valid_length hg
  unfold allP at h1 ⊢
  omega
end Go.Proofs.Ytollcckdfehdeaa
