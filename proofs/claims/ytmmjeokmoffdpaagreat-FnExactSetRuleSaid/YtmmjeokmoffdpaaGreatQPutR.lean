/-
  A rule put into a list of rules, in plain words.
-/
import Derived.Test.YtmmjeokmoffdpaaGreatQEdV
namespace Go.Proofs.YtmmjeokmoffdpaaGreat
set_option linter.unusedVariables false
set_option linter.unusedSimpArgs false
open Go.RowKit Go.Maps

/-- a rule ahead of the first one with a greater target -/
def insR (r : Ru) : List Ru → List Ru
  | [] => [r]
  | x :: rs => if sLess r.1 x.1 = true then r :: x :: rs else x :: insR r rs
/-- the rules with another one at its place -/
def putRu (r : Ru) (rs : List Ru) : List Ru := insR r (delRu r.1 rs)
theorem mem_insR {r y : Ru} : ∀ {rs : List Ru}, y ∈ insR r rs ↔ y = r ∨ y ∈ rs
  | [] => by simp [insR]
  | x :: rs => by
    unfold insR
    split
    · simp
    · simp only [List.mem_cons, mem_insR (rs := rs)]
      constructor
      · rintro (h | h | h)
        · exact .inr (.inl h)
        · exact .inl h
        · exact .inr (.inr h)
      · rintro (h | h | h)
        · exact .inr (.inl h)
        · exact .inl h
        · exact .inr (.inr h)
theorem mem_putRu {r y : Ru} {rs : List Ru} : y ∈ putRu r rs ↔ y = r ∨ (y ∈ rs ∧ y.1 ≠ r.1) := by unfold putRu; rw [mem_insR, mem_delRu]
theorem insR_asc {r : Ru} : ∀ {rs : List Ru}, AscR rs → (∀ x ∈ rs, x.1 ≠ r.1) → AscR (insR r rs)
  | [], _, _ => List.pairwise_singleton _ _
  | x :: rs, h, hn => by
    obtain ⟨h1, h2⟩ := List.pairwise_cons.1 h
    unfold insR
    split
    · rename_i hl
      exact List.pairwise_cons.2 ⟨fun y hy => by
        rcases List.mem_cons.1 hy with rfl | hy
        · exact hl
        · exact sLess_trans hl (h1 y hy), h⟩
    · rename_i hl
      refine List.pairwise_cons.2 ⟨fun y hy => ?_, insR_asc h2 fun z hz => hn z (List.mem_cons_of_mem _ hz)⟩
      rcases mem_insR.1 hy with rfl | hy
      · exact sLess_total (by simpa using hl) (fun e => hn x (List.mem_cons_self ..) e.symm)
      · exact h1 y hy
theorem putRu_asc {r : Ru} {rs : List Ru} (h : AscR rs) : AscR (putRu r rs) := insR_asc (delRu_asc h) fun x hx => (mem_delRu.1 hx).2
theorem insR_tot (r : Ru) : ∀ rs : List Ru, (insR r rs).length = rs.length + 1 ∧ ruTot (insR r rs) = ruTot rs + ruSz r
  | [] => by simp [insR, ruTot]
  | x :: rs => by
    unfold insR
    split
    · exact ⟨by simp, by simp only [ruTot]; omega⟩
    · have := insR_tot r rs
      exact ⟨by simp only [List.length_cons]; omega, by simp only [ruTot]; omega⟩
theorem putRu_tot (r : Ru) (rs : List Ru) : (putRu r rs).length ≤ rs.length + 1 ∧ (putRu r rs).length + ruTot (putRu r rs) ≤ rs.length + 1 + ruTot rs + ruSz r := by
  have h1 := insR_tot r (delRu r.1 rs)
  have h2 := delRu_tot r.1 rs
  have h3 : (delRu r.1 rs).length ≤ rs.length := List.length_filter_le (fun x : Ru => decide (x.1 ≠ r.1)) rs
  unfold putRu
  omega
/-- a step of l3With -/
def wst (r : Ru) (s : List Ru × Bool) (x : Ru) : List Ru × Bool := if s.2 = false ∧ sLess r.1 x.1 = true then (s.1 ++ [r, x], true) else (s.1 ++ [x], s.2)
def withTo (r : Ru) (l : List Ru) : List Ru × Bool := l.foldl (wst r) ([], false)
theorem wst_true (r : Ru) : ∀ (l acc : List Ru), l.foldl (wst r) (acc, true) = (acc ++ l, true)
  | [], acc => by simp
  | x :: l, acc => by
    rw [List.foldl_cons, show wst r (acc, true) x = (acc ++ [x], true) by simp [wst], wst_true r l]
    simp
theorem wst_false (r : Ru) : ∀ (l acc : List Ru), (if (l.foldl (wst r) (acc, false)).2 = true then (l.foldl (wst r) (acc, false)).1 else (l.foldl (wst r) (acc, false)).1 ++ [r]) = acc ++ insR r l
  | [], acc => by simp [insR]
  | x :: l, acc => by
    rw [List.foldl_cons]
    by_cases h : sLess r.1 x.1 = true
    · rw [show wst r (acc, false) x = (acc ++ [r, x], true) by simp [wst, h], wst_true r l]
      simp [insR, h]
    · rw [show wst r (acc, false) x = (acc ++ [x], false) by simp [wst, h], wst_false r l]
      simp [insR, h]
theorem withTo_ins (r : Ru) (l : List Ru) : (if (withTo r l).2 = true then (withTo r l).1 else (withTo r l).1 ++ [r]) = insR r l := by
  unfold withTo
  simpa using wst_false r l []
theorem withTo_succ {r x : Ru} {l : List Ru} {k : Nat} (h : l[k]? = some x) : withTo r (l.take (k + 1)) = wst r (withTo r (l.take k)) x := by
  unfold withTo
  rw [List.take_add_one, h, List.foldl_append]
  rfl
theorem mapR_put {r : Ru} {v : Value} {rs : List Ru} {gs : List Kv} {w : World} {B : Nat} (hb : BodyV w B (r.1, v) r) (h1 : ∀ g ∈ gs, ∃ y ∈ rs, BodyV w B g y) (h2 : ∀ y ∈ rs, ∃ g ∈ gs, g.1 = y.1) :
    (∀ g ∈ putV (r.1, v) gs, ∃ y ∈ putRu r rs, BodyV w B g y) ∧ (∀ y ∈ putRu r rs, ∃ g ∈ putV (r.1, v) gs, g.1 = y.1) := by
  constructor
  · intro g hg
    rcases mem_putV.1 hg with rfl | ⟨hg1, hg2⟩
    · exact ⟨r, mem_putRu.2 (.inl rfl), hb⟩
    · obtain ⟨y, hy, hyb⟩ := h1 g hg1
      exact ⟨y, mem_putRu.2 (.inr ⟨hy, fun e => hg2 (hyb.1.trans e)⟩), hyb⟩
  · intro y hy
    rcases mem_putRu.1 hy with rfl | ⟨hy1, hy2⟩
    · exact ⟨_, mem_putV.2 (.inl rfl), rfl⟩
    · obtain ⟨g, hg, e⟩ := h2 y hy1
      exact ⟨g, mem_putV.2 (.inr ⟨hg, fun e' => hy2 (e.symm.trans e')⟩), e⟩
end Go.Proofs.YtmmjeokmoffdpaaGreat
