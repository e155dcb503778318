/-
  The program's FindRule.
-/
import Derived.Test.YtmmjeokmoffdpaaGreatGone
import Derived.Test.YtmmjeokmoffdpaaGreatQRMap
import Derived.Test.YtmmjeokmoffdpaaGreatQPrI
import Derived.Test.YtmmjeokmoffdpaaGreatQPrW
namespace Go.Proofs.YtmmjeokmoffdpaaGreat
set_option linter.unusedVariables false
set_option linter.unusedSimpArgs false
open Go.RowKit Go.Maps

/-- what the look-up in the map finds -/
theorem mapR_look {w : World} {B : Nat} {rs : List Ru} {x : ByteArray} (ha : rs.Pairwise fun a b => sLess a.1 b.1 = true) {D : DataW Value} {gs : List Kv} (hrep : RepV D gs) (h1 : ∀ g ∈ gs, ∃ y ∈ rs, BodyV w B g y) (h2 : ∀ y ∈ rs, ∃ g ∈ gs, g.1 = y.1) :
    (∃ k s ks a n c, findB rs x = some (k, s, ks) ∧ Maps.has D (.string x.data.toList) = true ∧ D.atKey (.string x.data.toList) (.held (.agg #[.int .i64 0, .string .empty, .slice none 0 0])) = .held (.agg #[.int .i64 k, .string s, .slice a n c]) ∧ n ≤ c ∧ KA w 0 B ks a n) ∨
    (findB rs x = none ∧ Maps.has D (.string x.data.toList) = false ∧ D.atKey (.string x.data.toList) (.held (.agg #[.int .i64 0, .string .empty, .slice none 0 0])) = .held (.agg #[.int .i64 0, .string .empty, .slice none 0 0])) := by
  cases hf : findB rs x with
  | some y =>
    obtain ⟨k, s, ks⟩ := y
    have hm := findB_some hf
    obtain ⟨⟨t, v⟩, hg, e⟩ := h2 _ hm
    simp only at e
    subst e
    obtain ⟨y, hy, e1, a, n, c, hv, hc, hk⟩ := h1 _ hg
    obtain rfl := ru_inj ha hy hm e1.symm
    simp only at hv hk
    subst hv
    refine .inl ⟨k, s, ks, a, n, c, rfl, ?_, hrep.at_ hg _, hc, hk⟩
    rw [hrep.has, List.any_eq_true]
    exact ⟨_, hg, by simp⟩
  | none =>
    have hn := findB_none hf
    have hno : ∀ g ∈ gs, g.1 ≠ x := fun g hg e => by
      obtain ⟨y, hy, e1, _⟩ := h1 g hg
      exact hn y hy (e1.symm.trans e)
    refine .inr ⟨rfl, ?_, hrep.none_ hno _⟩
    rw [hrep.has, List.any_eq_false]
    exact fun g hg => by simpa using hno g hg

theorem anyElem_inv {v u : Value} {d : DataW Value} {ps : List MemPlace} (h : anyElem v = some (d, ps)) (hd : d = .held u) : v = u := by
  subst hd
  unfold anyElem at h
  simp only [Option.some.injEq, Prod.mk.injEq, DataW.held.injEq] at h
  exact h.1
/-- what FindRule leaves -/
def FrP (k : Int) (s : ByteArray) (ks : Fo) (found : Bool) (w : World) (e : Ending) (w' : World) : Prop := ∃ a c bk g, e = .returned (.tuple #[.agg #[.int .i64 k, .string s, .slice a ks.len c], .bool found]) ∧ CopX w' w.heap.size ks a c bk g ∧ Below w.heap.size w w'
theorem CopX.nil (w : World) (base : Nat) : CopX w base .nil none 0 .nil 0 := ⟨Nat.le_refl _, by simp [maxLen], KA.nil, ⟨rfl, fun h => absurd h (by simp [Fo.len])⟩, List.nodup_nil, fun x hx => by simp [blksA, Fo.len] at hx, rfl⟩

end Go.Proofs.YtmmjeokmoffdpaaGreat
