/-
  Lists of rules as they lie in memory: a target, and a body of three cells. No program is named here.
-/
import Derived.Test.YtfnnpeggjnonjaaTree
namespace Go.Proofs.Ytfnnpeggjnonjaa
set_option linter.unusedVariables false
open Go.RowKit

/-- a rule: its target, and the kind, the text and the operands of its body -/
abbrev Ru := ByteArray × Int × ByteArray × Fo
/-- the bytes and operands of a rule -/
def ruSz (x : Ru) : Nat := x.1.size + (x.2.2.1.size + x.2.2.2.len + x.2.2.2.tot)
def ruTot : List Ru → Nat
  | [] => 0
  | x :: r => ruSz x + ruTot r
/-- texts and lists that a machine holds -/
def RuFits (rs : List Ru) : Prop := ∀ x ∈ rs, x.1.size ≤ maxLen ∧ x.2.2.1.size ≤ maxLen ∧ x.2.2.2.len ≤ maxLen ∧ x.2.2.2.Fits
theorem ruTot_drop {rs : List Ru} {j : Nat} {x : Ru} (h : rs[j]? = some x) : ruTot (rs.drop j) = ruSz x + ruTot (rs.drop (j + 1)) := by
  obtain ⟨hl, rfl⟩ := List.getElem?_eq_some_iff.1 h
  rw [List.drop_eq_getElem_cons hl]
  rfl
theorem ruTot_le (rs : List Ru) (j : Nat) : ruTot (rs.drop j) ≤ ruTot rs := by
  induction rs generalizing j with
  | nil => simp [ruTot]
  | cons x r ih =>
    cases j with
    | zero => exact Nat.le_refl _
    | succ j => have := ih j; simp only [List.drop_succ_cons, ruTot]; omega
theorem RuFits.get {rs : List Ru} {j : Nat} {t s : ByteArray} {k : Int} {ks : Fo} (h : RuFits rs) (hg : rs[j]? = some (t, k, s, ks)) : t.size ≤ maxLen ∧ s.size ≤ maxLen ∧ ks.len ≤ maxLen ∧ ks.Fits := h _ (List.mem_of_getElem? hg)
theorem ruTot_get {rs : List Ru} {j : Nat} {x : Ru} (h : rs[j]? = some x) : ruSz x ≤ ruTot rs := by
  have := ruTot_drop h
  have := ruTot_le rs j
  omega

/-- a rule at a place -/
def RuleAt (w : World) (L B : Nat) (t : ByteArray) (k : Int) (s : ByteArray) (ks : Fo) (b off : Nat) : Prop :=
  w.cell? ⟨b, off, none⟩ = some (.string t) ∧ w.cell? ⟨b, off + 1, none⟩ = some (.int .i64 k) ∧ w.cell? ⟨b, off + 2, none⟩ = some (.string s) ∧ ∃ a n c, w.cell? ⟨b, off + 3, none⟩ = some (.slice a n c) ∧ n ≤ c ∧ KA w L B ks a n
/-- a slice whose elements are these rules -/
def RuAt (w : World) (L B : Nat) (rs : List Ru) (a : Option Addr) (n : Nat) : Prop :=
  rs.length = n ∧ (0 < n → ∃ b off, a = some ⟨b, off, none⟩ ∧ L ≤ b ∧ b < B ∧ ∀ j t k s ks, rs[j]? = some (t, k, s, ks) → RuleAt w L B t k s ks b (off + j * 4))
section
variable {w w' : World} {L L' B B' b off n : Nat} {a : Option Addr} {rs : List Ru} {k : Int} {s t : ByteArray} {ks : Fo}
theorem RuleAt.keep (h : RuleAt w L B t k s ks b off) (hL : L' ≤ L) (hB : B ≤ B') (h1 : L ≤ b) (h2 : b < B) (hk : ∀ p : Addr, L ≤ p.block → p.block < B → w'.cell? p = w.cell? p) : RuleAt w' L' B' t k s ks b off := by
  obtain ⟨c0, c1, c2, a, n, c, c3, hc, hks⟩ := h
  exact ⟨(hk ⟨b, off, none⟩ h1 h2).trans c0, (hk ⟨b, off + 1, none⟩ h1 h2).trans c1, (hk ⟨b, off + 2, none⟩ h1 h2).trans c2, a, n, c, (hk ⟨b, off + 3, none⟩ h1 h2).trans c3, hc, hks.keep hL hB hk⟩
theorem RuAt.keep (h : RuAt w L B rs a n) (hL : L' ≤ L) (hB : B ≤ B') (hk : ∀ p : Addr, L ≤ p.block → p.block < B → w'.cell? p = w.cell? p) : RuAt w' L' B' rs a n :=
  ⟨h.1, fun hn => let ⟨b, off, ha, h1, h2, hs⟩ := h.2 hn; ⟨b, off, ha, by omega, by omega, fun j t k s ks hg => (hs j t k s ks hg).keep hL hB h1 h2 hk⟩⟩
theorem RuAt.more (h : RuAt w L B rs a n) (hL : L' ≤ L) (hB : B ≤ B') : RuAt w L' B' rs a n := h.keep hL hB fun _ _ _ => rfl
theorem RuAt.below (h : RuAt w L B rs a n) (hb : Below B w w') : RuAt w' L B rs a n := h.keep (Nat.le_refl _) (Nat.le_refl _) fun _ _ hp => hb.cell hp
theorem RuAt.next (h : RuAt w L w.heap.size rs a n) (hb : Below w.heap.size w w') : RuAt w' L w'.heap.size rs a n := (h.below hb).more (Nat.le_refl _) hb.size
theorem RuAt.alloc (h : RuAt w L B rs a n) (hB : B ≤ w.heap.size) (o : Obj) : RuAt (w.alloc o) L B rs a n := h.keep (Nat.le_refl _) (Nat.le_refl _) fun p _ hp => World.cell?_alloc_lt w o p (by omega)
theorem RuAt.setCell (h : RuAt w L B rs a n) {g : Nat} (hg : g < L ∨ B ≤ g) (i : Nat) (u : Value) : RuAt (w.setCell ⟨g, i, none⟩ u) L B rs a n :=
  h.keep (Nat.le_refl _) (Nat.le_refl _) fun p h1 h2 => World.cell?_setCell_other w _ _ _ (by rintro rfl; simp at h1 h2; omega)
theorem RuAt.get (h : RuAt w L B rs a n) {j : Nat} (hj : j < n) :
    ∃ b off t k s ks a' n' c', a = some ⟨b, off, none⟩ ∧ L ≤ b ∧ b < B ∧ rs[j]? = some (t, k, s, ks) ∧ w.cell? ⟨b, off + j * 4, none⟩ = some (.string t) ∧ w.cell? ⟨b, off + j * 4 + 1, none⟩ = some (.int .i64 k) ∧ w.cell? ⟨b, off + j * 4 + 2, none⟩ = some (.string s) ∧
      w.cell? ⟨b, off + j * 4 + 3, none⟩ = some (.slice a' n' c') ∧ n' ≤ c' ∧ KA w L B ks a' n' := by
  obtain ⟨b, off, ha, hb, hc, hs⟩ := h.2 (by omega)
  have hl : j < rs.length := by have := h.1; omega
  obtain ⟨⟨t, k, s, ks⟩, hg⟩ : ∃ x, rs[j]? = some x := ⟨_, List.getElem?_eq_getElem hl⟩
  obtain ⟨h0, h1, h2, a', n', c', h3, h4, h5⟩ := hs j t k s ks hg
  exact ⟨b, off, t, k, s, ks, a', n', c', ha, hb, hc, hg, h0, h1, h2, h3, h4, h5⟩
end
/-- the rules before a place stand in a row being filled -/
def DoneRu (w : World) (L B : Nat) (rs : List Ru) (cur : Array Value) (j : Nat) : Prop := ∀ i t k s ks, i < j → rs[i]? = some (t, k, s, ks) →
  cur[i * 4]? = some (.string t) ∧ cur[i * 4 + 1]? = some (.int .i64 k) ∧ cur[i * 4 + 2]? = some (.string s) ∧ ∃ a n c, cur[i * 4 + 3]? = some (.slice a n c) ∧ n ≤ c ∧ KA w L B ks a n
section
variable {w w' : World} {L B : Nat} {rs : List Ru} {cur : Array Value} {j : Nat} {k : Int} {s t : ByteArray} {ks : Fo}
theorem DoneRu.zero : DoneRu w L B rs cur 0 := fun i _ _ _ _ h => absurd h (by omega)
theorem DoneRu.keep {L' B' : Nat} (h : DoneRu w L B rs cur j) (hL : L' ≤ L) (hB : B ≤ B') (hk : ∀ p : Addr, L ≤ p.block → p.block < B → w'.cell? p = w.cell? p) : DoneRu w' L' B' rs cur j := fun i t k s ks hi hg =>
  let ⟨h0, h1, h2, a, n, c, h3, h4, h5⟩ := h i t k s ks hi hg
  ⟨h0, h1, h2, a, n, c, h3, h4, h5.keep hL hB hk⟩
theorem DoneRu.step {g : Nat} (h : DoneRu w L B rs cur j) (hg : rs[j]? = some (t, k, s, ks)) {a : Option Addr} {n c : Nat} (hc : n ≤ c) (hk : KA w L B ks a n) (hs : j * 4 + 3 < cur.size) (hL : g < L) (x y z u : Value) :
    DoneRu ((((w.setCell ⟨g, j * 4, none⟩ x).setCell ⟨g, j * 4 + 1, none⟩ y).setCell ⟨g, j * 4 + 2, none⟩ z).setCell ⟨g, j * 4 + 3, none⟩ u) L B rs
      ((((cur.setIfInBounds (j * 4) (.string t)).setIfInBounds (j * 4 + 1) (.int .i64 k)).setIfInBounds (j * 4 + 2) (.string s)).setIfInBounds (j * 4 + 3) (.slice a n c)) (j + 1) := by
  intro i t' k' s' ks' hi hgi
  by_cases e : i = j
  · subst e
    rw [hg] at hgi
    simp only [Option.some.injEq, Prod.mk.injEq] at hgi
    obtain ⟨rfl, rfl, rfl, rfl⟩ := hgi
    refine ⟨?_, ?_, ?_, a, n, c, ?_, hc, (((hk.setCell (.inl hL) _ _).setCell (.inl hL) _ _).setCell (.inl hL) _ _).setCell (.inl hL) _ _⟩
    · rw [Array.getElem?_setIfInBounds_ne (by omega), Array.getElem?_setIfInBounds_ne (by omega), Array.getElem?_setIfInBounds_ne (by omega), Array.getElem?_setIfInBounds_self_of_lt (by omega)]
    · rw [Array.getElem?_setIfInBounds_ne (by omega), Array.getElem?_setIfInBounds_ne (by omega), Array.getElem?_setIfInBounds_self_of_lt (by simp; omega)]
    · rw [Array.getElem?_setIfInBounds_ne (by omega), Array.getElem?_setIfInBounds_self_of_lt (by simp; omega)]
    · rw [Array.getElem?_setIfInBounds_self_of_lt (by simp; omega)]
  · obtain ⟨h0, h1, h2, a', n', c', h3, h4, h5⟩ := h i t' k' s' ks' (by omega) hgi
    refine ⟨?_, ?_, ?_, a', n', c', ?_, h4, (((h5.setCell (.inl hL) _ _).setCell (.inl hL) _ _).setCell (.inl hL) _ _).setCell (.inl hL) _ _⟩
    · rw [Array.getElem?_setIfInBounds_ne (by omega), Array.getElem?_setIfInBounds_ne (by omega), Array.getElem?_setIfInBounds_ne (by omega), Array.getElem?_setIfInBounds_ne (by omega)]; exact h0
    · rw [Array.getElem?_setIfInBounds_ne (by omega), Array.getElem?_setIfInBounds_ne (by omega), Array.getElem?_setIfInBounds_ne (by omega), Array.getElem?_setIfInBounds_ne (by omega)]; exact h1
    · rw [Array.getElem?_setIfInBounds_ne (by omega), Array.getElem?_setIfInBounds_ne (by omega), Array.getElem?_setIfInBounds_ne (by omega), Array.getElem?_setIfInBounds_ne (by omega)]; exact h2
    · rw [Array.getElem?_setIfInBounds_ne (by omega), Array.getElem?_setIfInBounds_ne (by omega), Array.getElem?_setIfInBounds_ne (by omega), Array.getElem?_setIfInBounds_ne (by omega)]; exact h3
theorem DoneRu.all {g : Nat} {T : TypeId} (h : DoneRu w L B rs cur rs.length) (hb : w.heap[g]? = some (.cells cur T (0, 0))) (hL : L ≤ g) (hB : g < B) : RuAt w L B rs (some ⟨g, 0, none⟩) rs.length := by
  refine ⟨rfl, fun _ => ⟨g, 0, rfl, hL, hB, fun j t k s ks hg => ?_⟩⟩
  obtain ⟨h0, h1, h2, a, n, c, h3, h4, h5⟩ := h j t k s ks (List.getElem?_eq_some_iff.1 hg).1 hg
  rw [Nat.zero_add]
  exact ⟨(cell_of_row _ _ _ _ _ _ hb).trans h0, (cell_of_row _ _ _ _ _ _ hb).trans h1, (cell_of_row _ _ _ _ _ _ hb).trans h2, a, n, c, (cell_of_row _ _ _ _ _ _ hb).trans h3, h4, h5⟩
end
end Go.Proofs.Ytfnnpeggjnonjaa
