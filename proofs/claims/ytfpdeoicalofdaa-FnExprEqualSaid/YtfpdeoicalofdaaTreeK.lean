/-
  The law's helper toExpr once more: each list of its copy begins a row of its own.
-/
import Derived.Test.YtfpdeoicalofdaaTreeT
import Derived.Test.YtfpdeoicalofdaaMarkE
namespace Go.Proofs.Ytfpdeoicalofdaa
set_option linter.unusedVariables false
open Go.RowKit

section
variable {w w' : World} {L L' B B' b j n : Nat} {f ks : Fo} {k : Int} {s : ByteArray} {a : Option Addr}
theorem sk_keep (hL : L' ≤ L) (hB : B ≤ B') (hk : ∀ g : Nat, L ≤ g → g < B → w'.heap[g]? = w.heap[g]?) : ∀ {f : Fo} {b j : Nat}, L ≤ b → b < B → SkS w L B f b j → SkS w' L' B' f b j
  | .nil, _, _, _, _, _ => trivial
  | .node k s ks r, b, j, h1, h2, ⟨⟨a, m, c, h3, h4, h5⟩, h6⟩ => ⟨⟨a, m, c, (by
      have : w'.cell? ⟨b, j * 3 + 2, none⟩ = w.cell? ⟨b, j * 3 + 2, none⟩ := World.cell?_of_block (hk b h1 h2)
      exact this.trans h3), h4, fun hm => let ⟨b', e, hl, hb, ⟨cs, hr, hc⟩, hs⟩ := h5 hm; ⟨b', e, by omega, by omega, ⟨cs, (hk b' hl hb).trans hr, hc⟩, sk_keep hL hB hk hl hb hs⟩⟩, sk_keep hL hB hk h1 h2 h6⟩
theorem SkA.keep (h : SkA w L B f a n) (hL : L' ≤ L) (hB : B ≤ B') (hk : ∀ g : Nat, L ≤ g → g < B → w'.heap[g]? = w.heap[g]?) : SkA w' L' B' f a n :=
  ⟨h.1, fun hn => let ⟨b, e, hl, hb, ⟨cs, hr, hc⟩, hs⟩ := h.2 hn; ⟨b, e, by omega, by omega, ⟨cs, (hk b hl hb).trans hr, hc⟩, sk_keep hL hB hk hl hb hs⟩⟩
theorem SkA.more (h : SkA w L B f a n) (hL : L' ≤ L) (hB : B ≤ B') : SkA w L' B' f a n := h.keep hL hB fun _ _ _ => rfl
theorem SkA.setCell (h : SkA w L B f a n) {g : Nat} (hg : g < L ∨ B ≤ g) (i : Nat) (u : Value) : SkA (w.setCell ⟨g, i, none⟩ u) L B f a n :=
  h.keep (Nat.le_refl _) (Nat.le_refl _) fun g' h1 h2 => Below.heap_setCell w ⟨g, i, none⟩ u g' (by show g' ≠ g; omega)
theorem SkA.below (h : SkA w L B f a n) (hb : Below B w w') : SkA w' L B f a n := h.keep (Nat.le_refl _) (Nat.le_refl _) fun g _ hg => hb.block g hg
theorem SkA.next (h : SkA w L w.heap.size f a n) (hb : Below w.heap.size w w') : SkA w' L w'.heap.size f a n := (h.below hb).more (Nat.le_refl _) hb.size
theorem sk_of : ∀ {f : Fo} {b j : Nat}, (∀ i k s ks, f.get i = some (k, s, ks) → ∃ a n c, w.cell? ⟨b, (j + i) * 3 + 2, none⟩ = some (.slice a n c) ∧ SkA w L B ks a n) → SkS w L B f b j
  | .nil, _, _, _ => trivial
  | .node k s ks r, b, j, h => by
    obtain ⟨a, n, c, h1, h2⟩ := h 0 k s ks rfl
    exact ⟨⟨a, n, c, h1, h2.1, h2.2⟩, sk_of fun i k' s' ks' hg => by
      obtain ⟨a', n', c', h3, h4⟩ := h (i + 1) k' s' ks' hg
      exact ⟨a', n', c', by rw [show j + 1 + i = j + (i + 1) from by omega]; exact h3, h4⟩⟩
/-- these nodes, each list at the head of a row -/
def KS (w : World) (L B : Nat) (f : Fo) (a : Option Addr) (n : Nat) : Prop := KA w L B f a n ∧ SkA w L B f a n
theorem KS.more (h : KS w L B f a n) (hL : L' ≤ L) (hB : B ≤ B') : KS w L' B' f a n := ⟨h.1.more hL hB, h.2.more hL hB⟩
theorem KS.setCell (h : KS w L B f a n) {g : Nat} (hg : g < L ∨ B ≤ g) (i : Nat) (u : Value) : KS (w.setCell ⟨g, i, none⟩ u) L B f a n := ⟨h.1.setCell hg i u, h.2.setCell hg i u⟩
theorem KS.next (h : KS w L w.heap.size f a n) (hb : Below w.heap.size w w') : KS w' L w'.heap.size f a n := ⟨h.1.next hb, h.2.next hb⟩
end
/-- the nodes up to a place stand in these cells -/
def DoneTo2 (w : World) (L B : Nat) (f : Fo) (cur : Array Value) (j : Nat) : Prop := ∀ i k s ks, i < j → f.get i = some (k, s, ks) →
  cur[i * 3]? = some (.int .i64 k) ∧ cur[i * 3 + 1]? = some (.string s) ∧ ∃ a n, cur[i * 3 + 2]? = some (.slice a n n) ∧ KS w L B ks a n
section
variable {w w' : World} {L B B' g j n : Nat} {f ks : Fo} {k : Int} {s : ByteArray} {cur : Array Value} {a : Option Addr}
theorem DoneTo2.zero : DoneTo2 w L B f cur 0 := fun i k s ks h => absurd h (by omega)
theorem DoneTo2.next (h : DoneTo2 w L w.heap.size f cur j) (hb : Below w.heap.size w w') : DoneTo2 w' L w'.heap.size f cur j := fun i k s ks hi hg =>
  let ⟨h1, h2, a, n, h3, h4⟩ := h i k s ks hi hg
  ⟨h1, h2, a, n, h3, h4.next hb⟩
theorem DoneTo2.step (h : DoneTo2 w L B f cur j) (hg : f.get j = some (k, s, ks)) (hk : KS w L B ks a n) (hs : j * 3 + 2 < cur.size) (hL : g < L) (x y z : Value) :
    DoneTo2 (((w.setCell ⟨g, j * 3, none⟩ x).setCell ⟨g, j * 3 + 1, none⟩ y).setCell ⟨g, j * 3 + 2, none⟩ z) L B f
      (((cur.setIfInBounds (j * 3) (.int .i64 k)).setIfInBounds (j * 3 + 1) (.string s)).setIfInBounds (j * 3 + 2) (.slice a n n)) (j + 1) := by
  intro i k' s' ks' hi hgi
  by_cases e : i = j
  · subst e
    rw [hg] at hgi
    simp only [Option.some.injEq, Prod.mk.injEq] at hgi
    obtain ⟨rfl, rfl, rfl⟩ := hgi
    refine ⟨?_, ?_, a, n, ?_, ((hk.setCell (.inl hL) _ _).setCell (.inl hL) _ _).setCell (.inl hL) _ _⟩
    · rw [Array.getElem?_setIfInBounds_ne (by omega), Array.getElem?_setIfInBounds_ne (by omega), Array.getElem?_setIfInBounds_self_of_lt (by omega)]
    · rw [Array.getElem?_setIfInBounds_ne (by omega), Array.getElem?_setIfInBounds_self_of_lt (by simp; omega)]
    · rw [Array.getElem?_setIfInBounds_self_of_lt (by simp; omega)]
  · obtain ⟨h1, h2, a', n', h3, h4⟩ := h i k' s' ks' (by omega) hgi
    refine ⟨?_, ?_, a', n', ?_, ((h4.setCell (.inl hL) _ _).setCell (.inl hL) _ _).setCell (.inl hL) _ _⟩
    · rw [Array.getElem?_setIfInBounds_ne (by omega), Array.getElem?_setIfInBounds_ne (by omega), Array.getElem?_setIfInBounds_ne (by omega)]; exact h1
    · rw [Array.getElem?_setIfInBounds_ne (by omega), Array.getElem?_setIfInBounds_ne (by omega), Array.getElem?_setIfInBounds_ne (by omega)]; exact h2
    · rw [Array.getElem?_setIfInBounds_ne (by omega), Array.getElem?_setIfInBounds_ne (by omega), Array.getElem?_setIfInBounds_ne (by omega)]; exact h3
/-- a row of cells that holds all the nodes is the list -/
theorem DoneTo2.all (h : DoneTo2 w (g + 1) w.heap.size f cur n) (hl : f.len = n) (hb : w.heap[g]? = some (.cells cur 25 (0, 0))) (hc : cur.size = n * 3) (hL : L ≤ g) : KS w L w.heap.size f (some ⟨g, 0, none⟩) n := by
  refine ⟨⟨hl, fun hn => ⟨g, 0, rfl, hL, blk_lt hb, seg_of fun j k s ks hg => ?_⟩⟩, hl, fun hn => ⟨g, rfl, hL, blk_lt hb, ⟨cur, hb, hc⟩, sk_of fun j k s ks hg => ?_⟩⟩
  · obtain ⟨h1, h2, a, m, h3, h4⟩ := h j k s ks (by have := Fo.get_lt hg; omega) hg
    refine ⟨?_, ?_, a, m, m, ?_, Nat.le_refl _, h4.1.more (by omega) (Nat.le_refl _)⟩
    · rw [Nat.zero_add, cell_of_row _ _ _ _ _ _ hb]; exact h1
    · rw [Nat.zero_add, cell_of_row _ _ _ _ _ _ hb]; exact h2
    · rw [Nat.zero_add, cell_of_row _ _ _ _ _ _ hb]; exact h3
  · obtain ⟨h1, h2, a, m, h3, h4⟩ := h j k s ks (by have := Fo.get_lt hg; omega) hg
    refine ⟨a, m, m, ?_, h4.2.more (by omega) (Nat.le_refl _)⟩
    rw [Nat.zero_add, cell_of_row _ _ _ _ _ _ hb]; exact h3
end
/-- what toExpr leaves -/
def ToP2 (k : Int) (s : ByteArray) (ks : Fo) (w : World) (e : Ending) (w' : World) : Prop :=
  ∃ g, e = .returned (.agg #[.int .i64 k, .string s, .slice (some ⟨g, 0, none⟩) ks.len ks.len]) ∧ KS w' w.heap.size w'.heap.size ks (some ⟨g, 0, none⟩) ks.len ∧ Below w.heap.size w w'


end Go.Proofs.Ytfpdeoicalofdaa
