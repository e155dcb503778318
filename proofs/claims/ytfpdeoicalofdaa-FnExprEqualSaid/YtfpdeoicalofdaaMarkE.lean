/-
  The law's helper markExpr: what it writes to, and what it leaves.
-/
import Derived.Test.YtfpdeoicalofdaaProg
import Derived.Test.YtfpdeoicalofdaaTree
import Derived.Test.YtfpdeoicalofdaaMarkT
namespace Go.Proofs.Ytfpdeoicalofdaa
set_option linter.unusedVariables false
open Go.RowKit

/-- block b is a row of n expressions -/
def RowE (w : World) (b n : Nat) : Prop := ∃ cs : Array Value, w.heap[b]? = some (.cells cs 25 (0, 0)) ∧ cs.size = n * 3
/-- the slices of operands, from a place of a row on: each begins a row of its own -/
def SkS (w : World) (L B : Nat) : Fo → Nat → Nat → Prop
  | .nil, _, _ => True
  | .node k s ks r, b, j => (∃ a n c, w.cell? ⟨b, j * 3 + 2, none⟩ = some (.slice a n c) ∧ ks.len = n ∧ (0 < n → ∃ b', a = some ⟨b', 0, none⟩ ∧ L ≤ b' ∧ b' < B ∧ RowE w b' n ∧ SkS w L B ks b' 0)) ∧ SkS w L B r b (j + 1)
def SkA (w : World) (L B : Nat) (f : Fo) (a : Option Addr) (n : Nat) : Prop := f.len = n ∧ (0 < n → ∃ b, a = some ⟨b, 0, none⟩ ∧ L ≤ b ∧ b < B ∧ RowE w b n ∧ SkS w L B f b 0)
/-- what marks may turn: kinds and texts of expressions in blocks from L to B -/
structure MkStep (L B : Nat) (w w' : World) : Prop where
  os : w'.os = w.os
  tape : w'.tape = w.tape
  output : w'.output = w.output
  size : w.heap.size ≤ w'.heap.size
  out : ∀ g : Nat, g < w.heap.size → g < L ∨ B ≤ g → w'.heap[g]? = w.heap[g]?
  row : ∀ (g : Nat) (cs : Array Value), w.heap[g]? = some (.cells cs 25 (0, 0)) → ∃ cs' : Array Value, w'.heap[g]? = some (.cells cs' 25 (0, 0)) ∧ cs'.size = cs.size ∧ ∀ i, i % 3 = 2 → cs'[i]? = cs[i]?
section
variable {w w' w'' : World} {L B b j n i : Nat} {f ks : Fo} {k : Int} {s : ByteArray} {a : Option Addr}
theorem MkStep.refl (L B : Nat) (w : World) : MkStep L B w w := ⟨rfl, rfl, rfl, Nat.le_refl _, fun _ _ _ => rfl, fun g cs h => ⟨cs, h, rfl, fun _ _ => rfl⟩⟩
theorem MkStep.trans (h : MkStep L B w w') (h2 : MkStep L B w' w'') : MkStep L B w w'' := ⟨h2.os.trans h.os, h2.tape.trans h.tape, h2.output.trans h.output, Nat.le_trans h.size h2.size,
  fun g hg ho => (h2.out g (Nat.lt_of_lt_of_le hg h.size) ho).trans (h.out g hg ho), fun g cs hg => by
    obtain ⟨c1, h3, h4, h5⟩ := h.row g cs hg
    obtain ⟨c2, h6, h7, h8⟩ := h2.row g c1 h3
    exact ⟨c2, h6, h7.trans h4, fun i hi => (h8 i hi).trans (h5 i hi)⟩⟩
theorem MkStep.of (h : Below w.heap.size w w') : MkStep L B w w' := ⟨h.os, h.tape, h.output, h.size, fun g hg _ => h.block g hg, fun g cs hg => ⟨cs, (h.block g (Array.getElem?_eq_some_iff.1 hg).1).trans hg, rfl, fun _ _ => rfl⟩⟩
theorem set_block (w : World) (g i : Nat) (v : Value) (h : g < w.heap.size) : (w.setCell ⟨g, i, none⟩ v).heap[g]? = match w.heap[g]? with
    | some (.cells c e fr) => some (.cells (c.setIfInBounds i v) e fr)
    | o => o := by
  simp only [World.setCell]
  rw [Array.getElem?_modify, if_pos rfl]
  cases hx : w.heap[g]? with
  | none => rfl
  | some o => cases o <;> rfl
theorem MkStep.set (hL : L ≤ b) (hB : b < B) (hi : i % 3 ≠ 2) (v : Value) : MkStep L B w (w.setCell ⟨b, i, none⟩ v) := by
  refine ⟨rfl, rfl, rfl, by simp, fun g hg ho => Below.heap_setCell w ⟨b, i, none⟩ v g (by show g ≠ b; omega), fun g cs hg => ?_⟩
  by_cases hgb : g = b
  · subst hgb
    refine ⟨cs.setIfInBounds i v, ?_, by simp, fun i' hi' => by rw [Array.getElem?_setIfInBounds_ne (by rintro rfl; exact hi hi')]⟩
    have := (Array.getElem?_eq_some_iff.1 hg).1
    rw [set_block w g i v this, hg]
  · exact ⟨cs, (Below.heap_setCell w ⟨b, i, none⟩ v g hgb).trans hg, rfl, fun _ _ => rfl⟩
theorem RowE.step (h : RowE w b n) (hs : MkStep L B w w') : RowE w' b n := by
  obtain ⟨cs, h1, h2⟩ := h
  obtain ⟨c2, h3, h4, _⟩ := hs.row b cs h1
  exact ⟨c2, h3, h4.trans h2⟩
theorem RowE.slice (h : RowE w b n) (hs : MkStep L B w w') {v : Value} (hc : w.cell? ⟨b, j * 3 + 2, none⟩ = some v) : w'.cell? ⟨b, j * 3 + 2, none⟩ = some v := by
  obtain ⟨cs, h1, h2⟩ := h
  obtain ⟨c2, h3, h4, h5⟩ := hs.row b cs h1
  rw [cell_of_row _ _ _ _ _ _ h3, h5 _ (by omega), ← cell_of_row _ _ _ _ _ _ h1]
  exact hc
theorem sk_step (hs : MkStep L B w w') : ∀ {f : Fo} {b j n : Nat}, RowE w b n → SkS w L B f b j → SkS w' L B f b j
  | .nil, _, _, _, _, _ => trivial
  | .node k s ks r, b, j, n, hr, ⟨⟨a, m, c, h1, h2, h3⟩, h4⟩ => ⟨⟨a, m, c, hr.slice hs h1, h2, fun hm => let ⟨b', e, hl, hb, hr', hk⟩ := h3 hm; ⟨b', e, hl, hb, hr'.step hs, sk_step hs hr' hk⟩⟩, sk_step hs hr h4⟩
theorem SkA.step (h : SkA w L B f a n) (hs : MkStep L B w w') : SkA w' L B f a n := ⟨h.1, fun hn => let ⟨b, e, hl, hb, hr, hk⟩ := h.2 hn; ⟨b, e, hl, hb, hr.step hs, sk_step hs hr hk⟩⟩
theorem sk_get : ∀ {f : Fo} {b j i : Nat}, SkS w L B f b j → i < f.len → ∃ k s ks a n c, f.get i = some (k, s, ks) ∧ w.cell? ⟨b, (j + i) * 3 + 2, none⟩ = some (.slice a n c) ∧ SkA w L B ks a n
  | .node k s ks r, b, j, 0, ⟨⟨a, m, c, h1, h2, h3⟩, _⟩, _ => ⟨k, s, ks, a, m, c, rfl, h1, h2, h3⟩
  | .node k s ks r, b, j, i + 1, ⟨_, h4⟩, hi => by
    obtain ⟨k', s', ks', a, n, c, h1, h2, h3⟩ := sk_get (f := r) (i := i) h4 (by simp only [Fo.len] at hi; omega)
    exact ⟨k', s', ks', a, n, c, h1, by rw [show j + (i + 1) = j + 1 + i from by omega]; exact h2, h3⟩
  | .nil, _, _, _, _, h => absurd h (by simp [Fo.len])
theorem RowE.cells (h : RowE w b n) (hi : i < n * 3) : ∃ v, w.cell? ⟨b, i, none⟩ = some v := by
  obtain ⟨cs, h1, h2⟩ := h
  rw [cell_of_row _ _ _ _ _ _ h1]
  exact ⟨_, Array.getElem?_eq_getElem (by omega)⟩
theorem RowE.frozen (h : RowE w b n) (i : Nat) : w.frozen? ⟨b, i, none⟩ = false := by
  obtain ⟨cs, h1, h2⟩ := h
  exact blk_frozen h1 i
end
end Go.Proofs.Ytfpdeoicalofdaa
