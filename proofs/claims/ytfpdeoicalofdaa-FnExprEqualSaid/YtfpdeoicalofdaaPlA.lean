/-
  Trees in a range of blocks, each of which is cells that nothing has frozen: kept where only other blocks turn.
-/
import Derived.Test.YtfpdeoicalofdaaEqP
namespace Go.Proofs.Ytfpdeoicalofdaa
set_option linter.unusedVariables false
open Go.RowKit

/-- the blocks of the operands of these nodes are plain -/
def PlS (w : World) (L B : Nat) : Fo → Nat → Nat → Prop
  | .nil, _, _ => True
  | .node k s ks r, b, off => (∃ a n c, w.cell? ⟨b, off + 2, none⟩ = some (.slice a n c) ∧ ks.len = n ∧ (0 < n → ∃ b' off', a = some ⟨b', off', none⟩ ∧ L ≤ b' ∧ b' < B ∧ Pln w b' ∧ PlS w L B ks b' off')) ∧ PlS w L B r b (off + 3)
/-- a slice of such nodes -/
def PlA (w : World) (L B : Nat) (f : Fo) (a : Option Addr) (n : Nat) : Prop := f.len = n ∧ (0 < n → ∃ b off, a = some ⟨b, off, none⟩ ∧ L ≤ b ∧ b < B ∧ Pln w b ∧ PlS w L B f b off)
/-- a tree in a range of plain blocks -/
def KP (w : World) (L B : Nat) (f : Fo) (a : Option Addr) (n : Nat) : Prop := KA w L B f a n ∧ PlA w L B f a n
section
variable {w w' : World} {L L' B B' b off n : Nat} {a : Option Addr} {f : Fo}
theorem plS_keep (hL : L' ≤ L) (hB : B ≤ B') (hk : ∀ g : Nat, L ≤ g → g < B → w'.heap[g]? = w.heap[g]?) : ∀ {f : Fo} {b off : Nat}, L ≤ b → b < B → PlS w L B f b off → PlS w' L' B' f b off
  | .nil, _, _, _, _, _ => trivial
  | .node k s ks r, b, off, h1, h2, ⟨⟨a, n, c, h3, hl, h4⟩, h5⟩ => by
    refine ⟨⟨a, n, c, (show w'.cell? ⟨b, off + 2, none⟩ = w.cell? ⟨b, off + 2, none⟩ from World.cell?_of_block (hk b h1 h2)).trans h3, hl, fun hn => ?_⟩, plS_keep hL hB hk h1 h2 h5⟩
    obtain ⟨b', off', e, q1, q2, hp, hs⟩ := h4 hn
    exact ⟨b', off', e, by omega, by omega, hp.block (hk b' q1 q2), plS_keep hL hB hk q1 q2 hs⟩
theorem PlA.keep (h : PlA w L B f a n) (hL : L' ≤ L) (hB : B ≤ B') (hk : ∀ g : Nat, L ≤ g → g < B → w'.heap[g]? = w.heap[g]?) : PlA w' L' B' f a n :=
  ⟨h.1, fun hn => let ⟨b, off, e, q1, q2, hp, hs⟩ := h.2 hn; ⟨b, off, e, by omega, by omega, hp.block (hk b q1 q2), plS_keep hL hB hk q1 q2 hs⟩⟩
theorem KP.keep (h : KP w L B f a n) (hL : L' ≤ L) (hB : B ≤ B') (hk : ∀ g : Nat, L ≤ g → g < B → w'.heap[g]? = w.heap[g]?) : KP w' L' B' f a n :=
  ⟨h.1.keep hL hB fun p h1 h2 => World.cell?_of_block (hk p.block h1 h2), h.2.keep hL hB hk⟩
theorem KP.more (h : KP w L B f a n) (hL : L' ≤ L) (hB : B ≤ B') : KP w L' B' f a n := h.keep hL hB fun _ _ _ => rfl
theorem KP.below (h : KP w L B f a n) (hb : Below B w w') : KP w' L B f a n := h.keep (Nat.le_refl _) (Nat.le_refl _) fun g _ hg => hb.block g hg
theorem KP.alloc (h : KP w L B f a n) (hB : B ≤ w.heap.size) (o : Obj) : KP (w.alloc o) L B f a n := h.keep (Nat.le_refl _) (Nat.le_refl _) fun g _ hg => Below.heap_alloc w o g (by omega)
theorem KP.setCell (h : KP w L B f a n) {g : Nat} (hg : g < L ∨ B ≤ g) (i : Nat) (u : Value) : KP (w.setCell ⟨g, i, none⟩ u) L B f a n :=
  h.keep (Nat.le_refl _) (Nat.le_refl _) fun j h1 h2 => Below.heap_setCell w _ _ j (show j ≠ g by omega)
theorem KP.nil : KP w L B .nil a 0 := ⟨KA.nil, rfl, fun h => absurd h (by omega)⟩
theorem rdF_ofP : ∀ {f : Fo} {b off : Nat}, Seg w L B f b off → PlS w L' B' f b off → RdF w f b off
  | .nil, _, _, _, _ => trivial
  | .node k s ks r, b, off, ⟨h1, h2, ⟨a, n, c, h3, h4, h5, h6⟩, h7⟩, ⟨⟨a', n', c', h8, _, h10⟩, h11⟩ => by
    rw [h3] at h8
    cases h8
    refine ⟨h1, h2, ⟨a, n, c, h3, h4, h5, fun hn => ?_⟩, rdF_ofP h7 h11⟩
    obtain ⟨b1, o1, e1, _, _, hs⟩ := h6 hn
    obtain ⟨b2, o2, e2, _, _, hp, hk⟩ := h10 hn
    rw [e1] at e2
    cases e2
    exact ⟨b1, o1, e1, hp, rdF_ofP hs hk⟩
/-- .. as eqI_any takes it -/
theorem KP.rd (h : KP w L B f a n) : RdA w f a n := by
  refine ⟨h.1.1, fun hn => ?_⟩
  obtain ⟨b1, o1, e1, _, _, hs⟩ := h.1.2 hn
  obtain ⟨b2, o2, e2, _, _, hp, hk⟩ := h.2.2 hn
  rw [e1] at e2
  cases e2
  exact ⟨b1, o1, e1, hp, rdF_ofP hs hk⟩
end
/-- a row of nodes whose operands are such trees is one -/
theorem plS_of {w : World} {L B : Nat} : ∀ {f : Fo} {b off : Nat}, (∀ j k s ks, f.get j = some (k, s, ks) → ∃ a n c, w.cell? ⟨b, off + j * 3 + 2, none⟩ = some (.slice a n c) ∧ PlA w L B ks a n) → PlS w L B f b off
  | .nil, _, _, _ => trivial
  | .node k s ks r, b, off, h => by
    obtain ⟨a, n, c, h1, h2, h3⟩ := h 0 k s ks rfl
    refine ⟨⟨a, n, c, by simpa using h1, h2, h3⟩, plS_of (f := r) fun j k s ks hg => ?_⟩
    obtain ⟨a, n, c, q1, q2⟩ := h (j + 1) k s ks hg
    exact ⟨a, n, c, by rwa [show off + (j + 1) * 3 + 2 = off + 3 + j * 3 + 2 from by omega] at q1, q2⟩
end Go.Proofs.Ytfpdeoicalofdaa
