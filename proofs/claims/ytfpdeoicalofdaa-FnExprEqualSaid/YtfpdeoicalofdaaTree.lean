/-
  Expressions as they lie in memory: a list of nodes is a forest; each node is three cells: a kind, a text, a slice of operands. No program is named here.
-/
import Derived.Test.YtfpdeoicalofdaaFiles
namespace Go.Proofs.Ytfpdeoicalofdaa
set_option linter.unusedVariables false
open Go.RowKit

/-- a list of expressions: none, or a node with its operands, and the nodes behind it -/
inductive Fo where
  | nil
  | node (k : Int) (s : ByteArray) (ks rest : Fo)

namespace Fo
/-- how many nodes stand side by side -/
def len : Fo → Nat
  | .nil => 0
  | .node _ _ _ r => r.len + 1
/-- how many nodes there are at all -/
def size : Fo → Nat
  | .nil => 0
  | .node _ _ ks r => ks.size + r.size + 1
/-- the bytes and operands below -/
def tot : Fo → Nat
  | .nil => 0
  | .node _ s ks r => s.size + ks.len + ks.tot + r.tot
/-- the node at a place -/
def get : Fo → Nat → Option (Int × ByteArray × Fo)
  | .nil, _ => none
  | .node k s ks r, 0 => some (k, s, ks)
  | .node k s ks r, j + 1 => r.get j
/-- texts and lists that a machine holds -/
def Fits : Fo → Prop
  | .nil => True
  | .node _ s ks r => s.size ≤ maxLen ∧ ks.len ≤ maxLen ∧ ks.Fits ∧ r.Fits
theorem size_le : ∀ f : Fo, f.size ≤ f.len + f.tot
  | .nil => Nat.le_refl _
  | .node k s ks r => by have := size_le ks; have := size_le r; simp only [size, len, tot]; omega
theorem len_size : ∀ f : Fo, f.len ≤ f.size
  | .nil => Nat.le_refl _
  | .node k s ks r => by have := len_size r; simp only [size, len]; omega
theorem get_some : ∀ {f : Fo} {j : Nat}, j < f.len → ∃ x, f.get j = some x
  | .node k s ks r, 0, _ => ⟨_, rfl⟩
  | .node k s ks r, j + 1, h => get_some (f := r) (j := j) (by simp only [len] at h; omega)
  | .nil, _, h => absurd h (by simp [len])
theorem get_lt : ∀ {f : Fo} {j : Nat} {x : Int × ByteArray × Fo}, f.get j = some x → j < f.len
  | .nil, _, _, h => by simp [get] at h
  | .node k s ks r, 0, _, _ => by simp [len]
  | .node k s ks r, j + 1, x, h => by have := get_lt (f := r) (j := j) h; simp only [len]; omega
theorem get_size : ∀ {f : Fo} {j : Nat} {k : Int} {s : ByteArray} {ks : Fo}, f.get j = some (k, s, ks) → ks.size + 1 ≤ f.size
  | .nil, _, _, _, _, h => by simp [get] at h
  | .node k s ks r, 0, _, _, _, h => by simp only [get, Option.some.injEq, Prod.mk.injEq] at h; obtain ⟨_, _, rfl⟩ := h; simp only [size]; omega
  | .node k s ks r, j + 1, _, _, _, h => by have := get_size (f := r) (j := j) h; simp only [size]; omega
theorem get_tot : ∀ {f : Fo} {j : Nat} {k : Int} {s : ByteArray} {ks : Fo}, f.get j = some (k, s, ks) → s.size + ks.len + ks.tot ≤ f.tot
  | .nil, _, _, _, _, h => by simp [get] at h
  | .node k s ks r, 0, _, _, _, h => by simp only [get, Option.some.injEq, Prod.mk.injEq] at h; obtain ⟨_, rfl, rfl⟩ := h; simp only [tot]; omega
  | .node k s ks r, j + 1, _, _, _, h => by have := get_tot (f := r) (j := j) h; simp only [tot]; omega
theorem Fits.get : ∀ {f : Fo} {j : Nat} {k : Int} {s : ByteArray} {ks : Fo}, f.Fits → f.get j = some (k, s, ks) → s.size ≤ maxLen ∧ ks.len ≤ maxLen ∧ ks.Fits
  | .nil, _, _, _, _, _, h => by simp [Fo.get] at h
  | .node k s ks r, 0, _, _, _, hf, h => by simp only [Fo.get, Option.some.injEq, Prod.mk.injEq] at h; obtain ⟨_, rfl, rfl⟩ := h; exact ⟨hf.1, hf.2.1, hf.2.2.1⟩
  | .node k s ks r, j + 1, _, _, _, hf, h => Fits.get (f := r) (j := j) hf.2.2.2 h
/-- the nodes from a place on -/
def drop : Fo → Nat → Fo
  | f, 0 => f
  | .nil, _ + 1 => .nil
  | .node _ _ _ r, j + 1 => r.drop j
theorem drop_zero (f : Fo) : f.drop 0 = f := by cases f <;> rfl
theorem drop_get : ∀ {f : Fo} {j : Nat} {k : Int} {s : ByteArray} {ks : Fo}, f.get j = some (k, s, ks) → f.drop j = .node k s ks (f.drop (j + 1))
  | .nil, _, _, _, _, h => by simp [get] at h
  | .node k s ks r, 0, _, _, _, h => by simp only [get, Option.some.injEq, Prod.mk.injEq] at h; obtain ⟨rfl, rfl, rfl⟩ := h; simp [drop, drop_zero]
  | .node k s ks r, j + 1, _, _, _, h => drop_get (f := r) (j := j) h
theorem drop_all : ∀ {f : Fo} {j : Nat}, f.len ≤ j → f.drop j = .nil
  | .nil, 0, _ => rfl
  | .nil, _ + 1, _ => rfl
  | .node k s ks r, 0, h => absurd h (by simp [len])
  | .node k s ks r, j + 1, h => drop_all (f := r) (j := j) (by simp only [len] at h; omega)
/-- two lists with the same nodes at each place are one list -/
theorem ext : ∀ {f g : Fo}, (∀ j, f.get j = g.get j) → f = g
  | .nil, .nil, _ => rfl
  | .nil, .node .., h => by have := h 0; simp [get] at this
  | .node .., .nil, h => by have := h 0; simp [get] at this
  | .node k s ks r, .node k' s' ks' r', h => by
    have h0 := h 0
    simp only [get, Option.some.injEq, Prod.mk.injEq] at h0
    obtain ⟨rfl, rfl, rfl⟩ := h0
    rw [ext (f := r) (g := r') fun j => h (j + 1)]
/-- a list out of its nodes -/
def ofFn (F : Nat → Int × ByteArray × Fo) : Nat → Nat → Fo
  | 0, _ => .nil
  | n + 1, i => .node (F i).1 (F i).2.1 (F i).2.2 (ofFn F n (i + 1))
theorem ofFn_len (F : Nat → Int × ByteArray × Fo) : ∀ n i, (ofFn F n i).len = n
  | 0, _ => rfl
  | n + 1, i => by simp only [ofFn, len, ofFn_len F n]
theorem ofFn_get (F : Nat → Int × ByteArray × Fo) : ∀ {n i j : Nat} {x : Int × ByteArray × Fo}, (ofFn F n i).get j = some x → j < n ∧ x = F (i + j)
  | 0, _, _, _, h => by simp [ofFn, get] at h
  | n + 1, i, 0, x, h => by simp only [ofFn, get, Option.some.injEq] at h; exact ⟨by omega, h.symm⟩
  | n + 1, i, j + 1, x, h => by
    obtain ⟨h1, h2⟩ := ofFn_get F (n := n) (i := i + 1) (j := j) h
    exact ⟨by omega, by rw [h2]; congr 1; omega⟩
theorem ofFn_fits (F : Nat → Int × ByteArray × Fo) : ∀ {n i : Nat}, (∀ j, i ≤ j → j < i + n → (F j).2.1.size ≤ maxLen ∧ (F j).2.2.len ≤ maxLen ∧ (F j).2.2.Fits) → (ofFn F n i).Fits
  | 0, _, _ => trivial
  | n + 1, i, h => ⟨(h i (by omega) (by omega)).1, (h i (by omega) (by omega)).2.1, (h i (by omega) (by omega)).2.2, ofFn_fits F fun j h1 h2 => h j (by omega) (by omega)⟩
end Fo

/-- these nodes lie side by side from a place on; all that they lead to lies in blocks from L to B -/
def Seg (w : World) (L B : Nat) : Fo → Nat → Nat → Prop
  | .nil, _, _ => True
  | .node k s ks r, b, off => w.cell? ⟨b, off, none⟩ = some (.int .i64 k) ∧ w.cell? ⟨b, off + 1, none⟩ = some (.string s) ∧
      (∃ a n c, w.cell? ⟨b, off + 2, none⟩ = some (.slice a n c) ∧ ks.len = n ∧ n ≤ c ∧ (0 < n → ∃ b' off', a = some ⟨b', off', none⟩ ∧ L ≤ b' ∧ b' < B ∧ Seg w L B ks b' off')) ∧
      Seg w L B r b (off + 3)
/-- a slice whose elements are these nodes -/
def KA (w : World) (L B : Nat) (f : Fo) (a : Option Addr) (n : Nat) : Prop := f.len = n ∧ (0 < n → ∃ b off, a = some ⟨b, off, none⟩ ∧ L ≤ b ∧ b < B ∧ Seg w L B f b off)
/-- one node -/
def NodeAt (w : World) (L B : Nat) (k : Int) (s : ByteArray) (ks : Fo) (b off : Nat) : Prop :=
  w.cell? ⟨b, off, none⟩ = some (.int .i64 k) ∧ w.cell? ⟨b, off + 1, none⟩ = some (.string s) ∧ ∃ a n c, w.cell? ⟨b, off + 2, none⟩ = some (.slice a n c) ∧ n ≤ c ∧ KA w L B ks a n
section
variable {w w' : World} {L L' B B' b off n : Nat} {a : Option Addr} {f ks : Fo} {k : Int} {s : ByteArray}
theorem seg_node {r : Fo} : Seg w L B (.node k s ks r) b off ↔ NodeAt w L B k s ks b off ∧ Seg w L B r b (off + 3) :=
  ⟨fun ⟨h1, h2, ⟨a, n, c, h3, h4, h5, h6⟩, h7⟩ => ⟨⟨h1, h2, a, n, c, h3, h5, h4, h6⟩, h7⟩, fun ⟨⟨h1, h2, a, n, c, h3, h5, h4, h6⟩, h7⟩ => ⟨h1, h2, ⟨a, n, c, h3, h4, h5, h6⟩, h7⟩⟩
theorem seg_get : ∀ {f : Fo} {b off j : Nat} {k : Int} {s : ByteArray} {ks : Fo}, Seg w L B f b off → f.get j = some (k, s, ks) → NodeAt w L B k s ks b (off + j * 3)
  | .nil, _, _, _, _, _, _, _, h => by simp [Fo.get] at h
  | .node k s ks r, _, _, 0, _, _, _, hs, h => by
    simp only [Fo.get, Option.some.injEq, Prod.mk.injEq] at h
    obtain ⟨rfl, rfl, rfl⟩ := h
    rw [Nat.zero_mul]
    exact (seg_node.1 hs).1
  | .node k s ks r, b, off, j + 1, _, _, _, hs, h => by
    have := seg_get (f := r) (j := j) (seg_node.1 hs).2 h
    rwa [show off + (j + 1) * 3 = off + 3 + j * 3 from by omega]
theorem seg_of : ∀ {f : Fo} {b off : Nat}, (∀ j k s ks, f.get j = some (k, s, ks) → NodeAt w L B k s ks b (off + j * 3)) → Seg w L B f b off
  | .nil, _, _, _ => trivial
  | .node k s ks r, b, off, h => by
    refine seg_node.2 ⟨?_, seg_of (f := r) fun j k s ks hg => ?_⟩
    · have := h 0 k s ks rfl
      rwa [Nat.zero_mul] at this
    · have := h (j + 1) k s ks hg
      rwa [show off + (j + 1) * 3 = off + 3 + j * 3 from by omega] at this
theorem seg_keep (hL : L' ≤ L) (hB : B ≤ B') (hk : ∀ p : Addr, L ≤ p.block → p.block < B → w'.cell? p = w.cell? p) : ∀ {f : Fo} {b off : Nat}, L ≤ b → b < B → Seg w L B f b off → Seg w' L' B' f b off
  | .nil, _, _, _, _, _ => trivial
  | .node k s ks r, b, off, h1, h2, ⟨c1, c2, ⟨a, n, c, c3, hl, hc, hs⟩, hr⟩ => by
    refine ⟨(hk ⟨b, off, none⟩ h1 h2).trans c1, (hk ⟨b, off + 1, none⟩ h1 h2).trans c2, ⟨a, n, c, (hk ⟨b, off + 2, none⟩ h1 h2).trans c3, hl, hc, fun hn => ?_⟩, seg_keep hL hB hk h1 h2 hr⟩
    obtain ⟨b', off', ha, hb1, hb2, hs'⟩ := hs hn
    exact ⟨b', off', ha, by omega, by omega, seg_keep hL hB hk hb1 hb2 hs'⟩
theorem KA.keep (h : KA w L B f a n) (hL : L' ≤ L) (hB : B ≤ B') (hk : ∀ p : Addr, L ≤ p.block → p.block < B → w'.cell? p = w.cell? p) : KA w' L' B' f a n :=
  ⟨h.1, fun hn => let ⟨b, off, ha, h1, h2, hs⟩ := h.2 hn; ⟨b, off, ha, by omega, by omega, seg_keep hL hB hk h1 h2 hs⟩⟩
theorem KA.more (h : KA w L B f a n) (hL : L' ≤ L) (hB : B ≤ B') : KA w L' B' f a n := h.keep hL hB fun _ _ _ => rfl
theorem KA.below (h : KA w L B f a n) (hb : Below B w w') : KA w' L B f a n := h.keep (Nat.le_refl _) (Nat.le_refl _) fun _ _ hp => hb.cell hp
theorem KA.next (h : KA w L w.heap.size f a n) (hb : Below w.heap.size w w') : KA w' L w'.heap.size f a n := (h.below hb).more (Nat.le_refl _) hb.size
theorem KA.nextB (h : KA w L B f a n) (hB : B ≤ w.heap.size) (hb : Below w.heap.size w w') : KA w' L B f a n := h.below (hb.mono hB)
theorem KA.alloc (h : KA w L B f a n) (hB : B ≤ w.heap.size) (o : Obj) : KA (w.alloc o) L B f a n := h.keep (Nat.le_refl _) (Nat.le_refl _) fun p _ hp => World.cell?_alloc_lt w o p (by omega)
theorem KA.setCell (h : KA w L B f a n) {g : Nat} (hg : g < L ∨ B ≤ g) (i : Nat) (u : Value) : KA (w.setCell ⟨g, i, none⟩ u) L B f a n :=
  h.keep (Nat.le_refl _) (Nat.le_refl _) fun p h1 h2 => World.cell?_setCell_other w _ _ _ (by rintro rfl; simp at h1 h2; omega)
theorem KA.nil : KA w L B .nil a 0 := ⟨rfl, fun h => absurd h (by omega)⟩
theorem KA.get (h : KA w L B f a n) {j : Nat} (hj : j < n) :
    ∃ b off k s ks a' n' c', a = some ⟨b, off, none⟩ ∧ L ≤ b ∧ b < B ∧ f.get j = some (k, s, ks) ∧ w.cell? ⟨b, off + j * 3, none⟩ = some (.int .i64 k) ∧ w.cell? ⟨b, off + j * 3 + 1, none⟩ = some (.string s) ∧
      w.cell? ⟨b, off + j * 3 + 2, none⟩ = some (.slice a' n' c') ∧ n' ≤ c' ∧ KA w L B ks a' n' := by
  obtain ⟨b, off, ha, hb, hc, hs⟩ := h.2 (by omega)
  obtain ⟨⟨k, s, ks⟩, hg⟩ := Fo.get_some (f := f) (j := j) (by have := h.1; omega)
  obtain ⟨h1, h2, a', n', c', h3, h4, h5⟩ := seg_get hs hg
  exact ⟨b, off, k, s, ks, a', n', c', ha, hb, hc, hg, h1, h2, h3, h4, h5⟩
end
end Go.Proofs.Ytfpdeoicalofdaa
