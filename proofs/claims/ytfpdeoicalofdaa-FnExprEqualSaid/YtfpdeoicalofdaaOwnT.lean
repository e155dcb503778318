/-
  Lists of expressions of one's own: a row of nodes, each with operands in memory of its own; one more node.
-/
import Derived.Test.YtfpdeoicalofdaaProg
import Derived.Test.YtfpdeoicalofdaaTree
import Derived.Test.YtfpdeoicalofdaaApp
import Derived.Test.YtfpdeoicalofdaaStepK
import Derived.Deep.Onto
import Derived.Test.YtfpdeoicalofdaaPlA
namespace Go.Proofs.Ytfpdeoicalofdaa
set_option linter.unusedVariables false
set_option linter.unusedSimpArgs false
open Go.RowKit

namespace Fo
/-- one more node behind the others -/
def snoc : Fo → Int → ByteArray → Fo → Fo
  | .nil, k, s, ks => .node k s ks .nil
  | .node k' s' ks' r, k, s, ks => .node k' s' ks' (r.snoc k s ks)
theorem snoc_len : ∀ (f : Fo) (k : Int) (s : ByteArray) (ks : Fo), (f.snoc k s ks).len = f.len + 1
  | .nil, _, _, _ => rfl
  | .node _ _ _ r, k, s, ks => by simp only [snoc, len, snoc_len r]
theorem snoc_size : ∀ (f : Fo) (k : Int) (s : ByteArray) (ks : Fo), (f.snoc k s ks).size = f.size + ks.size + 1
  | .nil, _, _, _ => by simp [snoc, size]
  | .node _ _ _ r, k, s, ks => by simp only [snoc, size, snoc_size r]; omega
theorem snoc_fits : ∀ {f : Fo} {k : Int} {s : ByteArray} {ks : Fo}, f.Fits → s.size ≤ maxLen → ks.len ≤ maxLen → ks.Fits → (f.snoc k s ks).Fits
  | .nil, _, _, _, _, h1, h2, h3 => ⟨h1, h2, h3, trivial⟩
  | .node _ _ _ r, _, _, _, h, h1, h2, h3 => ⟨h.1, h.2.1, h.2.2.1, snoc_fits (f := r) h.2.2.2 h1 h2 h3⟩
theorem snoc_drop : ∀ {f : Fo} {j : Nat} {k : Int} {s : ByteArray} {ks : Fo}, f.get j = some (k, s, ks) → ∀ g : Fo, (∀ i, i < j → g.get i = f.get i) → g.len = j → ∀ i, i < j + 1 → (g.snoc k s ks).get i = f.get i := by
  have key : ∀ (g : Fo) (k : Int) (s : ByteArray) (ks : Fo), (∀ i, i < g.len → (g.snoc k s ks).get i = g.get i) ∧ (g.snoc k s ks).get g.len = some (k, s, ks) := by
    intro g
    induction g with
    | nil => exact fun k s ks => ⟨fun i h => absurd h (by simp [len]), rfl⟩
    | node k' s' ks' r _ ih =>
      refine fun k s ks => ⟨fun i h => ?_, (ih k s ks).2⟩
      cases i with
      | zero => rfl
      | succ i => exact (ih k s ks).1 i (by simp only [len] at h; omega)
  intro f j k s ks hg g h1 h2 i hi
  subst h2
  by_cases e : i = g.len
  · subst e
    rw [(key g k s ks).2, hg]
  · rw [(key g k s ks).1 i (by omega)]
    exact h1 i (by omega)
end Fo

/-- the cells of a row of nodes; og: the block of the row -/
def RowT (w : World) (L B : Nat) (og : Option Nat) : Fo → List Value → Prop
  | .nil, xs => xs = []
  | .node k s ks r, xs => (∃ a n c ys, xs = .int .i64 k :: .string s :: .slice a n c :: ys ∧ n ≤ c ∧ (∃ L1 B1, KP w L1 B1 ks a n ∧ L ≤ L1 ∧ B1 ≤ B ∧ ∀ g, og = some g → g < L1 ∨ B1 ≤ g) ∧ RowT w L B og r ys)
section
variable {w w' : World} {L L' B B' b off : Nat} {og og' : Option Nat} {k : Int} {s : ByteArray} {ks : Fo}
theorem rowT_len : ∀ {f : Fo} {xs : List Value}, RowT w L B og f xs → xs.length = f.len * 3
  | .nil, _, h => by simp only [RowT] at h; subst h; rfl
  | .node k s ks r, _, ⟨a, n, c, ys, e, _, _, h⟩ => by subst e; have := rowT_len h; simp only [List.length_cons, Fo.len, this]; omega
theorem rowT_keep (hL : L' ≤ L) (hB : B ≤ B') (ho : ∀ g, og' = some g → og = some g ∨ g < L ∨ B ≤ g) (hk : ∀ g : Nat, L ≤ g → g < B → og ≠ some g → w'.heap[g]? = w.heap[g]?) : ∀ {f : Fo} {xs : List Value}, RowT w L B og f xs → RowT w' L' B' og' f xs
  | .nil, _, h => h
  | .node k s ks r, _, ⟨a, n, c, ys, e, hc, ⟨L1, B1, h1, h2, h3, h4⟩, h⟩ =>
    ⟨a, n, c, ys, e, hc, ⟨L1, B1, h1.keep (Nat.le_refl _) (Nat.le_refl _) fun g h5 h6 => hk g (by omega) (by omega) (fun e => by have := h4 _ e; omega), by omega, by omega, fun g hg => by
      rcases ho g hg with h | h | h
      · exact h4 g h
      · exact .inl (by omega)
      · exact .inr (by omega)⟩, rowT_keep hL hB ho hk h⟩
theorem rowT_snoc {a : Option Addr} {n c L1 B1 : Nat} (hc : n ≤ c) (h1 : KP w L1 B1 ks a n) (h2 : L ≤ L1) (h3 : B1 ≤ B) (h4 : ∀ g, og = some g → g < L1 ∨ B1 ≤ g) :
    ∀ {f : Fo} {xs : List Value}, RowT w L B og f xs → RowT w L B og (f.snoc k s ks) (xs ++ [.int .i64 k, .string s, .slice a n c])
  | .nil, _, h => by simp only [RowT] at h; subst h; exact ⟨a, n, c, [], rfl, hc, ⟨L1, B1, h1, h2, h3, h4⟩, rfl⟩
  | .node k s ks r, _, ⟨a', n', c', ys, e, hc', h5, h⟩ => by subst e; exact ⟨a', n', c', _, rfl, hc', h5, rowT_snoc hc h1 h2 h3 h4 h⟩
theorem rowT_seg : ∀ {f : Fo} {xs : List Value} {off : Nat}, RowT w L B og f xs → (∀ j u, xs[j]? = some u → w.cell? ⟨b, off + j, none⟩ = some u) → Seg w L B f b off
  | .nil, _, _, _, _ => trivial
  | .node k s ks r, _, off, ⟨a, n, c, ys, e, hc, ⟨L1, B1, h1, h2, h3, h4⟩, h⟩, hcell => by
    subst e
    refine seg_node.2 ⟨⟨hcell 0 _ rfl, hcell 1 _ rfl, a, n, c, hcell 2 _ rfl, hc, (h1.more h2 h3).1⟩, rowT_seg h fun j u hu => ?_⟩
    have := hcell (j + 3) u (by simpa using hu)
    rwa [show off + 3 + j = off + (j + 3) from by omega]
end

section
variable {w : World} {L B b off : Nat} {og : Option Nat}
theorem rowT_pl : ∀ {f : Fo} {xs : List Value} {off : Nat}, RowT w L B og f xs → (∀ j u, xs[j]? = some u → w.cell? ⟨b, off + j, none⟩ = some u) → PlS w L B f b off
  | .nil, _, _, _, _ => trivial
  | .node k s ks r, _, off, ⟨a, n, c, ys, e, hc, ⟨L1, B1, h1, h2, h3, h4⟩, h⟩, hcell => by
    subst e
    refine ⟨⟨a, n, c, hcell 2 _ rfl, (h1.more h2 h3).2.1, (h1.more h2 h3).2.2⟩, rowT_pl h fun j u hu => ?_⟩
    have := hcell (j + 3) u (by simpa using hu)
    rwa [show off + 3 + j = off + (j + 3) from by omega]
end
/-- a list of expressions of one's own -/
def OwnT (w : World) (base : Nat) (v : Value) (f : Fo) : Prop := ∃ xs, w.ownsRow base 25 3 v f.len xs ∧ RowT w base w.heap.size v.ownBlock f xs
theorem exprs_under : Try.prog.underlying 23 = some (.slice 25) := by kernel_rfl
theorem expr_info3 : (Try.prog.info? 25).map (fun i => (i.zero, i.size, i.bytes)) = some (some (.agg #[.int .i64 0, .string .empty, .slice none 0 0]), 3, 48) := by kernel_rfl
section
variable {w w' : World} {base base' : Nat} {v v' : Value} {f : Fo} {r : Option Nat}
theorem OwnT.nil (w : World) (base : Nat) : OwnT w base (.slice none 0 0) .nil := ⟨[], World.ownsRow_nil _ _ _ _, rfl⟩
theorem OwnT.lt (h : OwnT w base v f) : ∀ g, v.ownBlock = some g → base ≤ g ∧ g < w.heap.size := by
  obtain ⟨xs, h1, _⟩ := h
  exact World.ownsRow.lt h1
theorem OwnT.grown (h : OwnT w base v f) (hg : w.grownBy w' r) (hr : ∀ g, r = some g → g < base ∨ w.heap.size ≤ g) : OwnT w' base v f := by
  obtain ⟨xs, h1, h2⟩ := h
  refine ⟨xs, World.ownsRow.kept h1 hg ?_, rowT_keep (Nat.le_refl _) hg.size (fun g hg => .inl hg) (fun g h3 h4 _ => hg.block g h4 (fun e => by have := hr _ e.symm; omega)) h2⟩
  cases hv : v.ownBlock with
  | none => exact .inl rfl
  | some g => exact .inr fun e => by have := World.ownsRow.lt h1 g hv; have := hr g e.symm; omega
theorem OwnT.step {B R n c p q k : Nat} {a : Option Addr} (h : OwnT w base v f) (hR : R < base) (hs : Step w w' B R a n c p q k) : OwnT w' base v f := h.grown hs.grown fun g e => by injection e with e; omega
theorem OwnT.alloc (h : OwnT w base v f) (o : Obj) : OwnT (w.alloc o) base v f := h.grown (World.grownBy_alloc w o none) fun g e => by cases e
theorem OwnT.below (h : OwnT w base v f) (hb : Below w.heap.size w w') : OwnT w' base v f := h.grown (r := none) ⟨hb.os, hb.tape, hb.output, hb.size, fun i hi _ => hb.block i hi⟩ fun g e => by cases e
theorem OwnT.setCell (h : OwnT w base v f) {g : Nat} (hg : g < base) (i : Nat) (u : Value) : OwnT (w.setCell ⟨g, i, none⟩ u) base v f :=
  h.grown (r := some g) (grown_set (World.grownBy.refl w _) (.inl rfl) u) fun j e => by injection e with e; omega
theorem OwnT.drewN (h : OwnT w base v f) (m : Nat) : OwnT (w.drewN m) base v f := h.grown (grown_drewN (World.grownBy.refl w none) m) fun j e => by cases e
theorem OwnT.mono (h : OwnT w base v f) (hb : base' ≤ base) : OwnT w base' v f := by
  obtain ⟨xs, h1, h2⟩ := h
  exact ⟨xs, World.ownsRow.mono h1 hb, rowT_keep hb (Nat.le_refl _) (fun g hg => .inl hg) (fun _ _ _ _ => rfl) h2⟩
/-- as a slice that can be read -/
theorem OwnT.form (h : OwnT w base v f) : ∃ a c, v = .slice a f.len c ∧ f.len ≤ c ∧ c ≤ maxLen ∧ KP w base w.heap.size f a f.len := by
  obtain ⟨xs, h1, h2⟩ := h
  rcases h1.2 with ⟨rfl, h0⟩ | ⟨g, cap, cur, rfl, hb, hg, hc, hm, _⟩
  · exact ⟨none, 0, by rw [h0], by omega, by simp [maxLen], ⟨rfl, fun h => absurd h (by omega)⟩, rfl, fun h => absurd h (by omega)⟩
  · have hcell : ∀ j u, xs[j]? = some u → w.cell? ⟨g, 0 + j, none⟩ = some u := fun j u hu => by
      have := World.ownsRow.cells h1 (g := g) rfl j u hu
      rwa [add_none] at this
    exact ⟨_, cap, rfl, hc, hm, ⟨rfl, fun _ => ⟨g, 0, rfl, hb, blk_lt hg, rowT_seg h2 hcell⟩⟩, rfl, fun _ => ⟨g, 0, rfl, hb, blk_lt hg, ⟨_, _, hg⟩, rowT_pl h2 hcell⟩⟩
/-- one more node -/
theorem OwnT.snoc {k : Int} {s : ByteArray} {ks : Fo} {a : Option Addr} {n c L1 B1 : Nat} {xs : List Value} (h2 : RowT w base w.heap.size v.ownBlock f xs) (hown : w'.ownsRow base 25 3 v' (f.len + 1) (xs ++ [.int .i64 k, .string s, .slice a n c]))
    (hg : w.grownBy w' v.ownBlock) (ho : v'.ownBlock = v.ownBlock ∨ ∀ g, v'.ownBlock = some g → w.heap.size ≤ g) (hc : n ≤ c) (hk : KP w L1 B1 ks a n) (hL : base ≤ L1) (hB : B1 ≤ w.heap.size) (hown1 : ∀ g, v.ownBlock = some g → g < L1 ∨ B1 ≤ g) : OwnT w' base v' (f.snoc k s ks) := by
  refine ⟨_, by rw [Fo.snoc_len]; exact hown, ?_⟩
  have h3 := rowT_snoc (k := k) (s := s) hc hk hL hB hown1 h2
  refine rowT_keep (Nat.le_refl _) hg.size (fun g e => ?_) (fun g h4 h5 h6 => hg.block g h5 (fun e => h6 e.symm)) h3
  rcases ho with ho | ho
  · exact .inl (ho ▸ e)
  · exact .inr (.inr (ho g e))
end
theorem wpList_append_node {w : World} {ops : Array Oper} {rest : List Oper} {o : Oper} {a : Act} {Q : Exit → Act → World → Prop} (hgd : o.guard = none) (s x : Operand)
    (ho : o.op = .call { callee := .builtin .append, args := #[s, x], argTypes := #[23, 23] })
    (base : Nat) (v : Value) (f : Fo) (hs : a.eval s = v) (hown : OwnT w base v f) (g c1 : Nat) (hx : a.eval x = .slice (some ⟨g, 0, none⟩) 1 c1)
    (k : Int) (t : ByteArray) (ks : Fo) (ad : Option Addr) (n c L1 B1 : Nat) {T : TypeId} (hbx : w.heap[g]? = some (.cells #[.int .i64 k, .string t, .slice ad n c] T (0, 0))) (hc : n ≤ c) (hk : KP w L1 B1 ks ad n) (hL : base ≤ L1) (hB : B1 ≤ w.heap.size) (hown1 : ∀ g, v.ownBlock = some g → g < L1 ∨ B1 ≤ g)
    (h63 : f.len ≤ 1000000000) (hbase : base ≤ w.heap.size)
    (h : ∀ v' w', OwnT w' base v' (f.snoc k t ks) → w.grownBy w' v.ownBlock → (v'.ownBlock = v.ownBlock ∨ ∀ g, v'.ownBlock = some g → w.heap.size ≤ g) → wpList Try.prog ops Q rest (a.put o.dst v') w') : wpList Try.prog ops Q (o :: rest) a w := by
  obtain ⟨i, hi, hz0, hz1, hz2⟩ := info_parts expr_info3
  obtain ⟨xs, h1, h2⟩ := hown
  refine wpList_append_at hgd s x 23 ho base 25 i _ 3 48 exprs_under hi hz0 hz1 hz2 rfl (by decide) v f.len xs hs h1 ⟨g, 0, none⟩ 1 c1 [.int .i64 k, .string t, .slice ad n c] hx rfl ?_ (by simp [Value.oneCell']) (by simp only [maxLen]; omega) (by omega) hbase fun v' w' h3 h4 h5 => h v' w' (OwnT.snoc h2 h3 h4 h5 hc hk hL hB hown1) h4 h5
  intro j u hu
  rw [add_none, cell_of_row _ _ _ _ _ _ hbx]
  simpa using hu
theorem OwnT.some {w : World} {base : Nat} {v : Value} {f : Fo} (h : OwnT w base v f) (hn : 0 < f.len) : ∃ g cap, v = .slice (some ⟨g, 0, none⟩) f.len cap ∧ base ≤ g ∧ g < w.heap.size := by
  obtain ⟨xs, h1, _⟩ := h
  exact World.ownsRow.form h1 hn
/-- one more node, at a step of a region that draws -/
theorem step_append_node {w : World} {ops : Array Oper} {o : Oper} {a : Act} {K : Act → World → Prop} {Q : Exit → Act → World → Prop} {E : Prop} (hgd : o.guard = none) (s x : Operand)
    (ho : o.op = .call { callee := .builtin .append, args := #[s, x], argTypes := #[23, 23] })
    (base : Nat) (v : Value) (f : Fo) (hs : a.eval s = v) (hown : OwnT w base v f) (g c1 : Nat) (hx : a.eval x = .slice (some ⟨g, 0, none⟩) 1 c1)
    (k : Int) (t : ByteArray) (ks : Fo) (ad : Option Addr) (n c L1 B1 : Nat) {T : TypeId} (hbx : w.heap[g]? = some (.cells #[.int .i64 k, .string t, .slice ad n c] T (0, 0))) (hc : n ≤ c) (hk : KP w L1 B1 ks ad n) (hL : base ≤ L1) (hB : B1 ≤ w.heap.size) (hown1 : ∀ g, v.ownBlock = some g → g < L1 ∨ B1 ≤ g)
    (h63 : f.len ≤ 1000000000) (hbase : base ≤ w.heap.size)
    (h : ∀ g cap w', OwnT w' base (.slice (some ⟨g, 0, none⟩) (f.len + 1) cap) (f.snoc k t ks) → w.grownBy w' v.ownBlock → g < w'.heap.size → base ≤ g → K (a.put o.dst (.slice (some ⟨g, 0, none⟩) (f.len + 1) cap)) w') :
    if Region.wanted o (yielded ops a.tmps) = true then Oper.wp Try.prog o a w K Q else E := by
  have hw : Region.wanted o (yielded ops a.tmps) = true := by simp [Region.wanted, hgd]
  rw [if_pos hw]
  obtain ⟨i, hi, hz0, hz1, hz2⟩ := info_parts expr_info3
  obtain ⟨xs, h1, h2⟩ := hown
  refine wp_append_at s x 23 ho base 25 i _ 3 48 exprs_under hi hz0 hz1 hz2 rfl (by decide) v f.len xs hs h1 ⟨g, 0, none⟩ 1 c1 [.int .i64 k, .string t, .slice ad n c] hx rfl ?_ (by simp [Value.oneCell']) (by simp only [maxLen]; omega) (by omega) hbase fun v' w' h3 h4 h5 => ?_
  · intro j u hu
    rw [add_none, cell_of_row _ _ _ _ _ _ hbx]
    simpa using hu
  · have h6 := OwnT.snoc h2 h3 h4 h5 hc hk hL hB hown1
    obtain ⟨g', cap', rfl, h7, h8⟩ := h6.some (by rw [Fo.snoc_len]; omega)
    rw [Fo.snoc_len] at h6 ⊢
    exact h g' cap' w' h6 h4 h8 h7
end Go.Proofs.Ytfpdeoicalofdaa
