/-
  The early texts of this proof in one: plain words, lists in memory, and the contracts of the small functions.
-/
import Derived.Test.YtceiafncpimihaaGreatGone
import Derived.Laws.AppendOwnNone
import Derived.Deep.RegionHeld3
import Derived.RangeFuncBox
import Derived.Test.YtceiafncpimihaaGreatProg
import Derived.Shelf.Strings.Search1
import Derived.Lib.IndexLaws
import Derived.Lib.Walk
import Derived.Lib.Strings
import Derived.Lib.Slices
import Derived.Lib.Bytealg
import Derived.Shelf.SlIter.Nil
import Derived.Shelf.SortM.Plain
import Derived.Shelf.SortM.SortNone
import Derived.Maps.OwnSet
import Derived.Maps.StringElems
import Derived.LaidEqlPtr
import Derived.WideKeyRuns
import Derived.Laws.StructEq
import Derived.Deep.LoopGhost
import Derived.BigQuiet
import Derived.Deep.Onto
import Derived.WideMake
import Derived.Deep.RegionLaw
import Derived.Deep.QuietTactic
import Derived.KernelRfl
import Derived.Deep.Slices
import Derived.Deep.Fields
import Derived.ChangeSame
import Derived.OpenShut
import Derived.Lib.SmallJoins

namespace Go.Proofs.YtceiafncpimihaaGreat
set_option linter.unusedVariables false
set_option linter.unusedSimpArgs false
open Go.RowKit

/-- trees in rows that share no block lie in plain blocks -/
theorem RowC.pln {w : World} {b n : Nat} (h : RowC w b n) : Pln w b := let ⟨cs, h1, _⟩ := h; ⟨cs, _, h1⟩
theorem plS_sep {w : World} {L B : Nat} : ∀ {f bk : Fo} {b j : Nat}, f.len = bk.len → Seg w L B f b (j * 3) → Sep w bk b j → PlS w L B f b (j * 3)
  | .nil, _, _, _, _, _, _ => trivial
  | .node _ _ _ _, .nil, _, _, hl, _, _ => absurd hl (by simp [Fo.len])
  | .node k s ks r, .node k' s' ks' r', b, j, hl, ⟨h1, h2, ⟨a, n, c, h3, h4, h5, h6⟩, h7⟩, ⟨⟨a', c', h8, h9⟩, h11⟩ => by
    rw [h3] at h8
    cases h8
    refine ⟨⟨a, _, c, h3, h4, fun hn => ?_⟩, ?_⟩
    · obtain ⟨b1, o1, e1, q1, q2, hs⟩ := h6 hn
      obtain ⟨e2, hr, hk⟩ := h9 hn
      rw [e1] at e2
      cases e2
      exact ⟨_, 0, e1, q1, q2, hr.pln, by have := plS_sep (f := ks) (bk := ks') (j := 0) h4 (by simpa using hs) hk; simpa using this⟩
    · have := plS_sep (f := r) (bk := r') (j := j + 1) (by simp only [Fo.len] at hl; omega) (by rw [show (j + 1) * 3 = j * 3 + 3 from by omega]; exact h7) h11
      rwa [show (j + 1) * 3 = j * 3 + 3 from by omega] at this
theorem KA.pl {w : World} {L B g n : Nat} {f bk : Fo} {a : Option Addr} (h : KA w L B f a n) (hs : SepA w bk g a n) : KP w L B f a n := by
  refine ⟨h, h.1, fun hn => ?_⟩
  obtain ⟨b1, o1, e1, q1, q2, h1⟩ := h.2 hn
  obtain ⟨e2, hr, hk⟩ := hs.2 hn
  rw [e1] at e2
  cases e2
  exact ⟨_, 0, e1, q1, q2, hr.pln, by have := plS_sep (f := f) (bk := bk) (j := 0) (by rw [h.1, hs.1]) (by simpa using h1) hk; simpa using this⟩
/-- the cells of a row of nodes whose operands have rows of their own -/
def RowB (w : World) : Fo → List Value → Prop
  | .nil, xs => xs = []
  | .node k _ ks r, xs => ∃ x y a c ys, xs = x :: y :: .slice a ks.len c :: ys ∧ SepA w ks k.toNat a ks.len ∧ RowB w r ys
section
variable {w w' : World} {b g : Nat} {bk ks : Fo} {a : Option Addr}
theorem rowB_keep : ∀ {bk : Fo} {xs : List Value}, (∀ x, x ∈ bk.blks → x < w.heap.size → w'.heap[x]? = w.heap[x]?) → RowB w bk xs → RowB w' bk xs
  | .nil, _, _, h => h
  | .node k s ks r, _, hk, ⟨x, y, a, c, ys, e, h1, h2⟩ => ⟨x, y, a, c, ys, e, h1.keep fun x hx => hk x (List.mem_append_left _ hx), rowB_keep (fun x hx => hk x (List.mem_append_right _ hx)) h2⟩
theorem rowB_snoc {x y : Value} {c : Nat} (h1 : SepA w ks g a ks.len) : ∀ {bk : Fo} {xs : List Value}, RowB w bk xs → RowB w (bk.snoc (g : Int) .empty ks) (xs ++ [x, y, .slice a ks.len c])
  | .nil, _, h => by simp only [RowB] at h; subst h; exact ⟨x, y, a, c, [], rfl, by simpa using h1, rfl⟩
  | .node k s ks' r, _, ⟨x', y', a', c', ys, e, h2, h3⟩ => by subst e; exact ⟨x', y', a', c', _, rfl, h2, rowB_snoc h1 h3⟩
theorem rowB_sep : ∀ {bk : Fo} {xs : List Value} {j0 : Nat}, RowB w bk xs → (∀ j u, xs[j]? = some u → w.cell? ⟨b, j0 * 3 + j, none⟩ = some u) → Sep w bk b j0
  | .nil, _, _, _, _ => trivial
  | .node k s ks r, _, j0, ⟨x, y, a, c, ys, e, h1, h2⟩, hcell => by
    subst e
    refine ⟨⟨a, c, hcell 2 _ rfl, h1.2⟩, rowB_sep h2 fun j u hu => ?_⟩
    have := hcell (j + 3) u (by simpa using hu)
    rwa [show (j0 + 1) * 3 + j = j0 * 3 + (j + 3) from by omega]
theorem blks_snoc (g : Nat) (s : ByteArray) (ks : Fo) : ∀ bk : Fo, (bk.snoc (g : Int) s ks).blks = bk.blks ++ blksA g ks
  | .nil => by simp [Fo.snoc, Fo.blks, blksA]
  | .node k' s' ks' r => by simp only [Fo.snoc, Fo.blks, blks_snoc g s ks r, List.append_assoc]
end
/-- a list of expressions of one's own whose rows share no block -/
def OwnB (w : World) (base : Nat) (v : Value) (f bk : Fo) : Prop := ∃ xs, w.ownsRow base 43 3 v f.len xs ∧ RowT w base w.heap.size v.ownBlock f xs ∧ RowB w bk xs ∧ bk.len = f.len ∧ bk.size = f.size ∧ bk.blks.Nodup ∧ ∀ x ∈ bk.blks, base ≤ x ∧ x < w.heap.size ∧ v.ownBlock ≠ some x
section
variable {w w' : World} {base base' : Nat} {v v' : Value} {f bk : Fo} {r : Option Nat}
theorem OwnB.own (h : OwnB w base v f bk) : OwnT w base v f := by
  obtain ⟨xs, h1, h2, _⟩ := h
  exact ⟨xs, h1, h2⟩
theorem OwnB.nil (w : World) (base : Nat) : OwnB w base (.slice none 0 0) .nil .nil := ⟨[], World.ownsRow_nil _ _ _ _, rfl, rfl, rfl, rfl, List.nodup_nil, fun _ h => by simp [Fo.blks] at h⟩
theorem OwnB.grown (h : OwnB w base v f bk) (hg : w.grownBy w' r) (hr : ∀ g, r = some g → g < base ∨ w.heap.size ≤ g) : OwnB w' base v f bk := by
  obtain ⟨xs, h1, h2, h3, h4, h5, h6, h7⟩ := h
  refine ⟨xs, World.ownsRow.kept h1 hg ?_, rowT_keep (Nat.le_refl _) hg.size (fun g hg => .inl hg) (fun p h3 h4 _ => hg.block p h4 (fun e => by have := hr _ e.symm; omega)) h2,
    rowB_keep (fun x hx hxs => hg.block x hxs (fun e => by have := hr _ e.symm; have := h7 x hx; omega)) h3, h4, h5, h6, fun x hx => ⟨(h7 x hx).1, Nat.lt_of_lt_of_le (h7 x hx).2.1 hg.size, (h7 x hx).2.2⟩⟩
  cases hv : v.ownBlock with
  | none => exact .inl rfl
  | some g => exact .inr fun e => by have := World.ownsRow.lt h1 g hv; have := hr g e.symm; omega
theorem OwnB.alloc (h : OwnB w base v f bk) (o : Obj) : OwnB (w.alloc o) base v f bk := h.grown (World.grownBy_alloc w o none) fun g e => by cases e
theorem OwnB.below (h : OwnB w base v f bk) (hb : Below w.heap.size w w') : OwnB w' base v f bk := h.grown (r := none) ⟨hb.os, hb.tape, hb.output, hb.size, fun i hi _ => hb.block i hi⟩ fun g e => by cases e
theorem OwnB.setCell (h : OwnB w base v f bk) {g : Nat} (hg : g < base) (i : Nat) (u : Value) : OwnB (w.setCell ⟨g, i, none⟩ u) base v f bk :=
  h.grown (r := some g) (grown_set (World.grownBy.refl w _) (.inl rfl) u) fun j e => by injection e with e; omega
theorem OwnB.mono (h : OwnB w base v f bk) (hb : base' ≤ base) : OwnB w base' v f bk := by
  obtain ⟨xs, h1, h2, h3, h4, h5, h6, h7⟩ := h
  exact ⟨xs, World.ownsRow.mono h1 hb, rowT_keep hb (Nat.le_refl _) (fun g hg => .inl hg) (fun _ _ _ _ => rfl) h2, h3, h4, h5, h6, fun x hx => ⟨Nat.le_trans hb (h7 x hx).1, (h7 x hx).2⟩⟩
theorem OwnB.bound (h : OwnB w base v f bk) : ∀ x ∈ bk.blks, x < w.heap.size := by
  obtain ⟨xs, h1, h2, h3, h4, h5, h6, h7⟩ := h
  exact fun x hx => (h7 x hx).2.1
/-- what a copied list is told of -/
def CopX (w : World) (base : Nat) (f : Fo) (a : Option Addr) (c : Nat) (bk : Fo) (g : Nat) : Prop := f.len ≤ c ∧ c ≤ maxLen ∧ KA w base w.heap.size f a f.len ∧ SepA w bk g a f.len ∧ (blksA g bk).Nodup ∧ (∀ x ∈ blksA g bk, base ≤ x ∧ x < w.heap.size) ∧ bk.size = f.size
theorem CopX.setCell {w : World} {base c g g' : Nat} {f bk : Fo} {a : Option Addr} (h : CopX w base f a c bk g) (hg : g' < base) (i : Nat) (u : Value) : CopX (w.setCell ⟨g', i, none⟩ u) base f a c bk g := by
  obtain ⟨h1, h2, h3, h4, h5, h6, h7⟩ := h
  have hsz : (w.setCell ⟨g', i, none⟩ u).heap.size = w.heap.size := by simp [World.setCell]
  refine ⟨h1, h2, (h3.setCell (.inl hg) i u).more (Nat.le_refl _) (by omega), h4.keep fun x hx _ => Below.heap_setCell w _ _ x (by have := h6 x hx; show x ≠ g'; omega), h5, fun x hx => ⟨(h6 x hx).1, by rw [hsz]; exact (h6 x hx).2⟩, h7⟩
theorem CopX.mono {w : World} {base base' c g : Nat} {f bk : Fo} {a : Option Addr} (h : CopX w base f a c bk g) (hb : base' ≤ base) : CopX w base' f a c bk g := by
  obtain ⟨h1, h2, h3, h4, h5, h6, h7⟩ := h
  exact ⟨h1, h2, h3.more hb (Nat.le_refl _), h4, h5, fun x hx => ⟨Nat.le_trans hb (h6 x hx).1, (h6 x hx).2⟩, h7⟩
theorem OwnB.form (h : OwnB w base v f bk) : ∃ a c g, v = .slice a f.len c ∧ CopX w base f a c bk g := by
  obtain ⟨a, c, rfl, h8, h9, h10, _⟩ := h.own.form
  obtain ⟨xs, h1, h2, h3, h4, h5, h6, h7⟩ := h
  rcases h1.2 with ⟨e, h0⟩ | ⟨g, cap, cur, e, hb, hg, hc, hm, hcs, _⟩
  · refine ⟨a, c, 0, rfl, h8, h9, h10, ⟨h4, fun hn => absurd hn (by omega)⟩, ?_, ?_, h5⟩
    · unfold blksA; rw [if_pos (by omega)]; exact List.nodup_nil
    · unfold blksA; rw [if_pos (by omega)]; intro x hx; simp at hx
  · simp only [Value.slice.injEq] at e
    obtain ⟨rfl, -, rfl⟩ := e
    refine ⟨_, c, g, rfl, h8, h9, h10, ⟨h4, fun hn => ⟨rfl, ⟨cur, hg, by rw [hcs]; exact Nat.mul_le_mul_right _ hc⟩, rowB_sep h3 fun j u hu => ?_⟩⟩, ?_, ?_, h5⟩
    · have := World.ownsRow.cells h1 (g := g) rfl j u hu
      rw [add_none] at this
      rwa [show 0 * 3 + j = 0 + j from by omega]
    · unfold blksA
      by_cases h0 : bk.len = 0
      · rw [if_pos h0]; exact List.nodup_nil
      · rw [if_neg h0]; exact List.nodup_cons.2 ⟨fun hx => (h7 g hx).2.2 rfl, h6⟩
    · intro x hx
      unfold blksA at hx
      by_cases h0 : bk.len = 0
      · rw [if_pos h0] at hx; simp at hx
      · rw [if_neg h0] at hx
        rcases List.mem_cons.1 hx with rfl | hx
        · exact ⟨hb, blk_lt hg⟩
        · exact ⟨(h7 x hx).1, (h7 x hx).2.1⟩
end
/-- one more node -/
theorem wp_append_bk {w : World} {o : Oper} {a : Act} {K : Act → World → Prop} {Q : Exit → Act → World → Prop} (s x : Operand)
    (ho : o.op = .call { callee := .builtin .append, args := #[s, x], argTypes := #[41, 41] })
    (base : Nat) (v : Value) (f bk : Fo) (hs : a.eval s = v) (hown : OwnB w base v f bk) (g c1 : Nat) (hx : a.eval x = .slice (some ⟨g, 0, none⟩) 1 c1)
    (k : Int) (t : ByteArray) (ks : Fo) (ad : Option Addr) (c L1 : Nat) (bk1 : Fo) (g1 : Nat) {T : TypeId} (hbx : w.heap[g]? = some (.cells #[.int .i64 k, .string t, .slice ad ks.len c] T (0, 0))) (hc : ks.len ≤ c) (hk : KA w L1 w.heap.size ks ad ks.len) (hL : base ≤ L1) (hown1 : ∀ g, v.ownBlock = some g → g < L1) (hown2 : ∀ x ∈ bk.blks, x < L1)
    (hsep : SepA w bk1 g1 ad ks.len) (hnd : (blksA g1 bk1).Nodup) (hin : ∀ x ∈ blksA g1 bk1, L1 ≤ x ∧ x < w.heap.size) (hz : bk1.size = ks.size)
    (h63 : f.len ≤ 1000000000) (hbase : base ≤ w.heap.size)
    (h : ∀ g cap w', OwnB w' base (.slice (some ⟨g, 0, none⟩) (f.len + 1) cap) (f.snoc k t ks) (bk.snoc (g1 : Int) .empty bk1) → w.grownBy w' v.ownBlock → g < w'.heap.size → base ≤ g → K (a.put o.dst (.slice (some ⟨g, 0, none⟩) (f.len + 1) cap)) w') :
    Oper.wp Tryz.prog o a w K Q := by
  obtain ⟨i, hi, hz0, hz1, hz2⟩ := info_parts expr_info3
  obtain ⟨xs, h1, h2, h3, h4, h5, h6, h7⟩ := hown
  refine wp_append_at s x 41 ho base 43 i _ 3 48 exprs_under hi hz0 hz1 hz2 rfl (by decide) v f.len xs hs h1 ⟨g, 0, none⟩ 1 c1 [.int .i64 k, .string t, .slice ad ks.len c] hx rfl ?_ (by simp [Value.oneCell']) (by simp only [maxLen]; omega) (by omega) hbase fun v' w' h8 h9 h10 => ?_
  · intro j u hu
    rw [add_none, cell_of_row _ _ _ _ _ _ hbx]
    simpa using hu
  · have h11 : RowT w' base w'.heap.size v'.ownBlock (f.snoc k t ks) (xs ++ [.int .i64 k, .string t, .slice ad ks.len c]) := by
      refine rowT_keep (Nat.le_refl _) h9.size (fun g e => ?_) (fun p h4 h5 h6 => h9.block p h5 (fun e => h6 e.symm)) (rowT_snoc (k := k) (s := t) hc (hk.pl hsep) hL (Nat.le_refl _) (fun g hg => .inl (hown1 g hg)) h2)
      rcases h10 with ho | ho
      · exact .inl (ho ▸ e)
      · exact .inr (.inr (ho g e))
    have h12 : RowB w' (bk.snoc (g1 : Int) .empty bk1) (xs ++ [.int .i64 k, .string t, .slice ad ks.len c]) := by
      have h13 := rowB_snoc (x := .int .i64 k) (y := .string t) (c := c) (g := g1) (a := ad) (ks := bk1) (by rw [hsep.1]; exact hsep) h3
      rw [hsep.1] at h13
      refine rowB_keep (fun x hx hxs => h9.block x hxs (fun e => ?_)) h13
      rw [blks_snoc] at hx
      rcases List.mem_append.1 hx with hx | hx
      · exact (h7 x hx).2.2 e.symm
      · have := hin x hx; have := hown1 x e.symm; omega
    have h14 : w'.ownsRow base 43 3 v' (f.snoc k t ks).len (xs ++ [.int .i64 k, .string t, .slice ad ks.len c]) := by rw [Fo.snoc_len]; exact h8
    obtain ⟨g', cap', rfl, h15, h16⟩ := World.ownsRow.form h8 (by omega)
    refine h g' cap' w' ⟨_, h14, h11, h12, by rw [Fo.snoc_len, Fo.snoc_len, h4], by rw [Fo.snoc_size, Fo.snoc_size, h5, hz], ?_, fun x hx => ?_⟩ h9 h16 h15
    · rw [blks_snoc]
      exact List.nodup_append.2 ⟨h6, hnd, fun x hx y hy e => by have := hown2 x hx; have := hin y hy; omega⟩
    · rw [blks_snoc] at hx
      have hxs : base ≤ x ∧ x < w.heap.size ∧ v.ownBlock ≠ some x := by
        rcases List.mem_append.1 hx with hx | hx
        · exact h7 x hx
        · have h17 := hin x hx
          exact ⟨by omega, h17.2, fun e => by have := hown1 x e; omega⟩
      refine ⟨hxs.1, Nat.lt_of_lt_of_le hxs.2.1 h9.size, fun e => ?_⟩
      rcases h10 with ho | ho
      · exact hxs.2.2 (ho ▸ e)
      · have := ho x e; omega

theorem wpList_append_bk {w : World} {ops : Array Oper} {rest : List Oper} {o : Oper} {a : Act} {Q : Exit → Act → World → Prop} (hgd : o.guard = none) (s x : Operand)
    (ho : o.op = .call { callee := .builtin .append, args := #[s, x], argTypes := #[41, 41] })
    (base : Nat) (v : Value) (f bk : Fo) (hs : a.eval s = v) (hown : OwnB w base v f bk) (g c1 : Nat) (hx : a.eval x = .slice (some ⟨g, 0, none⟩) 1 c1)
    (k : Int) (t : ByteArray) (ks : Fo) (ad : Option Addr) (c L1 : Nat) (bk1 : Fo) (g1 : Nat) {T : TypeId} (hbx : w.heap[g]? = some (.cells #[.int .i64 k, .string t, .slice ad ks.len c] T (0, 0))) (hc : ks.len ≤ c) (hk : KA w L1 w.heap.size ks ad ks.len) (hL : base ≤ L1) (hown1 : ∀ g, v.ownBlock = some g → g < L1) (hown2 : ∀ x ∈ bk.blks, x < L1)
    (hsep : SepA w bk1 g1 ad ks.len) (hnd : (blksA g1 bk1).Nodup) (hin : ∀ x ∈ blksA g1 bk1, L1 ≤ x ∧ x < w.heap.size) (hz : bk1.size = ks.size)
    (h63 : f.len ≤ 1000000000) (hbase : base ≤ w.heap.size)
    (h : ∀ g cap w', OwnB w' base (.slice (some ⟨g, 0, none⟩) (f.len + 1) cap) (f.snoc k t ks) (bk.snoc (g1 : Int) .empty bk1) → w.grownBy w' v.ownBlock → g < w'.heap.size → base ≤ g → wpList Tryz.prog ops Q rest (a.put o.dst (.slice (some ⟨g, 0, none⟩) (f.len + 1) cap)) w') :
    wpList Tryz.prog ops Q (o :: rest) a w :=
  wpList_plain hgd fun _ hK => wp_append_bk s x ho base v f bk hs hown g c1 hx k t ks ad c L1 bk1 g1 hbx hc hk hL hown1 hown2 hsep hnd hin hz h63 hbase fun g cap w' h1 h2 h3 h4 => hK _ _ (h g cap w' h1 h2 h3 h4)
theorem bxE_three {w : World} {g : Nat} {k : Int} {s : ByteArray} {v : Value} {T : TypeId} (h : BxE w g k s v T) : w.cell? ⟨g, 0, none⟩ = some (.int .i64 k) ∧ w.cell? ⟨g, 1, none⟩ = some (.string s) ∧ w.cell? ⟨g, 2, none⟩ = some v := ⟨h.c0, h.c1, h.c2⟩
/-- what copyExpr leaves -/
def CopP (k : Int) (s : ByteArray) (ks : Fo) (w : World) (e : Ending) (w' : World) : Prop := ∃ a c bk g, e = .returned (.agg #[.int .i64 k, .string s, .slice a ks.len c]) ∧ CopX w' w.heap.size ks a c bk g ∧ Below w.heap.size w w'
/-- what copyList leaves -/
def CopL (ks : Fo) (w : World) (e : Ending) (w' : World) : Prop := ∃ a c bk g, e = .returned (.slice a ks.len c) ∧ CopX w' w.heap.size ks a c bk g ∧ Below w.heap.size w w'

set_option maxRecDepth 100000 in
set_option maxHeartbeats 4000000 in
theorem cpl_of (ks : Fo) (hN2 : ks.size ≤ 1048576) (ih : ∀ k' s' ks', Fo.size ks' < ks.size → ∀ (a : Option Addr) (n c : Nat) (w : World), KA w 0 w.heap.size ks' a n → n ≤ c → Calls Tryz.prog 53 #[.agg #[.int .i64 k', .string s', .slice a n c]] w (CopP k' s' ks' w))
    (a : Option Addr) (n c : Nat) (w : World) (hk : KA w 0 w.heap.size ks a n) (hnc : n ≤ c) (fv : Value) (hfv : fv = .func (.func 53) #[] #[]) :
    Calls Tryz.prog 79 #[.slice a n c, fv] w (CopL ks w) := by
  have hn : n ≤ 1048576 := by have := Fo.size_len ks; have := hk.1; omega
  go_enter Tryz.func79, Tryz.ntmps79
  subst hfv
  go_wp2_with fail
  go_loopw [5, 10] (fun v i wr => ∃ (j : Nat) (f bk : Fo), j ≤ n ∧ i = .int .i64 j ∧ f.len = j ∧ (∀ i, i < j → f.get i = ks.get i) ∧ OwnB wr w.heap.size v f bk ∧ Below w.heap.size w wr) (fun _ i _ => n - (intOf i).toNat)
  case atStart => exact ⟨0, .nil, .nil, Nat.zero_le _, rfl, rfl, fun i h => absurd h (by omega), OwnB.nil _ _, Below.refl _ _⟩
  case round =>
    obtain ⟨j, f, bk, hj, rfl, hfl, hget, hown, hB⟩ := hrel
    by_cases hlt : j < n
    · obtain ⟨b, off, k3, s3, ks3, a3, n3, c3, rfl, _, hb3, hg3, hc1, hc2, hc3, hcap3, hk3⟩ := (hk.below hB).get hlt
      have hjj : (j : Int) < (n : Int) := by omega
      have hj0 : (0 : Int) ≤ (j : Int) := by omega
      have hsz3 := Fo.get_size hg3
      have hn3 := hk3.1
      have Hown := Lib.hid hown
      have Hg3 := Lib.hid hg3
      have Hk3 := Lib.hid hk3
      have hbl : b < wr.heap.size := by have := hB.size; omega
      clear hown hg3 hk3
      go_wp2_with fail
      refine (ih k3 s3 ks3 (by omega) a3 n3 c3 _ ((Hk3.out.more (Nat.le_refl _) hB.size).alloc (Nat.le_refl _) _ |>.more (Nat.le_refl _) (by simp)) hcap3).mono ?_
      rintro e w4 ⟨a4, c4, bk4, g4, rfl, ⟨hl4, hm4, hk4, hs4, hnd4, hin4, hz4⟩, hB4⟩
      have hBx := (Below.refl wr.heap.size wr).alloc (Nat.le_refl _) (.cells #[.int .i64 k3, .string s3, .slice a3 n3 c3] 43)
      have B4 := hBx.trans (hB4.mono hBx.size)
      have hs4w := hB4.size
      simp only [World.size_alloc] at hk4 hin4 hs4w
      have Hown4 := Lib.hid (Hown.out.below B4)
      have hlo := Hown.out.own.lt
      have hin := Hown.out.bound
      subst hn3
      clear hc1 hc2 hc3
      go_wp2_with (at_builtin; refine wpList_append_bk rfl _ _ rfl w.heap.size _ f bk rfl (Hown4.out.alloc _) w4.heap.size 1 rfl k3 s3 ks3 a4 c4 (wr.heap.size + 1) bk4 g4 (heap_alloc_new w4 _) hl4 ((hk4.alloc (Nat.le_refl _) _).more (Nat.le_refl _) (by simp)) (by have := hB.size; omega) (fun g hg => by have := (hlo g hg).2; omega) (fun x hx => by have := hin x hx; omega) (hs4.keep fun x _ hx => Below.heap_alloc w4 _ x hx) hnd4 (fun x hx => ⟨(hin4 x hx).1, by have := (hin4 x hx).2; simp; omega⟩) hz4 (by omega) (by have := hB.size; simp; omega) ?_; intro g6 cap6 w6 hown6 hgrow6 hlt6 hbg6)
      have hB6 : Below w.heap.size w w6 := ((hB.trans (B4.mono hB.size)).alloc (by have := hB.size; omega) _).grown hgrow6 (by have := hB.size; simp; omega) (fun g' e => by have := (hlo _ e).1; omega)
      rw [hfl] at hown6
      exact ⟨⟨j + 1, _, _, by omega, by go_num, by rw [Fo.snoc_len]; omega, Fo.snoc_drop Hg3.out f hget hfl, hown6, hB6⟩, by simp [intOf]; omega⟩
    · obtain rfl : f = ks := Fo.ext fun i => by
        by_cases hi : i < j
        · exact hget i hi
        · have h1 : f.get i = none := by
            cases hh : f.get i with
            | none => rfl
            | some x => have := Fo.get_lt hh; omega
          have h2 : ks.get i = none := by
            cases hh : ks.get i with
            | none => rfl
            | some x => have := Fo.get_lt hh; have := hk.1; omega
          rw [h1, h2]
      obtain ⟨av, dv, gv, rfl, hcv⟩ := hown.form
      have hjj : ¬ (j : Int) < (n : Int) := by omega
      have Hcv := Lib.hid hcv
      clear hown hcv
      go_wp2_with fail
      go_ret
      exact ⟨av, dv, bk, gv, by rw [hfl]; rfl, Hcv.out, hB⟩

set_option maxHeartbeats 1000000 in
theorem cpx_of (k : Int) (s : ByteArray) (ks : Fo) (hN2 : ks.size ≤ 1048576) (ih : ∀ k' s' ks', Fo.size ks' < ks.size → ∀ (a : Option Addr) (n c : Nat) (w : World), KA w 0 w.heap.size ks' a n → n ≤ c → Calls Tryz.prog 53 #[.agg #[.int .i64 k', .string s', .slice a n c]] w (CopP k' s' ks' w))
    (a : Option Addr) (n c : Nat) (w : World) (hk : KA w 0 w.heap.size ks a n) (hnc : n ≤ c) :
    Calls Tryz.prog 53 #[.agg #[.int .i64 k, .string s, .slice a n c]] w (CopP k s ks w) := by
  have hB0 := ((Below.refl w.heap.size w).alloc (Nat.le_refl _) (.cells #[.int .i64 k, .string s, .slice a n c] 43)).alloc (by simp) (.cells #[.int .i64 0, .string .empty, .slice none 0 0] 43)
  have hP0 := (BxE.new w k s (.slice a n c) 43).alloc (.cells #[.int .i64 0, .string .empty, .slice none 0 0] 43)
  have hE0 := BxE.new (w.alloc (.cells #[.int .i64 k, .string s, .slice a n c] 43)) 0 .empty (.slice none 0 0) 43
  simp only [World.size_alloc] at hE0
  have hD := (Below.refl ((w.alloc (.cells #[.int .i64 k, .string s, .slice a n c] 43)).alloc (.cells #[.int .i64 0, .string .empty, .slice none 0 0] 43)).heap.size ((w.alloc (.cells #[.int .i64 k, .string s, .slice a n c] 43)).alloc (.cells #[.int .i64 0, .string .empty, .slice none 0 0] 43))).drew
  have hBD := hB0.trans (hD.mono hB0.size)
  have Hl := Lib.hid (cpl_of ks hN2 ih a n c _ (hk.next hBD) hnc _ rfl)
  have hPD := hP0.next hD
  have hED := hE0.next hD
  have HC0 := Lib.hid (And.intro hPD.c0 (And.intro hPD.c1 hPD.c2))
  clear ih hk
  go_enter Tryz.func53, Tryz.ntmps53
  go_wp2_with fail
  go_region_held3 (fun w' => w'.cell? ⟨w.heap.size, 0, none⟩ = some (.int .i64 k) ∧ w'.cell? ⟨w.heap.size, 1, none⟩ = some (.string s) ∧ w'.cell? ⟨w.heap.size, 2, none⟩ = some (.slice a n c)) (first | exact HC0.out | exact HC1.out | exact bxE_three (((hP1.other (by omega) 0 _).other (by omega) 1 _).other (by omega) 2 _))
    ((first
      | (go_at_call 79; refine Hl.out.mono ?_; rintro e v1 ⟨a4, c4, bk4, g4, rfl, hcx, hC1⟩; have hP1 := hPD.next hC1; have hE1 := hED.next hC1; have HC1 := Lib.hid (And.intro hP1.c0 (And.intro hP1.c1 hP1.c2)); obtain ⟨y0, y1, y2, z0, z1, z2, hel⟩ := hE1.facts)))
  all_goals go_wp2_with fail
  all_goals
    have hcx' := ((hcx.setCell (g' := w.heap.size + 1) (by simp) 0 (.int .i64 k)).setCell (g' := w.heap.size + 1) (by simp) 1 (.string s)).setCell (g' := w.heap.size + 1) (by simp) 2 (.slice a4 ks.len c4)
    have B1 := hBD.trans (hC1.mono hBD.size)
    refine bodyPost_ret (v := .agg #[.int .i64 k, .string s, .slice a4 ks.len c4]) (by simp [results, Tryz.results53, go_sem, *]) rfl ?_
    exact ⟨a4, c4, bk4, g4, rfl, hcx'.mono (by simp; omega), ((B1.setCell (Nat.le_succ _) _).setCell (Nat.le_succ _) _).setCell (Nat.le_succ _) _⟩
theorem cpx_all (N : Nat) (hN : N ≤ 1048576) : ∀ (k : Int) (s : ByteArray) (ks : Fo), ks.size ≤ N → ∀ (a : Option Addr) (n c : Nat) (w : World), KA w 0 w.heap.size ks a n → n ≤ c → Calls Tryz.prog 53 #[.agg #[.int .i64 k, .string s, .slice a n c]] w (CopP k s ks w) := by
  induction N with
  | zero => exact fun k s ks h => cpx_of k s ks (by omega) fun k' s' ks' h' => absurd h' (by omega)
  | succ N ih => exact fun k s ks h => cpx_of k s ks (by omega) fun k' s' ks' h' => ih (by omega) k' s' ks' (by omega)
end Go.Proofs.YtceiafncpimihaaGreat

namespace Go.Proofs.YtceiafncpimihaaGreat
set_option linter.unusedVariables false
set_option linter.unusedSimpArgs false
open Go.RowKit

/-- between two rounds of markExprS: the first j nodes are marked, the others are as they were -/
def MsI (w : World) (bk : Fo) (g n m j : Nat) (wr : World) : Prop :=
  (∀ i k s ks, i < j → bk.get i = some (k, s, ks) → MkdN wr g i (m + 2 * bk.size - 2 * (bk.drop i).size) k.toNat ks) ∧ (∀ i k s ks, j ≤ i → bk.get i = some (k, s, ks) → SepN wr g i k.toNat ks) ∧ RowC wr g n ∧ TchL (blksA g bk) w wr
section
variable {w w' wr w2 w3 : World} {b i j g n m : Nat} {bk ks : Fo} {k : Int} {s : ByteArray} {a : Option Addr}
theorem SepN.keep (h : SepN w b i g ks) (hc : w'.cell? ⟨b, i * 3 + 2, none⟩ = w.cell? ⟨b, i * 3 + 2, none⟩) (hk : ∀ x, x ∈ blksA g ks → x < w.heap.size → w'.heap[x]? = w.heap[x]?) : SepN w' b i g ks := by
  obtain ⟨a, c, h1, h2⟩ := h
  exact ⟨a, c, hc.trans h1, h2.keep hk⟩
theorem MkdN.keep (h : MkdN w b i m g ks) (hc : ∀ d, d < 3 → w'.cell? ⟨b, i * 3 + d, none⟩ = w.cell? ⟨b, i * 3 + d, none⟩) (hk : ∀ x, x ∈ blksA g ks → x < w.heap.size → w'.heap[x]? = w.heap[x]?) : MkdN w' b i m g ks := by
  obtain ⟨h0, h1, a, c, h2, h3⟩ := h
  exact ⟨(hc 0 (by omega)).trans h0, (hc 1 (by omega)).trans h1, a, c, (hc 2 (by omega)).trans h2, h3.keep hk⟩
theorem msI_below (h : MsI w bk g n m j wr) (hB : Below wr.heap.size wr w') : MsI w bk g n m j w' := by
  obtain ⟨h1, h2, h3, h4⟩ := h
  have hg := h3.lt
  exact ⟨fun i k s ks hi hgt => (h1 i k s ks hi hgt).keep (fun d _ => cell_same (hB.block g hg)) fun x _ hx => hB.block x hx, fun i k s ks hi hgt => (h2 i k s ks hi hgt).keep (cell_same (hB.block g hg)) fun x _ hx => hB.block x hx, h3.keep (hB.block g hg), h4.trans (TchL.of hB)⟩
theorem RowC.setSame (h : RowC w b n) (hi : i < n * 3) (v : Value) : (w.setCell ⟨b, i, none⟩ v).cell? ⟨b, i, none⟩ = some v := by
  obtain ⟨cs, h1, h2⟩ := h
  rw [cell_of_row _ _ _ _ _ _ (blk_set h1 i v), Array.getElem?_setIfInBounds_self_of_lt (by omega)]
/-- a cell of node j that is no slice is written to -/
theorem msI_set (h : MsI w bk g n m j wr) (hnd : g ∉ bk.blks) (hl : 0 < bk.len) {p : Nat} (hp : p = j * 3 ∨ p = j * 3 + 1) (v : Value) : MsI w bk g n m j (wr.setCell ⟨g, p, none⟩ v) := by
  obtain ⟨h1, h2, h3, h4⟩ := h
  have hne : ∀ x, x ∈ bk.blks → (wr.setCell ⟨g, p, none⟩ v).heap[x]? = wr.heap[x]? := fun x hx => Below.heap_setCell wr ⟨g, p, none⟩ v x (by show x ≠ g; rintro rfl; exact hnd hx)
  have hgm : g ∈ blksA g bk := by unfold blksA; rw [if_neg (by omega)]; exact List.mem_cons_self ..
  refine ⟨fun i k s ks hi hgt => (h1 i k s ks hi hgt).keep (fun d' hd' => World.cell?_setCell_other wr _ _ _ ?_) fun x hx _ => hne x (blks_mem hgt x hx), fun i k s ks hi hgt => (h2 i k s ks hi hgt).keep (World.cell?_setCell_other wr _ _ _ ?_) fun x hx _ => hne x (blks_mem hgt x hx), h3.set _ _ _, h4.trans (TchL.set hgm v)⟩
  · intro e; injection e with _ e2; omega
  · intro e; injection e with _ e2; omega
/-- node j's operands are marked: so is node j -/
theorem msI_step (h : MsI w bk g n m j w2) (hnd : g ∉ bk.blks) (hnd2 : bk.blks.Nodup) (hl : 0 < bk.len) (hgt : bk.get j = some (k, s, ks)) {m' : Nat} (hm : m' = m + 2 * bk.size - 2 * (bk.drop j).size)
    (hc0 : w2.cell? ⟨g, j * 3, none⟩ = some (.int .i64 m')) (hc1 : w2.cell? ⟨g, j * 3 + 1, none⟩ = some (.string (mkS (m' + 1)))) {c : Nat} (hc2 : w2.cell? ⟨g, j * 3 + 2, none⟩ = some (.slice a ks.len c))
    (hmk : MkdA w3 ks k.toNat a ks.len (m' + 2)) (hT : TchL (blksA k.toNat ks) w2 w3) : MsI w bk g n m (j + 1) w3 := by
  obtain ⟨h1, h2, h3, h4⟩ := h
  have hg := h3.lt
  have hb : w3.heap[g]? = w2.heap[g]? := hT.out g hg fun hx => hnd (blks_mem hgt g hx)
  have hother : ∀ i k' s' ks', i ≠ j → bk.get i = some (k', s', ks') → ∀ x, x ∈ blksA k'.toNat ks' → x < w2.heap.size → w3.heap[x]? = w2.heap[x]? := fun i k' s' ks' hi hg' x hx hxs => hT.out x hxs (blks_apart hnd2 hg' hgt hi x hx)
  refine ⟨fun i k' s' ks' hi hg' => ?_, fun i k' s' ks' hi hg' => (h2 i k' s' ks' (by omega) hg').keep (cell_same hb) (hother i k' s' ks' (by omega) hg'), h3.keep hb, h4.trans (hT.more fun x hx => ?_)⟩
  · by_cases e : i = j
    · subst e
      rw [hgt] at hg'
      simp only [Option.some.injEq, Prod.mk.injEq] at hg'
      obtain ⟨rfl, rfl, rfl⟩ := hg'
      rw [← hm]
      exact ⟨(cell_same hb).trans hc0, (cell_same hb).trans hc1, a, c, (cell_same hb).trans hc2, hmk⟩
    · exact (h1 i k' s' ks' (by omega) hg').keep (fun d _ => cell_same hb) (hother i k' s' ks' e hg')
  · unfold blksA
    rw [if_neg (by omega)]
    exact List.mem_cons_of_mem _ (blks_mem hgt x hx)
end

end Go.Proofs.YtceiafncpimihaaGreat

namespace Go.Proofs.YtceiafncpimihaaGreat
set_option linter.unusedVariables false
set_option linter.unusedSimpArgs false
open Go.RowKit

/-- block b is a row with room for n rules -/
def RowQ (w : World) (b n : Nat) : Prop := ∃ cs : Array Value, w.heap[b]? = some (.cells cs 45 (0, 0)) ∧ n * 4 ≤ cs.size
/-- the blocks of the rows below a list of rules -/
def rblks (bs : List (Nat × Fo)) : List Nat := bs.flatMap fun x => blksA x.1 x.2
/-- how many marks these rules take -/
def bsz : List (Nat × Fo) → Nat
  | [] => 0
  | x :: r => 3 + 2 * x.2.size + bsz r
def SepQ (w : World) (b i g : Nat) (ks : Fo) : Prop := ∃ a c, w.cell? ⟨b, i * 4 + 3, none⟩ = some (.slice a ks.len c) ∧ SepA w ks g a ks.len
def MkdQ (w : World) (b i m g : Nat) (ks : Fo) : Prop := w.cell? ⟨b, i * 4, none⟩ = some (.string (mkS m)) ∧ w.cell? ⟨b, i * 4 + 1, none⟩ = some (.int .i64 (m + 1 : Nat)) ∧ w.cell? ⟨b, i * 4 + 2, none⟩ = some (.string (mkS (m + 2))) ∧ ∃ a c, w.cell? ⟨b, i * 4 + 3, none⟩ = some (.slice a ks.len c) ∧ MkdA w ks g a ks.len (m + 3)
/-- a slice of rules whose rows share no block -/
def SepRA (w : World) (bs : List (Nat × Fo)) (g : Nat) (a : Option Addr) (n : Nat) : Prop := bs.length = n ∧ (0 < n → a = some ⟨g, 0, none⟩ ∧ RowQ w g n ∧ ∀ i x, bs[i]? = some x → SepQ w g i x.1 x.2)
/-- the same, marked -/
def MkdRA (w : World) (bs : List (Nat × Fo)) (g : Nat) (a : Option Addr) (n m : Nat) : Prop := bs.length = n ∧ (0 < n → a = some ⟨g, 0, none⟩ ∧ RowQ w g n ∧ ∀ i x, bs[i]? = some x → MkdQ w g i (m + bsz (bs.take i)) x.1 x.2)
def rblksA (g : Nat) (bs : List (Nat × Fo)) : List Nat := if bs.length = 0 then [] else g :: rblks bs
theorem bsz_take {bs : List (Nat × Fo)} {j : Nat} {x : Nat × Fo} (h : bs[j]? = some x) : bsz (bs.take (j + 1)) = bsz (bs.take j) + (3 + 2 * x.2.size) := by
  induction bs generalizing j with
  | nil => simp at h
  | cons y bs ih =>
    cases j with
    | zero => simp at h; subst h; simp [bsz]
    | succ j => simp only [List.take_succ_cons, bsz]; rw [ih (by simpa using h)]; omega
theorem bsz_le (bs : List (Nat × Fo)) (j : Nat) : bsz (bs.take j) ≤ bsz bs := by
  induction bs generalizing j with
  | nil => simp [bsz]
  | cons y bs ih =>
    cases j with
    | zero => simp [bsz]
    | succ j => have := ih j; simp only [List.take_succ_cons, bsz]; omega
section
variable {w w' wr w2 w3 : World} {b i j g n m : Nat} {bs : List (Nat × Fo)} {ks : Fo} {x : Nat × Fo} {a : Option Addr}
theorem RowQ.lt (h : RowQ w b n) : b < w.heap.size := by
  obtain ⟨cs, h1, _⟩ := h
  exact blk_lt h1
theorem RowQ.keep (h : RowQ w b n) (hb : w'.heap[b]? = w.heap[b]?) : RowQ w' b n := by
  obtain ⟨cs, h1, h2⟩ := h
  exact ⟨cs, hb.trans h1, h2⟩
theorem RowQ.cells (h : RowQ w b n) (hi : i < n * 4) : ∃ v, w.cell? ⟨b, i, none⟩ = some v := by
  obtain ⟨cs, h1, h2⟩ := h
  rw [cell_of_row _ _ _ _ _ _ h1]
  exact ⟨_, Array.getElem?_eq_getElem (by omega)⟩
theorem RowQ.frozen (h : RowQ w b n) (i : Nat) : w.frozen? ⟨b, i, none⟩ = false := by
  obtain ⟨cs, h1, h2⟩ := h
  exact blk_frozen h1 i
theorem RowQ.set (h : RowQ w b n) (i : Nat) (v : Value) : RowQ (w.setCell ⟨b, i, none⟩ v) b n := by
  obtain ⟨cs, h1, h2⟩ := h
  exact ⟨_, blk_set h1 i v, by simpa using h2⟩
theorem RowQ.setSame (h : RowQ w b n) (hi : i < n * 4) (v : Value) : (w.setCell ⟨b, i, none⟩ v).cell? ⟨b, i, none⟩ = some v := by
  obtain ⟨cs, h1, h2⟩ := h
  rw [cell_of_row _ _ _ _ _ _ (blk_set h1 i v), Array.getElem?_setIfInBounds_self_of_lt (by omega)]
theorem rblks_mem (h : bs[i]? = some x) : ∀ y, y ∈ blksA x.1 x.2 → y ∈ rblks bs := fun y hy => List.mem_flatMap.2 ⟨x, List.mem_of_getElem? h, hy⟩
theorem rblks_nodup (hn : (rblks bs).Nodup) (h : bs[i]? = some x) : (blksA x.1 x.2).Nodup := by
  induction bs generalizing i with
  | nil => simp at h
  | cons y bs ih =>
    have hn' := List.nodup_append.1 (show (blksA y.1 y.2 ++ rblks bs).Nodup from hn)
    cases i with
    | zero => simp at h; subst h; exact hn'.1
    | succ i => exact ih hn'.2.1 (by simpa using h)
theorem rblks_apart {i' : Nat} {x' : Nat × Fo} (hn : (rblks bs).Nodup) (h : bs[i]? = some x) (h' : bs[i']? = some x') (hi : i ≠ i') : ∀ y, y ∈ blksA x.1 x.2 → y ∉ blksA x'.1 x'.2 := by
  induction bs generalizing i i' with
  | nil => simp at h
  | cons z bs ih =>
    have hn' := List.nodup_append.1 (show (blksA z.1 z.2 ++ rblks bs).Nodup from hn)
    intro y hy hy'
    cases i with
    | zero =>
      cases i' with
      | zero => exact hi rfl
      | succ i' =>
        simp at h
        subst h
        exact hn'.2.2 y hy y (rblks_mem (bs := bs) (by simpa using h') y hy') rfl
    | succ i =>
      cases i' with
      | zero =>
        simp at h'
        subst h'
        exact hn'.2.2 y hy' y (rblks_mem (bs := bs) (by simpa using h) y hy) rfl
      | succ i' => exact ih hn'.2.1 (by simpa using h) (by simpa using h') (by omega) y hy hy'
theorem SepQ.keep (h : SepQ w b i g ks) (hc : w'.cell? ⟨b, i * 4 + 3, none⟩ = w.cell? ⟨b, i * 4 + 3, none⟩) (hk : ∀ x, x ∈ blksA g ks → x < w.heap.size → w'.heap[x]? = w.heap[x]?) : SepQ w' b i g ks := by
  obtain ⟨a, c, h1, h2⟩ := h
  exact ⟨a, c, hc.trans h1, h2.keep hk⟩
theorem MkdQ.keep (h : MkdQ w b i m g ks) (hc : ∀ d, d < 4 → w'.cell? ⟨b, i * 4 + d, none⟩ = w.cell? ⟨b, i * 4 + d, none⟩) (hk : ∀ x, x ∈ blksA g ks → x < w.heap.size → w'.heap[x]? = w.heap[x]?) : MkdQ w' b i m g ks := by
  obtain ⟨h0, h1, h2, a, c, h3, h4⟩ := h
  exact ⟨(hc 0 (by omega)).trans h0, (hc 1 (by omega)).trans h1, (hc 2 (by omega)).trans h2, a, c, (hc 3 (by omega)).trans h3, h4.keep hk⟩
theorem MkdRA.keep (h : MkdRA w bs g a n m) (hk : ∀ x, x ∈ rblksA g bs → x < w.heap.size → w'.heap[x]? = w.heap[x]?) : MkdRA w' bs g a n m := by
  refine ⟨h.1, fun hn => ?_⟩
  obtain ⟨h1, h2, h3⟩ := h.2 hn
  have e : rblksA g bs = g :: rblks bs := by unfold rblksA; rw [if_neg (by have := h.1; omega)]
  rw [e] at hk
  have hb := hk g (List.mem_cons_self ..) h2.lt
  exact ⟨h1, h2.keep hb, fun i x hx => (h3 i x hx).keep (fun d _ => cell_same hb) fun y hy hys => hk y (List.mem_cons_of_mem _ (rblks_mem hx y hy)) hys⟩
theorem SepRA.keep (h : SepRA w bs g a n) (hk : ∀ x, x ∈ rblksA g bs → x < w.heap.size → w'.heap[x]? = w.heap[x]?) : SepRA w' bs g a n := by
  refine ⟨h.1, fun hn => ?_⟩
  obtain ⟨h1, h2, h3⟩ := h.2 hn
  have e : rblksA g bs = g :: rblks bs := by unfold rblksA; rw [if_neg (by have := h.1; omega)]
  rw [e] at hk
  have hb := hk g (List.mem_cons_self ..) h2.lt
  exact ⟨h1, h2.keep hb, fun i x hx => (h3 i x hx).keep (cell_same hb) fun y hy hys => hk y (List.mem_cons_of_mem _ (rblks_mem hx y hy)) hys⟩
/-- between two rounds of markRuleS: the first j rules are marked, the others are as they were -/
def MrI (w : World) (bs : List (Nat × Fo)) (g n m j : Nat) (wr : World) : Prop :=
  (∀ i x, i < j → bs[i]? = some x → MkdQ wr g i (m + bsz (bs.take i)) x.1 x.2) ∧ (∀ i x, j ≤ i → bs[i]? = some x → SepQ wr g i x.1 x.2) ∧ RowQ wr g n ∧ TchL (rblksA g bs) w wr
theorem mrI_below (h : MrI w bs g n m j wr) (hB : Below wr.heap.size wr w') : MrI w bs g n m j w' := by
  obtain ⟨h1, h2, h3, h4⟩ := h
  have hg := h3.lt
  exact ⟨fun i x hi hgt => (h1 i x hi hgt).keep (fun d _ => cell_same (hB.block g hg)) fun y _ hx => hB.block y hx, fun i x hi hgt => (h2 i x hi hgt).keep (cell_same (hB.block g hg)) fun y _ hx => hB.block y hx, h3.keep (hB.block g hg), h4.trans (TchL.of hB)⟩
theorem mrI_set (h : MrI w bs g n m j wr) (hnd : g ∉ rblks bs) (hl : 0 < bs.length) {p : Nat} (hp : p = j * 4 ∨ p = j * 4 + 1 ∨ p = j * 4 + 2) (v : Value) : MrI w bs g n m j (wr.setCell ⟨g, p, none⟩ v) := by
  obtain ⟨h1, h2, h3, h4⟩ := h
  have hne : ∀ x, x ∈ rblks bs → (wr.setCell ⟨g, p, none⟩ v).heap[x]? = wr.heap[x]? := fun x hx => Below.heap_setCell wr ⟨g, p, none⟩ v x (by show x ≠ g; rintro rfl; exact hnd hx)
  have hgm : g ∈ rblksA g bs := by unfold rblksA; rw [if_neg (by omega)]; exact List.mem_cons_self ..
  refine ⟨fun i x hi hgt => (h1 i x hi hgt).keep (fun d' hd' => World.cell?_setCell_other wr _ _ _ ?_) fun y hy _ => hne y (rblks_mem hgt y hy), fun i x hi hgt => (h2 i x hi hgt).keep (World.cell?_setCell_other wr _ _ _ ?_) fun y hy _ => hne y (rblks_mem hgt y hy), h3.set _ _, h4.trans (TchL.set hgm v)⟩
  · intro e; injection e with _ e2; omega
  · intro e; injection e with _ e2; omega
theorem mrI_step (h : MrI w bs g n m j w2) (hnd : g ∉ rblks bs) (hnd2 : (rblks bs).Nodup) (hl : 0 < bs.length) (hgt : bs[j]? = some x) {m' : Nat} (hm : m' = m + bsz (bs.take j))
    (hc0 : w2.cell? ⟨g, j * 4, none⟩ = some (.string (mkS m'))) (hc1 : w2.cell? ⟨g, j * 4 + 1, none⟩ = some (.int .i64 (m' + 1 : Nat))) (hc2 : w2.cell? ⟨g, j * 4 + 2, none⟩ = some (.string (mkS (m' + 2)))) {c : Nat} (hc3 : w2.cell? ⟨g, j * 4 + 3, none⟩ = some (.slice a x.2.len c))
    (hmk : MkdA w3 x.2 x.1 a x.2.len (m' + 3)) (hT : TchL (blksA x.1 x.2) w2 w3) : MrI w bs g n m (j + 1) w3 := by
  obtain ⟨h1, h2, h3, h4⟩ := h
  have hg := h3.lt
  have hb : w3.heap[g]? = w2.heap[g]? := hT.out g hg fun hx => hnd (rblks_mem hgt g hx)
  have hother : ∀ i x', i ≠ j → bs[i]? = some x' → ∀ y, y ∈ blksA x'.1 x'.2 → y < w2.heap.size → w3.heap[y]? = w2.heap[y]? := fun i x' hi hg' y hy hys => hT.out y hys (rblks_apart hnd2 hg' hgt hi y hy)
  refine ⟨fun i x' hi hg' => ?_, fun i x' hi hg' => (h2 i x' (by omega) hg').keep (cell_same hb) (hother i x' (by omega) hg'), h3.keep hb, h4.trans (hT.more fun y hy => ?_)⟩
  · by_cases e : i = j
    · subst e
      rw [hgt] at hg'
      cases hg'
      rw [← hm]
      exact ⟨(cell_same hb).trans hc0, (cell_same hb).trans hc1, (cell_same hb).trans hc2, a, c, (cell_same hb).trans hc3, hmk⟩
    · exact (h1 i x' (by omega) hg').keep (fun d _ => cell_same hb) (hother i x' e hg')
  · unfold rblksA
    rw [if_neg (by omega)]
    exact List.mem_cons_of_mem _ (rblks_mem hgt y hy)
end
end Go.Proofs.YtceiafncpimihaaGreat

namespace Go.Proofs.YtceiafncpimihaaGreat
set_option linter.unusedVariables false
set_option linter.unusedSimpArgs false
open Go.RowKit

theorem files_under : Tryz.prog.underlying 23 = some (.slice 28) := by kernel_rfl
theorem copyFile_any (p t : ByteArray) (w : World) :
    Calls Tryz.prog 81 #[.agg #[.string p, .string t]] w fun e w' => e = .returned (.agg #[.string p, .string t]) ∧ Below w.heap.size w w' := by
  go_enter Tryz.func81, Tryz.ntmps81
  go_wp2_with fail
  exact bodyPost_ret (v := .agg #[.string p, .string t]) (by simp [results, Tryz.results81, go_sem]) rfl ⟨rfl, ((Below.refl _ _).alloc (Nat.le_refl _) _).alloc (by simp) _⟩

set_option maxRecDepth 100000 in
set_option maxHeartbeats 4000000 in
theorem copyFiles_any (a : Option Addr) (n c : Nat) (fs : List Fl) (w : World) (hf : FilesAt w w.heap.size a n fs) (hn : n ≤ 1048576) :
    Calls Tryz.prog 80 #[.slice a n c, .func (.func 81) #[] #[]] w fun e w' => ∃ v, e = .returned v ∧ OwnsF w' w.heap.size v fs ∧ Below w.heap.size w w' := by
  obtain ⟨i0, hi, hz0, hz1, hz2⟩ := info_parts fput_info
  have hlen := hf.1
  go_enter Tryz.func80, Tryz.ntmps80
  go_wp2_with fail
  go_loopw [5, 10] (fun v i wr => ∃ j : Nat, j ≤ n ∧ i = .int .i64 j ∧ OwnsF wr w.heap.size v (fs.take j) ∧ Below w.heap.size w wr) (fun _ i _ => n - (intOf i).toNat)
  case atStart => exact ⟨0, Nat.zero_le _, rfl, World.ownsRow_nil _ _ _ _, Below.refl _ _⟩
  case round =>
    obtain ⟨j, hj, rfl, hown, hB⟩ := hrel
    have hsw := hB.size
    have htl : (fs.take j).length = j := by simp; omega
    by_cases hlt : j < n
    · obtain ⟨b, off, p, t, rfl, hb, hg, hc1, hc2⟩ := (hf.below hB).get hlt
      have hjj : (j : Int) < (n : Int) := by omega
      have hj0 : (0 : Int) ≤ (j : Int) := by omega
      have Hst := Lib.hid (show fs.take (j + 1) = fs.take j ++ [(p, t)] from by rw [List.take_add_one, hg]; simp)
      have Hown := Lib.hid hown
      clear hown hg
      go_wp2_with fail
      refine (copyFile_any p t _).mono ?_
      rintro e w4 ⟨rfl, hB4⟩
      have hBx := (Below.refl wr.heap.size wr).alloc (Nat.le_refl _) (.cells #[.string p, .string t] 28)
      have B4 := hBx.trans (hB4.mono hBx.size)
      have Hown4 := Lib.hid (own_raise Hown.out B4)
      have hs4 := B4.size
      clear hc1 hc2
      go_wp2_with (at_builtin; refine wpList_append_own _ rfl _ _ 23 rfl w.heap.size 28 i0 _ 2 32 files_under hi hz0 hz1 hz2 rfl (by decide) _ _ _ rfl (World.ownsRow.alloc Hown4.out _) ⟨w4.heap.size, 0, none⟩ 1 1 [.string p, .string t] rfl rfl (two_new _ _ _ _) (by simp [Value.oneCell']) (by simp only [maxLen]; omega) (by omega) (by simp; omega) ?_; intro v2 w2 hown2 hgrow _)
      have hB6 := ((hB.trans (B4.mono hsw)).alloc (by omega) (.cells #[.string p, .string t] 28)).grown hgrow (by simp; omega) (own_at Hown4.out)
      exact ⟨⟨j + 1, by omega, by go_num, by rw [Hst.out]; exact OwnsF.grew hown2, hB6⟩, by simp [intOf]; omega⟩
    · have hjn : ¬ (j : Int) < (n : Int) := by omega
      have hall : fs.take j = fs := List.take_of_length_le (by omega)
      rw [hall] at hown
      have Hown := Lib.hid hown
      clear hown hall htl
      go_wp2_with fail
      go_ret
      exact ⟨_, rfl, Hown.out, hB⟩
theorem fmade_zero (w : World) : OwnsF (w.alloc (.cells #[] 28)) w.heap.size (.slice (some ⟨w.heap.size, 0, none⟩) 0 0) [] := World.ownsRow_made w _ _ (Nat.le_refl _) (by simp [maxLen]) rfl
theorem ownsF_alloc {w : World} {base : Nat} {v : Value} {fs : List Fl} (h : OwnsF w base v fs) (o : Obj) : OwnsF (w.alloc o) base v fs := World.ownsRow.alloc h o
theorem ownsF_ne {w w' : World} {base : Nat} {v : Value} {fs : List Fl} {r : Option Nat} (h : OwnsF w base v fs) (hg : w.grownBy w' r) (hne : ∀ g, v.ownBlock = some g → r ≠ some g) : OwnsF w' base v fs := by
  refine World.ownsRow.kept (row := r) h hg ?_
  cases hv : v.ownBlock with
  | none => exact .inl rfl
  | some b => exact .inr fun e => hne b hv e.symm
/-- all files of a list behind those of one's own -/
theorem wpList_append_files {w : World} {ops : Array Oper} {rest : List Oper} {o : Oper} {a : Act} {Q : Exit → Act → World → Prop} (hgd : o.guard = none) (s x : Operand)
    (ho : o.op = .call { callee := .builtin .append, args := #[s, x], argTypes := #[23, 23] })
    (base : Nat) (v : Value) (gs fs : List Fl) (hs : a.eval s = v) (hown : OwnsF w base v gs) (ad : Option Addr) (n c B : Nat) (hx : a.eval x = .slice ad n c) (hnil : ad = none → n = 0 ∧ c = 0) (hf : FilesAt w B ad n fs)
    (hn : gs.length + n ≤ 1000000000) (hbase : base ≤ w.heap.size)
    (h : ∀ v' w', OwnsF w' base v' (gs ++ fs) → w.grownBy w' v.ownBlock → wpList Tryz.prog ops Q rest (a.put o.dst v') w') : wpList Tryz.prog ops Q (o :: rest) a w := by
  obtain ⟨i0, hi, hz0, hz1, hz2⟩ := info_parts fput_info
  have hl := hf.1
  cases ad with
  | none =>
    obtain ⟨rfl, rfl⟩ := hnil rfl
    obtain rfl : fs = [] := List.eq_nil_of_length_eq_zero hl
    refine wpList_append_own_none hgd s x 23 ho base 28 i0 2 files_under hi v gs.length (fcells gs) hs hown hx ?_
    exact h v w (by simpa using hown) (World.grownBy.refl w _)
  | some ad =>
    refine wpList_append_own (P := Tryz.prog) w hgd s x 23 ho base 28 i0 _ 2 32 files_under hi hz0 hz1 hz2 rfl (by decide) v gs.length (fcells gs) hs hown ad n c (fcells fs) hx (by rw [fcells_length]; omega) (fun j u hu => ?_) (fcells_oneCell fs) (by simp only [maxLen]; omega) (by omega) hbase fun v' w' h1 h2 _ => h v' w' ?_ h2
    · have hj := (List.getElem?_eq_some_iff.1 hu).1
      rw [fcells_length] at hj
      obtain ⟨b, off, e, _, hc⟩ := hf.2 (by omega)
      cases e
      rw [add_none]
      exact hc j u hu
    · show w'.ownsRow base 28 2 v' (gs ++ fs).length (fcells (gs ++ fs))
      rw [fcells_append, List.length_append, hl]
      exact h1
end Go.Proofs.YtceiafncpimihaaGreat

namespace Go.Proofs.YtceiafncpimihaaGreat
set_option linter.unusedVariables false
set_option linter.unusedSimpArgs false
open Go.RowKit

/-- what copyRule leaves -/
def CopR (t : ByteArray) (k : Int) (s : ByteArray) (ks : Fo) (w : World) (e : Ending) (w' : World) : Prop := ∃ a c bk g, e = .returned (.agg #[.string t, .int .i64 k, .string s, .slice a ks.len c]) ∧ CopX w' w.heap.size ks a c bk g ∧ Below w.heap.size w w'
theorem bxR_four {w : World} {g : Nat} {t s : ByteArray} {k : Int} {v : Value} {T : TypeId} (h : BxR w g t k s v T) : w.cell? ⟨g, 0, none⟩ = some (.string t) ∧ w.cell? ⟨g, 1, none⟩ = some (.int .i64 k) ∧ w.cell? ⟨g, 2, none⟩ = some (.string s) ∧ w.cell? ⟨g, 3, none⟩ = some v := ⟨h.facts.1, h.facts.2.1, h.facts.2.2.1, h.facts.2.2.2.1⟩
theorem BxR.other {w : World} {g g' : Nat} {t s : ByteArray} {k : Int} {v : Value} {T : TypeId} (h : BxR w g t k s v T) (hne : g ≠ g') (i : Nat) (u : Value) : BxR (w.setCell ⟨g', i, none⟩ u) g t k s v T := (Below.heap_setCell w _ _ g (fun e => hne (by simpa using e))).trans h

set_option maxRecDepth 100000 in
set_option maxHeartbeats 4000000 in
theorem copyRule_any (t : ByteArray) (k : Int) (s : ByteArray) (ks : Fo) (a : Option Addr) (n c : Nat) (w : World) (hk : KA w 0 w.heap.size ks a n) (hnc : n ≤ c) (hz : ks.size ≤ 1048576) :
    Calls Tryz.prog 83 #[.agg #[.string t, .int .i64 k, .string s, .slice a n c]] w (CopR t k s ks w) := by
  have hB0 := ((Below.refl w.heap.size w).alloc (Nat.le_refl _) (.cells #[.string t, .int .i64 k, .string s, .slice a n c] 45)).alloc (by simp) (.cells #[.string .empty, .int .i64 0, .string .empty, .slice none 0 0] 45)
  have hP0 := (BxR.new w t k s (.slice a n c) 45).alloc (.cells #[.string .empty, .int .i64 0, .string .empty, .slice none 0 0] 45)
  have hE0 := BxR.new (w.alloc (.cells #[.string t, .int .i64 k, .string s, .slice a n c] 45)) .empty 0 .empty (.slice none 0 0) 45
  simp only [World.size_alloc] at hE0
  have hD := (Below.refl ((w.alloc (.cells #[.string t, .int .i64 k, .string s, .slice a n c] 45)).alloc (.cells #[.string .empty, .int .i64 0, .string .empty, .slice none 0 0] 45)).heap.size ((w.alloc (.cells #[.string t, .int .i64 k, .string s, .slice a n c] 45)).alloc (.cells #[.string .empty, .int .i64 0, .string .empty, .slice none 0 0] 45))).drew
  have hBD := hB0.trans (hD.mono hB0.size)
  have Hl := Lib.hid (cpx_all ks.size hz k s ks (Nat.le_refl _) a n c _ (hk.next hBD) hnc)
  have hPD := hP0.next hD
  have hED := hE0.next hD
  have HC0 := Lib.hid (bxR_four hPD)
  clear hk
  go_enter Tryz.func83, Tryz.ntmps83
  go_wp2_with fail
  go_region_held3 (fun w' => w'.cell? ⟨w.heap.size, 0, none⟩ = some (.string t) ∧ w'.cell? ⟨w.heap.size, 1, none⟩ = some (.int .i64 k) ∧ w'.cell? ⟨w.heap.size, 2, none⟩ = some (.string s) ∧ w'.cell? ⟨w.heap.size, 3, none⟩ = some (.slice a n c)) (first | exact HC0.out | exact HC1.out | exact bxR_four ((((hP1.other (by omega) 0 _).other (by omega) 1 _).other (by omega) 2 _).other (by omega) 3 _))
    ((first
      | (go_at_call 53; refine Hl.out.mono ?_; rintro e v1 ⟨a4, c4, bk4, g4, rfl, hcx, hC1⟩; have hP1 := hPD.next hC1; have hE1 := hED.next hC1; have HC1 := Lib.hid (bxR_four hP1); obtain ⟨y0, y1, y2, y3, z0, z1, z2, z3, hel⟩ := hE1.facts)))
  all_goals go_wp2_with fail
  all_goals
    have hcx' := (((hcx.setCell (g' := w.heap.size + 1) (by simp) 0 (.string t)).setCell (g' := w.heap.size + 1) (by simp) 1 (.int .i64 k)).setCell (g' := w.heap.size + 1) (by simp) 2 (.string s)).setCell (g' := w.heap.size + 1) (by simp) 3 (.slice a4 ks.len c4)
    have B1 := hBD.trans (hC1.mono hBD.size)
    refine bodyPost_ret (v := .agg #[.string t, .int .i64 k, .string s, .slice a4 ks.len c4]) (by simp [results, Tryz.results83, go_sem, *]) rfl ?_
    exact ⟨a4, c4, bk4, g4, rfl, hcx'.mono (by simp; omega), (((B1.setCell (Nat.le_succ _) _).setCell (Nat.le_succ _) _).setCell (Nat.le_succ _) _).setCell (Nat.le_succ _) _⟩
end Go.Proofs.YtceiafncpimihaaGreat

namespace Go.Proofs.YtceiafncpimihaaGreat
set_option linter.unusedVariables false
open Go.RowKit

section
variable {w w' : World} {L L' B B' b j n : Nat} {f ks : Fo} {k : Int} {s : ByteArray} {a : Option Addr}
theorem sk_keep (hL : L' ≤ L) (hB : B ≤ B') (hk : ∀ g : Nat, L ≤ g → g < B → w'.heap[g]? = w.heap[g]?) : ∀ {f : Fo} {b j : Nat}, L ≤ b → b < B → SkS w L B f b j → SkS w' L' B' f b j
  | .nil, _, _, _, _, _ => trivial
  | .node k s ks r, b, j, h1, h2, ⟨⟨a, m, c, h3, h4, h5⟩, h6⟩ => ⟨⟨a, m, c, (by
      have : w'.cell? ⟨b, j * 3 + 2, none⟩ = w.cell? ⟨b, j * 3 + 2, none⟩ := World.cell?_of_block (hk b h1 h2)
      exact this.trans h3), h4, fun hm => let ⟨b', e, hl, hb, ⟨cs, hr, hc⟩, hs⟩ := h5 hm; ⟨b', e, by omega, by omega, ⟨cs, (hk b' hl hb).trans hr, hc⟩, sk_keep hL hB hk hl hb hs⟩⟩, sk_keep hL hB hk h1 h2 h6⟩
theorem SkA.keep (h : SkA w L B f a n) (hL : L' ≤ L) (hB : B ≤ B') (hk : ∀ g : Nat, L ≤ g → g < B → w'.heap[g]? = w.heap[g]?) : SkA w' L' B' f a n :=
  ⟨h.1, fun hn => let ⟨b, e, hl, hb, ⟨cs, hr, hc⟩, hs⟩ := h.2 hn; ⟨b, e, by omega, by omega, ⟨cs, (hk b hl hb).trans hr, hc⟩, sk_keep hL hB hk hl hb hs⟩⟩
theorem SkA.more (h : SkA w L B f a n) (hL : L' ≤ L) (hB : B ≤ B') : SkA w L' B' f a n := h.keep hL hB fun _ _ _ => rfl
theorem SkA.setCell (h : SkA w L B f a n) {g : Nat} (hg : g < L ∨ B ≤ g) (i : Nat) (u : Value) : SkA (w.setCell ⟨g, i, none⟩ u) L B f a n :=
  h.keep (Nat.le_refl _) (Nat.le_refl _) fun g' h1 h2 => Below.heap_setCell w ⟨g, i, none⟩ u g' (by show g' ≠ g; omega)
theorem SkA.below (h : SkA w L B f a n) (hb : Below B w w') : SkA w' L B f a n := h.keep (Nat.le_refl _) (Nat.le_refl _) fun g _ hg => hb.block g hg
theorem SkA.next (h : SkA w L w.heap.size f a n) (hb : Below w.heap.size w w') : SkA w' L w'.heap.size f a n := (h.below hb).more (Nat.le_refl _) hb.size
theorem sk_of : ∀ {f : Fo} {b j : Nat}, (∀ i k s ks, f.get i = some (k, s, ks) → ∃ a n c, w.cell? ⟨b, (j + i) * 3 + 2, none⟩ = some (.slice a n c) ∧ SkA w L B ks a n) → SkS w L B f b j
  | .nil, _, _, _ => trivial
  | .node k s ks r, b, j, h => by
    obtain ⟨a, n, c, h1, h2⟩ := h 0 k s ks rfl
    exact ⟨⟨a, n, c, h1, h2.1, h2.2⟩, sk_of fun i k' s' ks' hg => by
      obtain ⟨a', n', c', h3, h4⟩ := h (i + 1) k' s' ks' hg
      exact ⟨a', n', c', by rw [show j + 1 + i = j + (i + 1) from by omega]; exact h3, h4⟩⟩
/-- these nodes, each list at the head of a row -/
def KS (w : World) (L B : Nat) (f : Fo) (a : Option Addr) (n : Nat) : Prop := KA w L B f a n ∧ SkA w L B f a n
theorem KS.more (h : KS w L B f a n) (hL : L' ≤ L) (hB : B ≤ B') : KS w L' B' f a n := ⟨h.1.more hL hB, h.2.more hL hB⟩
theorem KS.setCell (h : KS w L B f a n) {g : Nat} (hg : g < L ∨ B ≤ g) (i : Nat) (u : Value) : KS (w.setCell ⟨g, i, none⟩ u) L B f a n := ⟨h.1.setCell hg i u, h.2.setCell hg i u⟩
theorem KS.next (h : KS w L w.heap.size f a n) (hb : Below w.heap.size w w') : KS w' L w'.heap.size f a n := ⟨h.1.next hb, h.2.next hb⟩
end
/-- the nodes up to a place stand in these cells -/
def DoneTo2 (w : World) (L B : Nat) (f : Fo) (cur : Array Value) (j : Nat) : Prop := ∀ i k s ks, i < j → f.get i = some (k, s, ks) →
  cur[i * 3]? = some (.int .i64 k) ∧ cur[i * 3 + 1]? = some (.string s) ∧ ∃ a n, cur[i * 3 + 2]? = some (.slice a n n) ∧ KS w L B ks a n
section
variable {w w' : World} {L B B' g j n : Nat} {f ks : Fo} {k : Int} {s : ByteArray} {cur : Array Value} {a : Option Addr}
theorem DoneTo2.zero : DoneTo2 w L B f cur 0 := fun i k s ks h => absurd h (by omega)
theorem DoneTo2.next (h : DoneTo2 w L w.heap.size f cur j) (hb : Below w.heap.size w w') : DoneTo2 w' L w'.heap.size f cur j := fun i k s ks hi hg =>
  let ⟨h1, h2, a, n, h3, h4⟩ := h i k s ks hi hg
  ⟨h1, h2, a, n, h3, h4.next hb⟩
theorem DoneTo2.step (h : DoneTo2 w L B f cur j) (hg : f.get j = some (k, s, ks)) (hk : KS w L B ks a n) (hs : j * 3 + 2 < cur.size) (hL : g < L) (x y z : Value) :
    DoneTo2 (((w.setCell ⟨g, j * 3, none⟩ x).setCell ⟨g, j * 3 + 1, none⟩ y).setCell ⟨g, j * 3 + 2, none⟩ z) L B f
      (((cur.setIfInBounds (j * 3) (.int .i64 k)).setIfInBounds (j * 3 + 1) (.string s)).setIfInBounds (j * 3 + 2) (.slice a n n)) (j + 1) := by
  intro i k' s' ks' hi hgi
  by_cases e : i = j
  · subst e
    rw [hg] at hgi
    simp only [Option.some.injEq, Prod.mk.injEq] at hgi
    obtain ⟨rfl, rfl, rfl⟩ := hgi
    refine ⟨?_, ?_, a, n, ?_, ((hk.setCell (.inl hL) _ _).setCell (.inl hL) _ _).setCell (.inl hL) _ _⟩
    · rw [Array.getElem?_setIfInBounds_ne (by omega), Array.getElem?_setIfInBounds_ne (by omega), Array.getElem?_setIfInBounds_self_of_lt (by omega)]
    · rw [Array.getElem?_setIfInBounds_ne (by omega), Array.getElem?_setIfInBounds_self_of_lt (by simp; omega)]
    · rw [Array.getElem?_setIfInBounds_self_of_lt (by simp; omega)]
  · obtain ⟨h1, h2, a', n', h3, h4⟩ := h i k' s' ks' (by omega) hgi
    refine ⟨?_, ?_, a', n', ?_, ((h4.setCell (.inl hL) _ _).setCell (.inl hL) _ _).setCell (.inl hL) _ _⟩
    · rw [Array.getElem?_setIfInBounds_ne (by omega), Array.getElem?_setIfInBounds_ne (by omega), Array.getElem?_setIfInBounds_ne (by omega)]; exact h1
    · rw [Array.getElem?_setIfInBounds_ne (by omega), Array.getElem?_setIfInBounds_ne (by omega), Array.getElem?_setIfInBounds_ne (by omega)]; exact h2
    · rw [Array.getElem?_setIfInBounds_ne (by omega), Array.getElem?_setIfInBounds_ne (by omega), Array.getElem?_setIfInBounds_ne (by omega)]; exact h3
/-- a row of cells that holds all the nodes is the list -/
theorem DoneTo2.all (h : DoneTo2 w (g + 1) w.heap.size f cur n) (hl : f.len = n) (hb : w.heap[g]? = some (.cells cur 43 (0, 0))) (hc : cur.size = n * 3) (hL : L ≤ g) : KS w L w.heap.size f (some ⟨g, 0, none⟩) n := by
  refine ⟨⟨hl, fun hn => ⟨g, 0, rfl, hL, blk_lt hb, seg_of fun j k s ks hg => ?_⟩⟩, hl, fun hn => ⟨g, rfl, hL, blk_lt hb, ⟨cur, hb, hc⟩, sk_of fun j k s ks hg => ?_⟩⟩
  · obtain ⟨h1, h2, a, m, h3, h4⟩ := h j k s ks (by have := Fo.get_lt hg; omega) hg
    refine ⟨?_, ?_, a, m, m, ?_, Nat.le_refl _, h4.1.more (by omega) (Nat.le_refl _)⟩
    · rw [Nat.zero_add, cell_of_row _ _ _ _ _ _ hb]; exact h1
    · rw [Nat.zero_add, cell_of_row _ _ _ _ _ _ hb]; exact h2
    · rw [Nat.zero_add, cell_of_row _ _ _ _ _ _ hb]; exact h3
  · obtain ⟨h1, h2, a, m, h3, h4⟩ := h j k s ks (by have := Fo.get_lt hg; omega) hg
    refine ⟨a, m, m, ?_, h4.2.more (by omega) (Nat.le_refl _)⟩
    rw [Nat.zero_add, cell_of_row _ _ _ _ _ _ hb]; exact h3
end
/-- what toExpr leaves -/
def ToP2 (k : Int) (s : ByteArray) (ks : Fo) (w : World) (e : Ending) (w' : World) : Prop :=
  ∃ g, e = .returned (.agg #[.int .i64 k, .string s, .slice (some ⟨g, 0, none⟩) ks.len ks.len]) ∧ KS w' w.heap.size w'.heap.size ks (some ⟨g, 0, none⟩) ks.len ∧ Below w.heap.size w w'


end Go.Proofs.YtceiafncpimihaaGreat

namespace Go.Proofs.YtceiafncpimihaaGreat
set_option linter.unusedVariables false
set_option linter.unusedSimpArgs false
open Go.RowKit

theorem KS.keep {w w' : World} {L L' B B' n : Nat} {f : Fo} {a : Option Addr} (h : KS w L B f a n) (hL : L' ≤ L) (hB : B ≤ B') (hk : ∀ g : Nat, L ≤ g → g < B → w'.heap[g]? = w.heap[g]?) : KS w' L' B' f a n :=
  ⟨h.1.keep hL hB fun p h1 h2 => World.cell?_of_block (hk p.block h1 h2), h.2.keep hL hB hk⟩
/-- block b is a row of n rules -/
def RowRu (w : World) (b n : Nat) : Prop := ∃ cs : Array Value, w.heap[b]? = some (.cells cs 45 (0, 0)) ∧ cs.size = n * 4
/-- a row of rules whose operands begin rows of their own, in blocks from L to B -/
def SkR (w : World) (L B : Nat) (rs : List Ru) (g n : Nat) : Prop := RowRu w g n ∧ ∀ i t k s ks, rs[i]? = some (t, k, s, ks) → ∃ a m c, w.cell? ⟨g, i * 4 + 3, none⟩ = some (.slice a m c) ∧ SkA w L B ks a m
/-- the rules before a place stand in a row being filled -/
def DoneRu2 (w : World) (L B : Nat) (rs : List Ru) (cur : Array Value) (j : Nat) : Prop := ∀ i t k s ks, i < j → rs[i]? = some (t, k, s, ks) →
  cur[i * 4]? = some (.string t) ∧ cur[i * 4 + 1]? = some (.int .i64 k) ∧ cur[i * 4 + 2]? = some (.string s) ∧ ∃ a n c, cur[i * 4 + 3]? = some (.slice a n c) ∧ n ≤ c ∧ KS w L B ks a n
section
variable {w w' : World} {L B : Nat} {rs : List Ru} {cur : Array Value} {j : Nat} {k : Int} {s t : ByteArray} {ks : Fo}
theorem DoneRu2.zero : DoneRu2 w L B rs cur 0 := fun i _ _ _ _ h => absurd h (by omega)
theorem DoneRu2.keep {L' B' : Nat} (h : DoneRu2 w L B rs cur j) (hL : L' ≤ L) (hB : B ≤ B') (hk : ∀ g : Nat, L ≤ g → g < B → w'.heap[g]? = w.heap[g]?) : DoneRu2 w' L' B' rs cur j := fun i t k s ks hi hg =>
  let ⟨h0, h1, h2, a, n, c, h3, h4, h5⟩ := h i t k s ks hi hg
  ⟨h0, h1, h2, a, n, c, h3, h4, h5.keep hL hB hk⟩
theorem DoneRu2.step {g : Nat} (h : DoneRu2 w L B rs cur j) (hg : rs[j]? = some (t, k, s, ks)) {a : Option Addr} {n c : Nat} (hc : n ≤ c) (hk : KS w L B ks a n) (hs : j * 4 + 3 < cur.size) (hL : g < L) (x y z u : Value) :
    DoneRu2 ((((w.setCell ⟨g, j * 4, none⟩ x).setCell ⟨g, j * 4 + 1, none⟩ y).setCell ⟨g, j * 4 + 2, none⟩ z).setCell ⟨g, j * 4 + 3, none⟩ u) L B rs
      ((((cur.setIfInBounds (j * 4) (.string t)).setIfInBounds (j * 4 + 1) (.int .i64 k)).setIfInBounds (j * 4 + 2) (.string s)).setIfInBounds (j * 4 + 3) (.slice a n c)) (j + 1) := by
  intro i t' k' s' ks' hi hgi
  by_cases e : i = j
  · subst e
    rw [hg] at hgi
    simp only [Option.some.injEq, Prod.mk.injEq] at hgi
    obtain ⟨rfl, rfl, rfl, rfl⟩ := hgi
    refine ⟨?_, ?_, ?_, a, n, c, ?_, hc, (((hk.setCell (.inl hL) _ _).setCell (.inl hL) _ _).setCell (.inl hL) _ _).setCell (.inl hL) _ _⟩
    · rw [Array.getElem?_setIfInBounds_ne (by omega), Array.getElem?_setIfInBounds_ne (by omega), Array.getElem?_setIfInBounds_ne (by omega), Array.getElem?_setIfInBounds_self_of_lt (by omega)]
    · rw [Array.getElem?_setIfInBounds_ne (by omega), Array.getElem?_setIfInBounds_ne (by omega), Array.getElem?_setIfInBounds_self_of_lt (by simp; omega)]
    · rw [Array.getElem?_setIfInBounds_ne (by omega), Array.getElem?_setIfInBounds_self_of_lt (by simp; omega)]
    · rw [Array.getElem?_setIfInBounds_self_of_lt (by simp; omega)]
  · obtain ⟨h0, h1, h2, a', n', c', h3, h4, h5⟩ := h i t' k' s' ks' (by omega) hgi
    refine ⟨?_, ?_, ?_, a', n', c', ?_, h4, (((h5.setCell (.inl hL) _ _).setCell (.inl hL) _ _).setCell (.inl hL) _ _).setCell (.inl hL) _ _⟩
    · rw [Array.getElem?_setIfInBounds_ne (by omega), Array.getElem?_setIfInBounds_ne (by omega), Array.getElem?_setIfInBounds_ne (by omega), Array.getElem?_setIfInBounds_ne (by omega)]; exact h0
    · rw [Array.getElem?_setIfInBounds_ne (by omega), Array.getElem?_setIfInBounds_ne (by omega), Array.getElem?_setIfInBounds_ne (by omega), Array.getElem?_setIfInBounds_ne (by omega)]; exact h1
    · rw [Array.getElem?_setIfInBounds_ne (by omega), Array.getElem?_setIfInBounds_ne (by omega), Array.getElem?_setIfInBounds_ne (by omega), Array.getElem?_setIfInBounds_ne (by omega)]; exact h2
    · rw [Array.getElem?_setIfInBounds_ne (by omega), Array.getElem?_setIfInBounds_ne (by omega), Array.getElem?_setIfInBounds_ne (by omega), Array.getElem?_setIfInBounds_ne (by omega)]; exact h3
theorem DoneRu2.all {g : Nat} (h : DoneRu2 w L B rs cur rs.length) (hb : w.heap[g]? = some (.cells cur 45 (0, 0))) (hc : cur.size = rs.length * 4) (hg : g < L) (hB : g < B) : RuAt w g B rs (some ⟨g, 0, none⟩) rs.length ∧ SkR w L B rs g rs.length := by
  refine ⟨⟨rfl, fun _ => ⟨g, 0, rfl, Nat.le_refl _, hB, fun j t k s ks hg' => ?_⟩⟩, ⟨cur, hb, hc⟩, fun j t k s ks hg' => ?_⟩
  · obtain ⟨h0, h1, h2, a, n, c, h3, h4, h5⟩ := h j t k s ks (List.getElem?_eq_some_iff.1 hg').1 hg'
    rw [Nat.zero_add]
    exact ⟨(cell_of_row _ _ _ _ _ _ hb).trans h0, (cell_of_row _ _ _ _ _ _ hb).trans h1, (cell_of_row _ _ _ _ _ _ hb).trans h2, a, n, c, (cell_of_row _ _ _ _ _ _ hb).trans h3, h4, h5.1.more (by omega) (Nat.le_refl _)⟩
  · obtain ⟨h0, h1, h2, a, n, c, h3, h4, h5⟩ := h j t k s ks (List.getElem?_eq_some_iff.1 hg').1 hg'
    exact ⟨a, n, c, (cell_of_row _ _ _ _ _ _ hb).trans h3, h5.2⟩
end
theorem SkR.more {w : World} {L B B' g n : Nat} {rs : List Ru} (h : SkR w L B rs g n) (hB : B ≤ B') : SkR w L B' rs g n :=
  ⟨h.1, fun i t k s ks hg => let ⟨a, m, c, h6, h7⟩ := h.2 i t k s ks hg; ⟨a, m, c, h6, h7.more (Nat.le_refl _) hB⟩⟩
theorem SkR.setCell {w : World} {L B g n g' : Nat} {rs : List Ru} (h : SkR w L B rs g n) (h1 : g' < L ∨ B ≤ g') (h2 : g' ≠ g) (i : Nat) (v : Value) : SkR (w.setCell ⟨g', i, none⟩ v) L B rs g n := by
  obtain ⟨⟨cs, h3, h4⟩, h5⟩ := h
  have hb := Below.heap_setCell w ⟨g', i, none⟩ v g (by show g ≠ g'; omega)
  refine ⟨⟨cs, hb.trans h3, h4⟩, fun i t k s ks hg => ?_⟩
  obtain ⟨a, m, c, h6, h7⟩ := h5 i t k s ks hg
  exact ⟨a, m, c, (World.cell?_of_block hb).trans h6, h7.setCell h1 _ _⟩
/-- what toRule leaves -/
def ToRP2 (t : ByteArray) (k : Int) (s : ByteArray) (ks : Fo) (w : World) (e : Ending) (w' : World) : Prop :=
  ∃ g, e = .returned (.agg #[.string t, .int .i64 k, .string s, .slice (some ⟨g, 0, none⟩) ks.len ks.len]) ∧ KS w' w.heap.size w'.heap.size ks (some ⟨g, 0, none⟩) ks.len ∧ Below w.heap.size w w'

/-- what toProject leaves -/
def ToPP2 (fs : List Fl) (rs : List Ru) (w : World) (e : Ending) (w' : World) : Prop :=
  ∃ g1 g2, e = .returned (.agg #[.slice (some ⟨g1, 0, none⟩) fs.length fs.length, .slice (some ⟨g2, 0, none⟩) rs.length rs.length]) ∧ FilesAt w' w'.heap.size (some ⟨g1, 0, none⟩) fs.length fs ∧ RuAt w' w.heap.size w'.heap.size rs (some ⟨g2, 0, none⟩) rs.length ∧ OwnF w' 28 g1 fs ∧ SkR w' (g2 + 1) w'.heap.size rs g2 rs.length ∧ w.heap.size ≤ g1 ∧ g1 < g2 ∧ g2 < w'.heap.size ∧ Below w.heap.size w w'

end Go.Proofs.YtceiafncpimihaaGreat

namespace Go.Proofs.YtceiafncpimihaaGreat
set_option linter.unusedVariables false
open Go.RowKit

/-- only blocks from L to B may have been written to -/
structure Tch (L B : Nat) (w w' : World) : Prop where
  os : w'.os = w.os
  tape : w'.tape = w.tape
  output : w'.output = w.output
  size : w.heap.size ≤ w'.heap.size
  out : ∀ g : Nat, g < w.heap.size → g < L ∨ B ≤ g → w'.heap[g]? = w.heap[g]?
section
variable {w w' w'' : World} {L B L' B' g n i : Nat}
theorem Tch.refl (L B : Nat) (w : World) : Tch L B w w := ⟨rfl, rfl, rfl, Nat.le_refl _, fun _ _ _ => rfl⟩
theorem Tch.trans (h : Tch L B w w') (h2 : Tch L B w' w'') : Tch L B w w'' := ⟨h2.os.trans h.os, h2.tape.trans h.tape, h2.output.trans h.output, Nat.le_trans h.size h2.size, fun g hg ho => (h2.out g (Nat.lt_of_lt_of_le hg h.size) ho).trans (h.out g hg ho)⟩
theorem Tch.of (h : Below w.heap.size w w') : Tch L B w w' := ⟨h.os, h.tape, h.output, h.size, fun g hg _ => h.block g hg⟩
theorem Tch.set (hL : L ≤ g) (hB : g < B) (v : Value) : Tch L B w (w.setCell ⟨g, i, none⟩ v) := ⟨rfl, rfl, rfl, by simp, fun g' hg ho => Below.heap_setCell w ⟨g, i, none⟩ v g' (by show g' ≠ g; omega)⟩
theorem Tch.more (h : Tch L B w w') (hL : L' ≤ L) (hB : B ≤ B') : Tch L' B' w w' := ⟨h.os, h.tape, h.output, h.size, fun g hg ho => h.out g hg (by omega)⟩
theorem Tch.below (h : Tch L B w w') (hL : L ≤ w.heap.size) : Below L w w' := ⟨h.os, h.tape, h.output, h.size, fun g hg => h.out g (by omega) (.inl hg)⟩
end
end Go.Proofs.YtceiafncpimihaaGreat

namespace Go.Proofs.YtceiafncpimihaaGreat
set_option linter.unusedVariables false
set_option linter.unusedSimpArgs false
open Go.RowKit

section
variable {w w' w'' : World} {L B L' B' g n i : Nat} {rs : List Ru}
theorem MkStep.tch (h : MkStep L B w w') : Tch L B w w' := ⟨h.os, h.tape, h.output, h.size, h.out⟩
theorem RowRu.cells (h : RowRu w g n) (hi : i < n * 4) : ∃ v, w.cell? ⟨g, i, none⟩ = some v := by
  obtain ⟨cs, h1, h2⟩ := h
  rw [cell_of_row _ _ _ _ _ _ h1]
  exact ⟨_, Array.getElem?_eq_getElem (by omega)⟩
theorem RowRu.frozen (h : RowRu w g n) (i : Nat) : w.frozen? ⟨g, i, none⟩ = false := by
  obtain ⟨cs, h1, h2⟩ := h
  exact blk_frozen h1 i
theorem RowRu.lt (h : RowRu w g n) : g < w.heap.size := by
  obtain ⟨cs, h1, h2⟩ := h
  exact blk_lt h1
theorem SkR.next (h : SkR w L B rs g n) (hB : B ≤ w.heap.size) (hb : Below w.heap.size w w') : SkR w' L B rs g n := by
  obtain ⟨⟨cs, h3, h4⟩, h5⟩ := h
  have hgl := blk_lt h3
  refine ⟨⟨cs, (hb.block g hgl).trans h3, h4⟩, fun i t k s ks hg => ?_⟩
  obtain ⟨a, m, c, h6, h7⟩ := h5 i t k s ks hg
  exact ⟨a, m, c, (hb.cell (p := ⟨g, i * 4 + 3, none⟩) hgl).trans h6, h7.below (hb.mono hB)⟩
/-- a cell of the row that is no slice is written to -/
theorem SkR.set (h : SkR w L B rs g n) (hgL : g < L) (hi : i % 4 ≠ 3) (v : Value) : SkR (w.setCell ⟨g, i, none⟩ v) L B rs g n := by
  obtain ⟨⟨cs, h3, h4⟩, h5⟩ := h
  refine ⟨⟨_, blk_set h3 i v, by simpa using h4⟩, fun i' t k s ks hg => ?_⟩
  obtain ⟨a, m, c, h6, h7⟩ := h5 i' t k s ks hg
  exact ⟨a, m, c, (World.cell?_setCell_other w _ _ _ (by simp <;> omega)).trans h6, h7.setCell (.inl hgL) _ _⟩
/-- operands are marked -/
theorem SkR.step (h : SkR w L B rs g n) (hgL : g < L) (hs : MkStep L B w w') : SkR w' L B rs g n := by
  obtain ⟨⟨cs, h3, h4⟩, h5⟩ := h
  have hgl := blk_lt h3
  have hb := hs.out g hgl (.inl hgL)
  refine ⟨⟨cs, hb.trans h3, h4⟩, fun i t k s ks hg => ?_⟩
  obtain ⟨a, m, c, h6, h7⟩ := h5 i t k s ks hg
  exact ⟨a, m, c, (show w'.cell? ⟨g, i * 4 + 3, none⟩ = w.cell? ⟨g, i * 4 + 3, none⟩ from World.cell?_of_block hb).trans h6, h7.step hs⟩
end
/-- how many marks the rules take -/
def ruMk : List Ru → Nat
  | [] => 0
  | x :: r => 3 + 2 * x.2.2.2.size + ruMk r
theorem ruMk_drop {rs : List Ru} {j : Nat} {x : Ru} (h : rs[j]? = some x) : ruMk (rs.drop j) = 3 + 2 * x.2.2.2.size + ruMk (rs.drop (j + 1)) := by
  obtain ⟨hl, rfl⟩ := List.getElem?_eq_some_iff.1 h
  rw [List.drop_eq_getElem_cons hl]
  rfl
theorem ruMk_le (rs : List Ru) : ruMk rs ≤ 3 * rs.length + 2 * ruTot rs := by
  induction rs with
  | nil => simp [ruMk]
  | cons x r ih =>
    have := x.2.2.2.size_le
    simp only [ruMk, ruTot, ruSz, List.length_cons]
    omega

end Go.Proofs.YtceiafncpimihaaGreat

namespace Go.Proofs.YtceiafncpimihaaGreat
set_option linter.unusedVariables false
set_option linter.unusedSimpArgs false
open Go.RowKit

/-- the cells of a row of rules whose operands have rows of their own -/
def RowX (w : World) (L B : Nat) (og : Option Nat) : List Ru → List (Nat × Fo) → List Value → Prop
  | [], [], xs => xs = []
  | x :: rs, y :: bs, xs => (∃ a c ys, xs = .string x.1 :: .int .i64 x.2.1 :: .string x.2.2.1 :: .slice a x.2.2.2.len c :: ys ∧ x.2.2.2.len ≤ c ∧ (∃ L1 B1, KA w L1 B1 x.2.2.2 a x.2.2.2.len ∧ L ≤ L1 ∧ B1 ≤ B ∧ ∀ g, og = some g → g < L1 ∨ B1 ≤ g) ∧ SepA w y.2 y.1 a x.2.2.2.len ∧ y.2.size = x.2.2.2.size ∧ RowX w L B og rs bs ys)
  | _, _, _ => False
section
variable {w w' : World} {L L' B B' b : Nat} {og og' : Option Nat} {rs : List Ru} {bs : List (Nat × Fo)} {xs : List Value}
theorem rowX_len : ∀ {rs : List Ru} {bs : List (Nat × Fo)} {xs : List Value}, RowX w L B og rs bs xs → xs.length = rs.length * 4 ∧ bs.length = rs.length
  | [], [], _, h => by simp only [RowX] at h; subst h; exact ⟨rfl, rfl⟩
  | x :: rs, y :: bs, _, ⟨a, c, ys, e, _, _, _, _, h⟩ => by subst e; have := rowX_len h; simp only [List.length_cons, this.1, this.2]; exact ⟨by omega, trivial⟩
  | [], _ :: _, _, h => absurd h (by simp [RowX])
  | _ :: _, [], _, h => absurd h (by simp [RowX])
theorem rowX_keep (hL : L' ≤ L) (hB : B ≤ B') (ho : ∀ g, og' = some g → og = some g ∨ g < L ∨ B ≤ g) (hk : ∀ p : Addr, L ≤ p.block → p.block < B → og ≠ some p.block → w'.cell? p = w.cell? p) : ∀ {rs : List Ru} {bs : List (Nat × Fo)} {xs : List Value}, (∀ x ∈ rblks bs, x < w.heap.size → w'.heap[x]? = w.heap[x]?) → RowX w L B og rs bs xs → RowX w' L' B' og' rs bs xs
  | [], [], _, _, h => h
  | x :: rs, y :: bs, _, hs, ⟨a, c, ys, e, hc, ⟨L1, B1, h1, h2, h3, h4⟩, h5, h6, h⟩ =>
    ⟨a, c, ys, e, hc, ⟨L1, B1, h1.keep (Nat.le_refl _) (Nat.le_refl _) fun p h5 h6 => hk p (by omega) (by omega) (fun e => by have := h4 _ e; omega), by omega, by omega, fun g hg => by
      rcases ho g hg with h | h | h
      · exact h4 g h
      · exact .inl (by omega)
      · exact .inr (by omega)⟩, h5.keep fun z hz => hs z (List.mem_append_left _ hz), h6, rowX_keep hL hB ho hk (fun z hz => hs z (List.mem_append_right _ hz)) h⟩
  | [], _ :: _, _, _, h => absurd h (by simp [RowX])
  | _ :: _, [], _, _, h => absurd h (by simp [RowX])
theorem rowX_snoc {a : Option Addr} {c L1 B1 : Nat} {t s : ByteArray} {k : Int} {ks : Fo} {g : Nat} {bk : Fo} (hc : ks.len ≤ c) (h1 : KA w L1 B1 ks a ks.len) (h2 : L ≤ L1) (h3 : B1 ≤ B) (h4 : ∀ g, og = some g → g < L1 ∨ B1 ≤ g) (h5 : SepA w bk g a ks.len) (h6 : bk.size = ks.size) :
    ∀ {rs : List Ru} {bs : List (Nat × Fo)} {xs : List Value}, RowX w L B og rs bs xs → RowX w L B og (rs ++ [(t, k, s, ks)]) (bs ++ [(g, bk)]) (xs ++ [.string t, .int .i64 k, .string s, .slice a ks.len c])
  | [], [], _, h => by simp only [RowX] at h; subst h; exact ⟨a, c, [], rfl, hc, ⟨L1, B1, h1, h2, h3, h4⟩, h5, h6, rfl⟩
  | x :: rs, y :: bs, _, ⟨a', c', ys, e, hc', h7, h8, h9, h⟩ => by subst e; exact ⟨a', c', _, rfl, hc', h7, h8, h9, rowX_snoc hc h1 h2 h3 h4 h5 h6 h⟩
  | [], _ :: _, _, h => absurd h (by simp [RowX])
  | _ :: _, [], _, h => absurd h (by simp [RowX])
theorem rowX_get : ∀ {rs : List Ru} {bs : List (Nat × Fo)} {xs : List Value} {j : Nat} {x : Ru} {y : Nat × Fo}, RowX w L B og rs bs xs → rs[j]? = some x → bs[j]? = some y →
    ∃ a c, xs[j * 4]? = some (.string x.1) ∧ xs[j * 4 + 1]? = some (.int .i64 x.2.1) ∧ xs[j * 4 + 2]? = some (.string x.2.2.1) ∧ xs[j * 4 + 3]? = some (.slice a x.2.2.2.len c) ∧ x.2.2.2.len ≤ c ∧ KA w L B x.2.2.2 a x.2.2.2.len ∧ SepA w y.2 y.1 a x.2.2.2.len ∧ y.2.size = x.2.2.2.size
  | x :: rs, y :: bs, _, 0, _, _, ⟨a, c, ys, e, hc, ⟨L1, B1, h1, h2, h3, h4⟩, h5, h6, h⟩, hx, hy => by
    simp only [List.getElem?_cons_zero, Option.some.injEq] at hx hy
    subst hx hy e
    exact ⟨a, c, rfl, rfl, rfl, rfl, hc, h1.more h2 h3, h5, h6⟩
  | x :: rs, y :: bs, _, j + 1, _, _, ⟨a, c, ys, e, hc, _, h5, h6, h⟩, hx, hy => by
    subst e
    have := rowX_get (j := j) h (by simpa using hx) (by simpa using hy)
    simpa only [show (j + 1) * 4 = j * 4 + 4 from by omega, show j * 4 + 4 + 1 = (j * 4 + 1) + 4 from by omega, show j * 4 + 4 + 2 = (j * 4 + 2) + 4 from by omega, show j * 4 + 4 + 3 = (j * 4 + 3) + 4 from by omega, List.getElem?_cons_succ] using this
  | [], _, _, _, _, _, _, hx, _ => by simp at hx
  | _ :: _, [], _, _, _, _, h, _, _ => absurd h (by simp [RowX])
theorem rblks_snoc (g : Nat) (bk : Fo) (bs : List (Nat × Fo)) : rblks (bs ++ [(g, bk)]) = rblks bs ++ blksA g bk := by simp [rblks]
end
/-- a list of rules of one's own whose rows share no block -/
def OwnQ (w : World) (base : Nat) (v : Value) (rs : List Ru) (bs : List (Nat × Fo)) : Prop := ∃ xs, w.ownsRow base 45 4 v rs.length xs ∧ RowX w base w.heap.size v.ownBlock rs bs xs ∧ (rblks bs).Nodup ∧ ∀ x ∈ rblks bs, base ≤ x ∧ x < w.heap.size ∧ v.ownBlock ≠ some x
theorem rules_under : Tryz.prog.underlying 24 = some (.slice 45) := by kernel_rfl
section
variable {w w' : World} {base base' : Nat} {v v' : Value} {rs : List Ru} {bs : List (Nat × Fo)} {r : Option Nat}
theorem OwnQ.lt (h : OwnQ w base v rs bs) : ∀ g, v.ownBlock = some g → base ≤ g ∧ g < w.heap.size := by
  obtain ⟨xs, h1, _⟩ := h
  exact World.ownsRow.lt h1
theorem OwnQ.bound (h : OwnQ w base v rs bs) : ∀ x ∈ rblks bs, x < w.heap.size := by
  obtain ⟨xs, _, _, _, h7⟩ := h
  exact fun x hx => (h7 x hx).2.1
theorem OwnQ.nil (w : World) (base : Nat) : OwnQ w base (.slice none 0 0) [] [] := ⟨[], World.ownsRow_nil _ _ _ _, rfl, List.nodup_nil, fun x hx => by simp [rblks] at hx⟩
theorem OwnQ.grown (h : OwnQ w base v rs bs) (hg : w.grownBy w' r) (hr : ∀ g, r = some g → g < base ∨ w.heap.size ≤ g) : OwnQ w' base v rs bs := by
  obtain ⟨xs, h1, h2, h6, h7⟩ := h
  refine ⟨xs, World.ownsRow.kept h1 hg ?_, rowX_keep (Nat.le_refl _) hg.size (fun g hg => .inl hg) (fun p h3 h4 _ => World.cell?_of_block (hg.block p.block h4 (fun e => by have := hr _ e.symm; omega))) (fun x hx hxs => hg.block x hxs (fun e => by have := hr _ e.symm; have := h7 x hx; omega)) h2, h6, fun x hx => ⟨(h7 x hx).1, Nat.lt_of_lt_of_le (h7 x hx).2.1 hg.size, (h7 x hx).2.2⟩⟩
  cases hv : v.ownBlock with
  | none => exact .inl rfl
  | some g => exact .inr fun e => by have := World.ownsRow.lt h1 g hv; have := hr g e.symm; omega
theorem OwnQ.alloc (h : OwnQ w base v rs bs) (o : Obj) : OwnQ (w.alloc o) base v rs bs := h.grown (World.grownBy_alloc w o none) fun g e => by cases e
theorem OwnQ.below (h : OwnQ w base v rs bs) (hb : Below w.heap.size w w') : OwnQ w' base v rs bs := h.grown (r := none) ⟨hb.os, hb.tape, hb.output, hb.size, fun i hi _ => hb.block i hi⟩ fun g e => by cases e
theorem OwnQ.setCell (h : OwnQ w base v rs bs) {g : Nat} (hg : g < base) (i : Nat) (u : Value) : OwnQ (w.setCell ⟨g, i, none⟩ u) base v rs bs :=
  h.grown (r := some g) (grown_set (World.grownBy.refl w _) (.inl rfl) u) fun j e => by injection e with e; omega
theorem OwnQ.mono (h : OwnQ w base v rs bs) (hb : base' ≤ base) : OwnQ w base' v rs bs := by
  obtain ⟨xs, h1, h2, h6, h7⟩ := h
  exact ⟨xs, World.ownsRow.mono h1 hb, rowX_keep hb (Nat.le_refl _) (fun g hg => .inl hg) (fun _ _ _ _ => rfl) (fun _ _ _ => rfl) h2, h6, fun x hx => ⟨Nat.le_trans hb (h7 x hx).1, (h7 x hx).2⟩⟩
/-- what a copied list of rules is told of -/
def CopQ (w : World) (base : Nat) (rs : List Ru) (a : Option Addr) (c : Nat) (bs : List (Nat × Fo)) (g : Nat) : Prop := RuAt w base w.heap.size rs a rs.length ∧ SepRA w bs g a rs.length ∧ (rblksA g bs).Nodup ∧ (∀ x ∈ rblksA g bs, base ≤ x ∧ x < w.heap.size) ∧ bsz bs = ruMk rs ∧ rs.length ≤ c
theorem rowX_mk {L B : Nat} {og : Option Nat} : ∀ {rs : List Ru} {bs : List (Nat × Fo)} {xs : List Value}, RowX w L B og rs bs xs → bsz bs = ruMk rs
  | [], [], _, _ => rfl
  | x :: rs, y :: bs, _, ⟨a, c, ys, e, _, _, _, h6, h⟩ => by simp only [bsz, ruMk, rowX_mk h, h6]
  | [], _ :: _, _, h => absurd h (by simp [RowX])
  | _ :: _, [], _, h => absurd h (by simp [RowX])
theorem OwnQ.form (h : OwnQ w base v rs bs) : ∃ a c g, v = .slice a rs.length c ∧ CopQ w base rs a c bs g := by
  obtain ⟨xs, h1, h2, h6, h7⟩ := h
  obtain ⟨hl1, hl2⟩ := rowX_len h2
  rcases h1.2 with ⟨rfl, h0⟩ | ⟨g, cap, cur, rfl, hb, hg, hc, hm, hcs, _⟩
  · refine ⟨none, 0, 0, by rw [h0], ⟨rfl, fun h => absurd h (by omega)⟩, ⟨hl2, fun hn => absurd hn (by omega)⟩, ?_, ?_, rowX_mk h2, by omega⟩
    · unfold rblksA; rw [if_pos (by omega)]; exact List.nodup_nil
    · unfold rblksA; rw [if_pos (by omega)]; intro x hx; simp at hx
  · have hcell : ∀ j u, xs[j]? = some u → w.cell? ⟨g, j, none⟩ = some u := fun j u hu => by
      have := World.ownsRow.cells h1 (g := g) rfl j u hu
      rwa [add_none, Nat.zero_add] at this
    refine ⟨_, cap, g, rfl, ⟨rfl, fun _ => ⟨g, 0, rfl, hb, blk_lt hg, fun j t k s ks hj => ?_⟩⟩, ⟨hl2, fun hn => ⟨rfl, ⟨cur, hg, by rw [hcs]; exact Nat.mul_le_mul_right _ hc⟩, fun i y hy => ?_⟩⟩, ?_, ?_, rowX_mk h2, hc⟩
    · have hjl := (List.getElem?_eq_some_iff.1 hj).1
      obtain ⟨a, c, e0, e1, e2, e3, hc', hk, _, _⟩ := rowX_get h2 hj (List.getElem?_eq_getElem (by omega))
      rw [Nat.zero_add]
      exact ⟨hcell _ _ e0, hcell _ _ e1, hcell _ _ e2, a, _, c, hcell _ _ e3, hc', hk⟩
    · have hil := (List.getElem?_eq_some_iff.1 hy).1
      obtain ⟨a, c, _, _, _, e3, _, _, hs, _⟩ := rowX_get h2 (List.getElem?_eq_getElem (show i < rs.length by omega)) hy
      have := hs.1
      rw [← this] at e3 hs
      exact ⟨a, c, hcell _ _ e3, hs⟩
    · unfold rblksA
      by_cases h0 : bs.length = 0
      · rw [if_pos h0]; exact List.nodup_nil
      · rw [if_neg h0]; exact List.nodup_cons.2 ⟨fun hx => (h7 g hx).2.2 rfl, h6⟩
    · intro x hx
      unfold rblksA at hx
      by_cases h0 : bs.length = 0
      · rw [if_pos h0] at hx; simp at hx
      · rw [if_neg h0] at hx
        rcases List.mem_cons.1 hx with rfl | hx
        · exact ⟨hb, blk_lt hg⟩
        · exact ⟨(h7 x hx).1, (h7 x hx).2.1⟩
end
theorem rule_info4 : (Tryz.prog.info? 45).map (fun i => (i.zero, i.size, i.bytes)) = some (some (.agg #[.string .empty, .int .i64 0, .string .empty, .slice none 0 0]), 4, 64) := by kernel_rfl
/-- one more rule -/
theorem wp_append_rq {w : World} {o : Oper} {a : Act} {K : Act → World → Prop} {Q : Exit → Act → World → Prop} (s x : Operand)
    (ho : o.op = .call { callee := .builtin .append, args := #[s, x], argTypes := #[24, 24] })
    (base : Nat) (v : Value) (rs : List Ru) (bs : List (Nat × Fo)) (hs : a.eval s = v) (hown : OwnQ w base v rs bs) (g c1 : Nat) (hx : a.eval x = .slice (some ⟨g, 0, none⟩) 1 c1)
    (t : ByteArray) (k : Int) (y : ByteArray) (ks : Fo) (ad : Option Addr) (c L1 : Nat) (bk1 : Fo) (g1 : Nat) {T : TypeId} (hbx : w.heap[g]? = some (.cells #[.string t, .int .i64 k, .string y, .slice ad ks.len c] T (0, 0))) (hc : ks.len ≤ c) (hk : KA w L1 w.heap.size ks ad ks.len) (hL : base ≤ L1) (hown1 : ∀ g, v.ownBlock = some g → g < L1) (hown2 : ∀ x ∈ rblks bs, x < L1)
    (hsep : SepA w bk1 g1 ad ks.len) (hnd : (blksA g1 bk1).Nodup) (hin : ∀ x ∈ blksA g1 bk1, L1 ≤ x ∧ x < w.heap.size) (hz : bk1.size = ks.size)
    (h63 : rs.length ≤ 1000000000) (hbase : base ≤ w.heap.size)
    (h : ∀ g cap w', OwnQ w' base (.slice (some ⟨g, 0, none⟩) (rs.length + 1) cap) (rs ++ [(t, k, y, ks)]) (bs ++ [(g1, bk1)]) → w.grownBy w' v.ownBlock → g < w'.heap.size → base ≤ g → K (a.put o.dst (.slice (some ⟨g, 0, none⟩) (rs.length + 1) cap)) w') :
    Oper.wp Tryz.prog o a w K Q := by
  obtain ⟨i, hi, hz0, hz1, hz2⟩ := info_parts rule_info4
  obtain ⟨xs, h1, h2, h6, h7⟩ := hown
  refine wp_append_at s x 24 ho base 45 i _ 4 64 rules_under hi hz0 hz1 hz2 rfl (by decide) v rs.length xs hs h1 ⟨g, 0, none⟩ 1 c1 [.string t, .int .i64 k, .string y, .slice ad ks.len c] hx rfl ?_ (by simp [Value.oneCell']) (by simp only [maxLen]; omega) (by omega) hbase fun v' w' h8 h9 h10 => ?_
  · intro j u hu
    rw [add_none, cell_of_row _ _ _ _ _ _ hbx]
    simpa using hu
  · have h11 : RowX w base w.heap.size v.ownBlock (rs ++ [(t, k, y, ks)]) (bs ++ [(g1, bk1)]) (xs ++ [.string t, .int .i64 k, .string y, .slice ad ks.len c]) :=
      rowX_snoc hc hk hL (Nat.le_refl _) (fun g hg => .inl (hown1 g hg)) hsep hz h2
    have h12 : RowX w' base w'.heap.size v'.ownBlock (rs ++ [(t, k, y, ks)]) (bs ++ [(g1, bk1)]) (xs ++ [.string t, .int .i64 k, .string y, .slice ad ks.len c]) := by
      refine rowX_keep (Nat.le_refl _) h9.size (fun g e => ?_) (fun p h4 h5 h6 => World.cell?_of_block (h9.block p.block h5 (fun e => h6 e.symm))) (fun x hx hxs => h9.block x hxs (fun e => ?_)) h11
      · rcases h10 with ho | ho
        · exact .inl (ho ▸ e)
        · exact .inr (.inr (ho g e))
      · rw [rblks_snoc] at hx
        rcases List.mem_append.1 hx with hx | hx
        · exact (h7 x hx).2.2 e.symm
        · have := hin x hx; have := hown1 x e.symm; omega
    have h14 : w'.ownsRow base 45 4 v' (rs ++ [(t, k, y, ks)]).length (xs ++ [.string t, .int .i64 k, .string y, .slice ad ks.len c]) := by rw [List.length_append]; exact h8
    obtain ⟨g', cap', rfl, h15, h16⟩ := World.ownsRow.form h8 (by omega)
    refine h g' cap' w' ⟨_, h14, h12, ?_, fun x hx => ?_⟩ h9 h16 h15
    · rw [rblks_snoc]
      exact List.nodup_append.2 ⟨h6, hnd, fun x hx y hy e => by have := hown2 x hx; have := hin y hy; omega⟩
    · rw [rblks_snoc] at hx
      have hxs : base ≤ x ∧ x < w.heap.size ∧ v.ownBlock ≠ some x := by
        rcases List.mem_append.1 hx with hx | hx
        · exact h7 x hx
        · have h17 := hin x hx
          exact ⟨by omega, h17.2, fun e => by have := hown1 x e; omega⟩
      refine ⟨hxs.1, Nat.lt_of_lt_of_le hxs.2.1 h9.size, fun e => ?_⟩
      rcases h10 with ho | ho
      · exact hxs.2.2 (ho ▸ e)
      · have := ho x e; omega
theorem wpList_append_rq {w : World} {ops : Array Oper} {rest : List Oper} {o : Oper} {a : Act} {Q : Exit → Act → World → Prop} (hgd : o.guard = none) (s x : Operand)
    (ho : o.op = .call { callee := .builtin .append, args := #[s, x], argTypes := #[24, 24] })
    (base : Nat) (v : Value) (rs : List Ru) (bs : List (Nat × Fo)) (hs : a.eval s = v) (hown : OwnQ w base v rs bs) (g c1 : Nat) (hx : a.eval x = .slice (some ⟨g, 0, none⟩) 1 c1)
    (t : ByteArray) (k : Int) (y : ByteArray) (ks : Fo) (ad : Option Addr) (c L1 : Nat) (bk1 : Fo) (g1 : Nat) {T : TypeId} (hbx : w.heap[g]? = some (.cells #[.string t, .int .i64 k, .string y, .slice ad ks.len c] T (0, 0))) (hc : ks.len ≤ c) (hk : KA w L1 w.heap.size ks ad ks.len) (hL : base ≤ L1) (hown1 : ∀ g, v.ownBlock = some g → g < L1) (hown2 : ∀ x ∈ rblks bs, x < L1)
    (hsep : SepA w bk1 g1 ad ks.len) (hnd : (blksA g1 bk1).Nodup) (hin : ∀ x ∈ blksA g1 bk1, L1 ≤ x ∧ x < w.heap.size) (hz : bk1.size = ks.size)
    (h63 : rs.length ≤ 1000000000) (hbase : base ≤ w.heap.size)
    (h : ∀ g cap w', OwnQ w' base (.slice (some ⟨g, 0, none⟩) (rs.length + 1) cap) (rs ++ [(t, k, y, ks)]) (bs ++ [(g1, bk1)]) → w.grownBy w' v.ownBlock → g < w'.heap.size → base ≤ g → wpList Tryz.prog ops Q rest (a.put o.dst (.slice (some ⟨g, 0, none⟩) (rs.length + 1) cap)) w') :
    wpList Tryz.prog ops Q (o :: rest) a w :=
  wpList_plain hgd fun _ hK => wp_append_rq s x ho base v rs bs hs hown g c1 hx t k y ks ad c L1 bk1 g1 hbx hc hk hL hown1 hown2 hsep hnd hin hz h63 hbase fun g cap w' h1 h2 h3 h4 => hK _ _ (h g cap w' h1 h2 h3 h4)
/-- what copyList of rules leaves -/
def CopRL (rs : List Ru) (w : World) (e : Ending) (w' : World) : Prop := ∃ a c bs g, e = .returned (.slice a rs.length c) ∧ CopQ w' w.heap.size rs a c bs g ∧ Below w.heap.size w w'

set_option maxRecDepth 100000 in
set_option maxHeartbeats 4000000 in
theorem copyRules_z (rs : List Ru) (hN : RuZ rs) (a : Option Addr) (n c : Nat) (w : World) (hk : RuAt w 0 w.heap.size rs a n) (hnc : n ≤ c) :
    Calls Tryz.prog 82 #[.slice a n c, .func (.func 83) #[] #[]] w (CopRL rs w) := by
  have hn : n ≤ 1048577 := by have := hk.1; have := hN.1; omega
  have hlen := hk.1
  go_enter Tryz.func82, Tryz.ntmps82
  go_wp2_with fail
  go_loopw [5, 10] (fun v i wr => ∃ (j : Nat) (bs : List (Nat × Fo)), j ≤ n ∧ i = .int .i64 j ∧ OwnQ wr w.heap.size v (rs.take j) bs ∧ Below w.heap.size w wr) (fun _ i _ => n - (intOf i).toNat)
  case atStart => exact ⟨0, [], Nat.zero_le _, rfl, by simpa using OwnQ.nil w w.heap.size, Below.refl _ _⟩
  case round =>
    obtain ⟨j, bs, hj, rfl, hown, hB⟩ := hrel
    have htl : (rs.take j).length = j := by simp; omega
    by_cases hlt : j < n
    · obtain ⟨b, off, t3, k3, s3, ks3, a3, n3, c3, rfl, _, hb3, hg3, hc0, hc1, hc2, hc3, hcap3, hk3⟩ := (hk.below hB).get hlt
      have hjj : (j : Int) < (n : Int) := by omega
      have hj0 : (0 : Int) ≤ (j : Int) := by omega
      have hkz : ks3.size ≤ 1048576 := hN.2 _ (List.mem_of_getElem? hg3)
      have hn3 := hk3.1
      have Hown := Lib.hid hown
      have Hst := Lib.hid (show rs.take (j + 1) = rs.take j ++ [(t3, k3, s3, ks3)] from by rw [List.take_add_one, hg3]; simp)
      have Hk3 := Lib.hid hk3
      have Htl := Lib.hid htl
      clear hown hg3 hk3 htl
      go_wp2_with fail
      refine (copyRule_any t3 k3 s3 ks3 a3 n3 c3 _ ((Hk3.out.more (Nat.le_refl _) hB.size).alloc (Nat.le_refl _) _ |>.more (Nat.le_refl _) (by simp)) hcap3 (by omega)).mono ?_
      rintro e w4 ⟨a4, c4, bk4, g4, rfl, ⟨hl4, hm4, hk4, hs4, hnd4, hin4, hz4⟩, hB4⟩
      have hBx := (Below.refl wr.heap.size wr).alloc (Nat.le_refl _) (.cells #[.string t3, .int .i64 k3, .string s3, .slice a3 n3 c3] 45)
      have B4 := hBx.trans (hB4.mono hBx.size)
      have hs4w := hB4.size
      simp only [World.size_alloc] at hk4 hin4 hs4w
      have Hown4 := Lib.hid (Hown.out.below B4)
      have hlo := Hown.out.lt
      have hin := Hown.out.bound
      subst hn3
      clear hc0 hc1 hc2 hc3
      go_wp2_with (at_builtin; refine wpList_append_rq rfl _ _ rfl w.heap.size _ (rs.take j) bs rfl (Hown4.out.alloc _) w4.heap.size 1 rfl t3 k3 s3 ks3 a4 c4 (wr.heap.size + 1) bk4 g4 (heap_alloc_new w4 _) hl4 ((hk4.alloc (Nat.le_refl _) _).more (Nat.le_refl _) (by simp)) (by have := hB.size; omega) (fun g hg => by have := (hlo g hg).2; omega) (fun x hx => by have := hin x hx; omega) (hs4.keep fun x _ hx => Below.heap_alloc w4 _ x hx) hnd4 (fun x hx => ⟨(hin4 x hx).1, by have := (hin4 x hx).2; simp; omega⟩) hz4 (by have := Htl.out; omega) (by have := hB.size; simp; omega) ?_; intro g6 cap6 w6 hown6 hgrow6 hlt6 hbg6)
      have hB6 : Below w.heap.size w w6 := ((hB.trans (B4.mono hB.size)).alloc (by have := hB.size; omega) _).grown hgrow6 (by have := hB.size; simp; omega) (fun g' e => by have := (hlo _ e).1; omega)
      rw [Htl.out, ← Hst.out] at hown6
      exact ⟨⟨j + 1, _, by omega, by go_num, hown6, hB6⟩, by simp [intOf]; omega⟩
    · have hall : rs.take j = rs := List.take_of_length_le (by omega)
      rw [hall] at hown
      obtain ⟨av, dv, gv, rfl, hcv⟩ := hown.form
      have hjj : ¬ (j : Int) < (n : Int) := by omega
      have Hcv := Lib.hid hcv
      clear hown hcv hall htl
      go_wp2_with fail
      go_ret
      exact ⟨av, dv, bs, gv, by rw [hlen]; rfl, Hcv.out, hB⟩
/-- what copyProject leaves -/
def CopPr (fs : List Fl) (rs : List Ru) (w : World) (e : Ending) (w' : World) : Prop := ∃ v a c bs g, e = .returned (.agg #[v, .slice a rs.length c]) ∧ OwnsF w' w.heap.size v fs ∧ (∀ x ∈ rblksA g bs, v.ownBlock ≠ some x) ∧ CopQ w' w.heap.size rs a c bs g ∧ Below w.heap.size w w'
theorem CopQ.mono {w : World} {base base' c g : Nat} {rs : List Ru} {bs : List (Nat × Fo)} {a : Option Addr} (h : CopQ w base rs a c bs g) (hb : base' ≤ base) : CopQ w base' rs a c bs g := by
  obtain ⟨h3, h4, h5, h6, h7⟩ := h
  exact ⟨h3.more hb (Nat.le_refl _), h4, h5, fun x hx => ⟨Nat.le_trans hb (h6 x hx).1, (h6 x hx).2⟩, h7⟩
theorem CopQ.setCell {w : World} {base c g g' : Nat} {rs : List Ru} {bs : List (Nat × Fo)} {a : Option Addr} (h : CopQ w base rs a c bs g) (hg : g' < base) (i : Nat) (u : Value) : CopQ (w.setCell ⟨g', i, none⟩ u) base rs a c bs g := by
  obtain ⟨h3, h4, h5, h6, h7⟩ := h
  have hsz : (w.setCell ⟨g', i, none⟩ u).heap.size = w.heap.size := by simp [World.setCell]
  refine ⟨(h3.setCell (.inl hg) i u).more (Nat.le_refl _) (by omega), h4.keep fun x hx _ => Below.heap_setCell w _ _ x (by have := h6 x hx; show x ≠ g'; omega), h5, fun x hx => ⟨(h6 x hx).1, by rw [hsz]; exact (h6 x hx).2⟩, h7⟩
end Go.Proofs.YtceiafncpimihaaGreat

namespace Go.Proofs.YtceiafncpimihaaGreat
set_option linter.unusedVariables false
set_option linter.unusedSimpArgs false
open Go.RowKit

theorem bxP_two {w : World} {g : Nat} {u v : Value} {T : TypeId} (h : BxP w g u v T) : w.cell? ⟨g, 0, none⟩ = some u ∧ w.cell? ⟨g, 1, none⟩ = some v := ⟨h.facts.1, h.facts.2.1⟩
theorem OwnsF.set {w : World} {base g : Nat} {v : Value} {fs : List Fl} (h : OwnsF w base v fs) (hg : g < base) (i : Nat) (u : Value) : OwnsF (w.setCell ⟨g, i, none⟩ u) base v fs :=
  World.ownsRow.kept (row := some g) h (grown_set (p := ⟨g, i, none⟩) (World.grownBy.refl w _) (.inl rfl) u) (by
    cases hv : v.ownBlock with
    | none => exact .inl rfl
    | some b => exact .inr fun e => by injection e with e; have := World.ownsRow.lt h b hv; omega)
theorem OwnsF.lt {w : World} {base : Nat} {v : Value} {fs : List Fl} (h : OwnsF w base v fs) : ∀ g, v.ownBlock = some g → base ≤ g ∧ g < w.heap.size := fun g hg => World.ownsRow.lt h g hg
/-- the copy's facts, whichever of its lists was copied first -/
theorem copPr_mk {w : World} {n0 base : Nat} {fs : List Fl} {rs : List Ru} {v : Value} {a : Option Addr} {c g : Nat} {bs : List (Nat × Fo)} (hf : OwnsF w base v fs) (hq : CopQ w base rs a c bs g) (hd : ∀ x ∈ rblksA g bs, v.ownBlock ≠ some x) (hb : n0 ≤ base) (i : Nat) (hi : i < base) (x y : Value) :
    OwnsF ((w.setCell ⟨i, 0, none⟩ x).setCell ⟨i, 1, none⟩ y) n0 v fs ∧ (∀ x ∈ rblksA g bs, v.ownBlock ≠ some x) ∧ CopQ ((w.setCell ⟨i, 0, none⟩ x).setCell ⟨i, 1, none⟩ y) n0 rs a c bs g :=
  ⟨World.ownsRow.mono ((OwnsF.set (OwnsF.set hf hi 0 x) hi 1 y)) hb, hd, ((hq.setCell hi 0 x).setCell hi 1 y).mono hb⟩
theorem CopQ.below {w w' : World} {base c g : Nat} {rs : List Ru} {bs : List (Nat × Fo)} {a : Option Addr} (h : CopQ w base rs a c bs g) (hb : Below w.heap.size w w') : CopQ w' base rs a c bs g := by
  obtain ⟨h3, h4, h5, h6, h7⟩ := h
  exact ⟨h3.next hb, h4.keep fun x hx hxs => hb.block x hxs, h5, fun x hx => ⟨(h6 x hx).1, Nat.lt_of_lt_of_le (h6 x hx).2 hb.size⟩, h7⟩

set_option maxRecDepth 100000 in
set_option maxHeartbeats 4000000 in
theorem copyProject_z (a1 a2 : Option Addr) (n1 n2 c1 c2 : Nat) (fs : List Fl) (rs : List Ru) (w : World) (hf : FilesAt w w.heap.size a1 n1 fs) (hn1 : n1 ≤ 1048576) (hr : RuAt w 0 w.heap.size rs a2 n2) (hN : RuZ rs) (hnc : n2 ≤ c2) :
    Calls Tryz.prog 61 #[.agg #[.slice a1 n1 c1, .slice a2 n2 c2]] w (CopPr fs rs w) := by
  have hB0 := ((Below.refl w.heap.size w).alloc (Nat.le_refl _) (.cells #[.slice a1 n1 c1, .slice a2 n2 c2] 26)).alloc (by simp) (.cells #[.slice none 0 0, .slice none 0 0] 26)
  have hP0 := (BxP.new w (.slice a1 n1 c1) (.slice a2 n2 c2) 26).alloc (.cells #[.slice none 0 0, .slice none 0 0] 26)
  have hE0 := BxP.new (w.alloc (.cells #[.slice a1 n1 c1, .slice a2 n2 c2] 26)) (.slice none 0 0) (.slice none 0 0) 26
  simp only [World.size_alloc] at hE0
  have hD := (Below.refl ((w.alloc (.cells #[.slice a1 n1 c1, .slice a2 n2 c2] 26)).alloc (.cells #[.slice none 0 0, .slice none 0 0] 26)).heap.size ((w.alloc (.cells #[.slice a1 n1 c1, .slice a2 n2 c2] 26)).alloc (.cells #[.slice none 0 0, .slice none 0 0] 26))).drew
  have hBD := hB0.trans (hD.mono hB0.size)
  have hPD := hP0.next hD
  have hED := hE0.next hD
  have HC0 := Lib.hid (bxP_two hPD)
  have hf0 := (hf.below hBD).more hBD.size
  have hr0 := hr.next hBD
  have hsz0 : (((w.alloc (.cells #[.slice a1 n1 c1, .slice a2 n2 c2] 26)).alloc (.cells #[.slice none 0 0, .slice none 0 0] 26)).drew).heap.size = w.heap.size + 2 := by simp [World.drew]
  clear hf hr
  go_enter Tryz.func61, Tryz.ntmps61
  go_wp2_with fail
  generalize hW : (w.alloc (.cells #[.slice a1 n1 c1, .slice a2 n2 c2] 26)).alloc (.cells #[.slice none 0 0, .slice none 0 0] 26) = W at *
  go_region_held3 (fun w' => w'.cell? ⟨w.heap.size, 0, none⟩ = some (.slice a1 n1 c1) ∧ w'.cell? ⟨w.heap.size, 1, none⟩ = some (.slice a2 n2 c2)) (first | exact HC0.out | exact HC1.out | exact HC2.out | exact HC3.out | exact bxP_two ((hP3.other (by omega) 0 _).other (by omega) 1 _))
    ((first
      | (go_at_call 80; (with_reducible refine (copyFiles_any a1 n1 c1 fs W.drew hf0 hn1).mono ?_); rintro e v1 ⟨vf, rfl, hown1, hC1⟩; obtain ⟨av, cv, rfl, hfa⟩ := hown1.form; have hP1 := hPD.next hC1; have HC1 := Lib.hid (bxP_two hP1); have hE1 := hED.next hC1)
      | (go_at_call 82; refine (copyRules_z rs hN a2 n2 c2 v1 (hr0.next hC1) hnc).mono ?_; rintro e v3 ⟨a4, c4, bs4, g4, rfl, hq3, hC3⟩; have hP3 := hP1.next hC3; have HC3 := Lib.hid (bxP_two hP3); have hE3 := hE1.next hC3; obtain ⟨z0, z1, zf0, zf1, zl⟩ := hE3.facts)))
  have hown := own_raise hown1 hC3
  have hlo := hown1.lt
  have hq := hq3.mono hC1.size
  have hd : ∀ x ∈ rblksA g4 bs4, (Value.slice av fs.length cv).ownBlock ≠ some x := fun x hx e => by have := hlo x e; have := (hq3.2.2.2.1 x hx).1; omega
  have hfin := Lib.hid (copPr_mk (n0 := w.heap.size) hown hq hd (by omega) (w.heap.size + 1) (by omega) (.slice av fs.length cv) (.slice a4 rs.length c4))
  have hBf := Lib.hid ((((hBD.trans (hC1.mono (by omega))).trans (hC3.mono (by have := hC1.size; omega))).setCell (p := ⟨w.heap.size + 1, 0, none⟩) (Nat.le_succ _) (.slice av fs.length cv)).setCell (p := ⟨w.heap.size + 1, 1, none⟩) (Nat.le_succ _) (.slice a4 rs.length c4))
  have hE4 := (hE3.set0 (.slice av fs.length cv)).set1 (.slice a4 rs.length c4)
  obtain ⟨y0, y1, yf0, yf1, yl⟩ := hE4.facts
  clear hown hlo hq hd hP1 hP3 HC1 HC3 hE1 hE3 z0 z1 zf0 zf1 zl
  go_wp2_with fail
  refine bodyPost_ret (v := .agg #[.slice av fs.length cv, .slice a4 rs.length c4]) (by simp [results, Tryz.results61, go_sem, *]) rfl ?_
  exact ⟨_, a4, c4, bs4, g4, rfl, hfin.out.1, hfin.out.2.1, hfin.out.2.2, hBf.out⟩
end Go.Proofs.YtceiafncpimihaaGreat

namespace Go.Proofs.YtceiafncpimihaaGreat
set_option linter.unusedVariables false
open Go.RowKit

theorem Short.more {m l : Nat} {fs : List Fl} (h : Short m fs) (hl : m ≤ l) : Short l fs := fun f hf => by have := h f hf; omega
theorem Short.snoc {m : Nat} {fs : List Fl} {f : Fl} (h : Short m fs) (hf : f.1.size ≤ m ∧ f.2.size ≤ m) : Short m (fs ++ [f]) := fun y hy => by
  rcases List.mem_append.1 hy with hy | hy
  · exact h y hy
  · obtain rfl : y = f := by simpa using hy
    exact hf
theorem Short.set {m k : Nat} {fs : List Fl} {f : Fl} (h : Short m fs) (hf : f.1.size ≤ m ∧ f.2.size ≤ m) : Short m (fs.set k f) := fun y hy => by
  rcases List.mem_or_eq_of_mem_set hy with hy | rfl
  · exact h y hy
  · exact hf

theorem OwnsF.files {w : World} {base n c : Nat} {a : Option Addr} {fs : List Fl} (h : OwnsF w base (.slice a n c) fs) : n = fs.length ∧ FilesAt w w.heap.size a fs.length fs := by
  obtain ⟨b, d, e, hf⟩ := h.form
  cases e
  exact ⟨rfl, hf⟩

/-- what l1Mutate leaves: a list of its own -/
def ListNew (w : World) (B R : Nat) (a : Option Addr) (n c p k m l : Nat) (e : Ending) (w' : World) : Prop :=
  ∃ a' c' fs q, e = .returned (.slice a' (List.length fs) c') ∧ FilesAt w' w'.heap.size a' (List.length fs) fs ∧ Short m fs ∧ List.length fs ≤ l ∧ Step w w' B R a n c p q k ∧ ∀ x, a' = some x → w.heap.size ≤ x.block

/-- what l1Mutate leaves: a row of its own -/
def ListOwn (w : World) (B R : Nat) (a : Option Addr) (n c p k m l : Nat) (e : Ending) (w' : World) : Prop :=
  ∃ a' c' fs q, e = .returned (.slice a' (List.length fs) c') ∧ OwnsF w' w.heap.size (.slice a' (List.length fs) c') fs ∧ Short m fs ∧ List.length fs ≤ l ∧ Step w w' B R a n c p q k

end Go.Proofs.YtceiafncpimihaaGreat

namespace Go.Proofs.YtceiafncpimihaaGreat
set_option linter.unusedVariables false
open Go.RowKit

theorem BytesAt.under {w w' : World} {a : Option Addr} {n : Nat} (h : BytesAt w w.heap.size a n) (hB : Below w.heap.size w w') : BytesAt w' w'.heap.size a n := fun hn => by
  obtain ⟨b, off, ha, hb, hz⟩ := h hn
  refine ⟨b, off, ha, Nat.lt_of_lt_of_le hb hB.size, fun i hi => ?_⟩
  obtain ⟨z, h0, h1, hc⟩ := hz i hi
  exact ⟨z, h0, h1, (hB.cell (p := ⟨b, off + i, none⟩) hb).trans hc⟩

theorem BytesAt.in1 {w : World} {a : Option Addr} {n : Nat} (h : BytesAt w w.heap.size a n) (o : Obj) : BytesAt (w.alloc o) (w.alloc o).heap.size a n := fun hn => by
  obtain ⟨b, off, ha, hb, hz⟩ := h hn
  refine ⟨b, off, ha, by simp; omega, fun i hi => ?_⟩
  obtain ⟨z, h0, h1, hc⟩ := hz i hi
  exact ⟨z, h0, h1, (World.cell?_alloc_lt w o ⟨b, off + i, none⟩ hb).trans hc⟩

end Go.Proofs.YtceiafncpimihaaGreat

namespace Go.Proofs.YtceiafncpimihaaGreat
set_option linter.unusedVariables false
open Go.RowKit

/-- a box with an expression -/
def ExB (V : World) (g : Nat) (k : Int) (s : ByteArray) (ks : Fo) (a : Option Addr) (n c : Nat) (T : TypeId) : Prop := BxE V g k s (.slice a n c) T ∧ KA V 0 V.heap.size ks a n
/-- .. of a law's copy -/
def ExQ (V : World) (g : Nat) (k : Int) (s : ByteArray) (ks : Fo) (a : Option Addr) (n c : Nat) (T : TypeId) : Prop := ExB V g k s ks a n c T ∧ RdA V ks a n
section
variable {V V' : World} {g g' : Nat} {k k' : Int} {s s' : ByteArray} {ks ks' : Fo} {a a' : Option Addr} {n n' c c' : Nat} {T T' : TypeId}
theorem ExB.next (h : ExB V g k s ks a n c T) (hB : Below V.heap.size V V') : ExB V' g k s ks a n c T := ⟨h.1.next hB, h.2.next hB⟩
theorem ExQ.next (h : ExQ V g k s ks a n c T) (hB : Below V.heap.size V V') : ExQ V' g k s ks a n c T := ⟨h.1.next hB, h.2.keep fun b hb => hB.block b hb⟩
theorem ExB.three (h : ExB V g k s ks a n c T) : V.cell? ⟨g, 0, none⟩ = some (.int .i64 k) ∧ V.cell? ⟨g, 1, none⟩ = some (.string s) ∧ V.cell? ⟨g, 2, none⟩ = some (.slice a n c) := ⟨h.1.c0, h.1.c1, h.1.c2⟩
theorem and6 {a b c d e f : Prop} (H : (a ∧ b ∧ c) ∧ (d ∧ e ∧ f)) : a ∧ b ∧ c ∧ d ∧ e ∧ f := ⟨H.1.1, H.1.2.1, H.1.2.2, H.2⟩
end
/-- two drawn expressions in their boxes -/
def PrE (V : World) (g g' : Nat) (k : Int) (s : ByteArray) (ks : Fo) (a : Option Addr) (c : Nat) (k' : Int) (s' : ByteArray) (ls : Fo) (b : Option Addr) (d : Nat) : Prop := ExQ V g k s ks a ks.len c 43 ∧ ExQ V g' k' s' ls b ls.len d 43
theorem PrE.next {V V' : World} {g g' : Nat} {k k' : Int} {s s' : ByteArray} {ks ls : Fo} {a b : Option Addr} {c d : Nat} (h : PrE V g g' k s ks a c k' s' ls b d) (hB : Below V.heap.size V V') : PrE V' g g' k s ks a c k' s' ls b d := ⟨h.1.next hB, h.2.next hB⟩
end Go.Proofs.YtceiafncpimihaaGreat

namespace Go.Proofs.YtceiafncpimihaaGreat
set_option linter.unusedVariables false
open Go.RowKit

/-- all nodes are right -/
def good : Fo → Bool
  | .nil => true
  | .node k s ks r => nodeB k s ks.len && good ks && good r
theorem good_of : ∀ {f : Fo} {d : Nat}, shape f d = true → good f = true
  | .nil, _, _ => rfl
  | .node k s ks r, d, h => by
    simp only [shape, Bool.and_eq_true] at h
    simp only [good, Bool.and_eq_true]
    exact ⟨⟨h.1.1.2, good_of h.1.2⟩, good_of h.2⟩
theorem good_get : ∀ {f : Fo} {j : Nat} {k : Int} {s : ByteArray} {ks : Fo}, good f = true → f.get j = some (k, s, ks) → nodeB k s ks.len = true ∧ good ks = true
  | .nil, _, _, _, _, _, h => by simp [Fo.get] at h
  | .node k s ks r, 0, _, _, _, hf, h => by
    simp only [Fo.get, Option.some.injEq, Prod.mk.injEq] at h
    obtain ⟨rfl, rfl, rfl⟩ := h
    simp only [good, Bool.and_eq_true] at hf
    exact hf.1
  | .node k s ks r, j + 1, _, _, _, hf, h => by
    simp only [good, Bool.and_eq_true] at hf
    exact good_get (f := r) (j := j) hf.2 h
theorem valid_good {k : Int} {s : ByteArray} {ks : Fo} (h : validE k s ks = true) : nodeB k s ks.len = true ∧ good ks = true ∧ ks.size + 1 ≤ 20 := by
  unfold validE at h
  simp only [Bool.and_eq_true, decide_eq_true_eq] at h
  have := good_of h.1
  simp only [good, Bool.and_eq_true] at this
  exact ⟨this.1.1, this.1.2, h.2⟩
/-- the kinds -/
theorem node_kinds {k : Int} {s : ByteArray} {n : Nat} (h : nodeB k s n = true) :
    (k = 1 ∧ n = 0 ∧ plainB s = true) ∨ (k = 3 ∧ n ≤ 4 ∧ s = .empty) ∨ (k = 4 ∧ n = 4 ∧ s = .empty) ∨ ((k = 2 ∨ k = 5 ∨ k = 6 ∨ k = 7) ∧ n = 1 ∧ s = .empty) := by
  unfold nodeB kidsB at h
  simp only [Bool.and_eq_true, Bool.or_eq_true, decide_eq_true_eq] at h
  obtain ⟨⟨h1, h2⟩, h3⟩ := h
  rcases h1 with ((⟨h1, h4⟩ | ⟨h1, h4⟩) | ⟨h1, h4⟩) | ⟨h1, h4⟩
  · exact .inl ⟨h1, h4, h2⟩
  · exact .inr (.inl ⟨h1, h4, h3.resolve_left (by omega)⟩)
  · exact .inr (.inr (.inl ⟨h1, h4, h3.resolve_left (by omega)⟩))
  · exact .inr (.inr (.inr ⟨by rcases h1 with ((h1 | h1) | h1) | h1 <;> simp [h1], h4, h3.resolve_left (by omega)⟩))
theorem plain_size {s : ByteArray} (h : plainB s = true) : s.size ≤ 60 := by
  unfold plainB at h
  simp only [Bool.and_eq_true] at h
  exact ((textB_iff s).1 h.2).1
theorem node_size {k : Int} {s : ByteArray} {n : Nat} (h : nodeB k s n = true) : s.size ≤ 60 := by
  unfold nodeB at h
  simp only [Bool.and_eq_true] at h
  exact plain_size h.1.2
theorem len_one {ks : Fo} (h : ks.len = 1) : ∃ k s f, ks = .node k s f .nil := by
  match ks, h with
  | .node k s f .nil, _ => exact ⟨k, s, f, rfl⟩
  | .node k s f (.node ..), h => simp [Fo.len] at h
theorem len_zero {ks : Fo} (h : ks.len = 0) : ks = .nil := by
  match ks, h with
  | .nil, _ => rfl
  | .node .., h => simp [Fo.len] at h
/-- the byte that a node with one operand begins with -/
def chrB (k : Int) : UInt8 := if k = 2 then 64 else if k = 5 then 60 else if k = 6 then 62 else 35
/-- the texts of nodes, each with what stands behind it -/
def fmS : Fo → List (List UInt8) → List UInt8
  | .nil, _ => []
  | .node k s ks r, seps => (if k = 1 then [39] ++ s.data.toList ++ [39] else if k = 3 then [40] ++ fmS ks [] ++ [41] else if k = 4 then [91] ++ fmS ks [[61], [63], [58], [93]] else [chrB k] ++ fmS ks []) ++ seps.headD [] ++ fmS r seps.tail
/-- the text of a node -/
def fm1 (k : Int) (s : ByteArray) (ks : Fo) : List UInt8 :=
  if k = 1 then [39] ++ s.data.toList ++ [39] else if k = 3 then [40] ++ fmS ks [] ++ [41] else if k = 4 then [91] ++ fmS ks [[61], [63], [58], [93]] else [chrB k] ++ fmS ks []
theorem fmS_node (k : Int) (s : ByteArray) (ks r : Fo) (seps : List (List UInt8)) : fmS (.node k s ks r) seps = fm1 k s ks ++ seps.headD [] ++ fmS r seps.tail := rfl
theorem fmS_one (k : Int) (s : ByteArray) (ks : Fo) : fmS (.node k s ks .nil) [] = fm1 k s ks := by rw [fmS_node]; simp [fmS]
theorem fmS_len : ∀ {f : Fo} (seps : List (List UInt8)), good f = true → (∀ x ∈ seps, x.length ≤ 1) → (fmS f seps).length ≤ 63 * f.size
  | .nil, _, _, _ => Nat.le_refl _
  | .node k s ks r, seps, hg, hs => by
    simp only [good, Bool.and_eq_true] at hg
    have h1 := fmS_len (f := ks) [] hg.1.2 (by simp)
    have h2 := fmS_len (f := ks) [[61], [63], [58], [93]] hg.1.2 (by simp)
    have h3 := fmS_len (f := r) seps.tail hg.2 (fun x hx => hs x (List.mem_of_mem_tail hx))
    have h4 : (seps.headD []).length ≤ 1 := by
      cases seps with
      | nil => simp
      | cons a l => exact hs a (by simp)
    have h5 := node_size hg.1.1
    have h6 : s.data.toList.length ≤ 60 := by rw [Array.length_toList]; exact h5
    rw [fmS_node, List.length_append, List.length_append]
    simp only [Fo.size]
    have h7 : (fm1 k s ks).length ≤ 62 + 63 * ks.size := by
      unfold fm1
      split
      · simp only [List.length_append, List.length_cons, List.length_nil]; omega
      · split
        · simp only [List.length_append, List.length_cons, List.length_nil]; omega
        · split
          · simp only [List.length_append, List.length_cons, List.length_nil]; omega
          · simp only [List.length_append, List.length_cons, List.length_nil]; omega
    omega
theorem fm1_len {k : Int} {s : ByteArray} {ks : Fo} (hn : nodeB k s ks.len = true) (hg : good ks = true) : (fm1 k s ks).length ≤ 63 * (ks.size + 1) := by
  have := fmS_len (f := .node k s ks .nil) [] (by simp only [good, hn, hg, Bool.and_true]) (by simp)
  rw [fmS_one] at this
  simpa [Fo.size] using this
/-- the text of an expression, if it is valid -/
def fmtE (k : Int) (s : ByteArray) (ks : Fo) : ByteArray := if validE k s ks = true then ⟨(fm1 k s ks).toArray⟩ else .empty
end Go.Proofs.YtceiafncpimihaaGreat

namespace Go.Proofs.YtceiafncpimihaaGreat
set_option linter.unusedVariables false
open Go.RowKit

/-- the line of a source -/
def lineS (f : Fl) : List UInt8 := [115, 111, 117, 114, 99, 101, 32] ++ (f.1.data.toList ++ ([32] ++ (f.2.data.toList ++ [10])))
/-- the line of a rule -/
def lineR (x : Ru) : List UInt8 := [114, 117, 108, 101, 32] ++ (x.1.data.toList ++ ([32] ++ ((fmtE x.2.1 x.2.2.1 x.2.2.2).data.toList ++ [10])))
/-- the lines -/
def linesP (fs : List Fl) (rs : List Ru) : List UInt8 := [112, 114, 111, 106, 101, 99, 116, 10] ++ (fs.flatMap lineS ++ rs.flatMap lineR)
/-- what FormatProject answers -/
def fmtP (fs : List Fl) (rs : List Ru) : ByteArray := if projB fs rs = true then ⟨(linesP fs rs).toArray⟩ else .empty
theorem flat_take {α : Type} (g : α → List UInt8) {l : List α} {j : Nat} {x : α} (h : l[j]? = some x) : (l.take (j + 1)).flatMap g = (l.take j).flatMap g ++ g x := by
  rw [List.take_add_one, h, List.flatMap_append]
  simp
theorem allTo_get {p : Nat → Bool} {n j : Nat} (h : allTo p n = true) (hj : j < n) : p j = true := by
  unfold allTo at h
  rw [List.all_eq_true] at h
  exact h j (List.mem_range.2 hj)
theorem flat_len {α : Type} (g : α → List UInt8) (m : Nat) : ∀ (l : List α), (∀ x ∈ l, (g x).length ≤ m) → (l.flatMap g).length ≤ m * l.length
  | [], _ => by simp
  | x :: l, h => by
    have h1 := h x (List.mem_cons_self ..)
    have h2 := flat_len g m l fun y hy => h y (List.mem_cons_of_mem _ hy)
    simp only [List.flatMap_cons, List.length_append, List.length_cons, Nat.mul_add, Nat.mul_one]
    omega
theorem fmtE_len {k : Int} {s : ByteArray} {ks : Fo} (h : validE k s ks = true) : (fmtE k s ks).data.toList.length ≤ 1260 := by
  unfold fmtE
  rw [if_pos h]
  obtain ⟨h1, h2, h3⟩ := valid_good h
  have := fm1_len h1 h2
  show (fm1 k s ks).toArray.toList.length ≤ _
  simp
  omega
/-- what a valid project's parts measure -/
theorem proj_sizes {fs : List Fl} {rs : List Ru} (h : projB fs rs = true) : fs.length ≤ 12 ∧ rs.length ≤ 10 ∧ (∀ f ∈ fs, (lineS f).length ≤ 80) ∧ (∀ x ∈ rs, (lineR x).length ≤ 1300 ∧ x.1.size ≤ 8 ∧ validE x.2.1 x.2.2.1 x.2.2.2 = true) := by
  rw [projB_each] at h
  simp only [Bool.and_eq_true, decide_eq_true_eq] at h
  obtain ⟨⟨hv, hl⟩, ha⟩ := h
  have hfl : fs.length ≤ 12 := by unfold validB at hv; simp only [Bool.and_eq_true, decide_eq_true_eq] at hv; exact hv.1
  refine ⟨hfl, hl, fun f hf => ?_, fun x hx => ?_⟩
  · obtain ⟨j, hj⟩ := List.getElem?_of_mem hf
    obtain ⟨p, t⟩ := f
    have := valid_sizes hv hj
    simp only [lineS, List.length_append, Array.length_toList, List.length_cons, List.length_nil]
    have h1 : p.data.size = p.size := rfl
    have h2 : t.data.size = t.size := rfl
    omega
  · obtain ⟨j, hj⟩ := List.getElem?_of_mem hx
    obtain ⟨t, k, s, ks⟩ := x
    have hjl : j < rs.length := (List.getElem?_eq_some_iff.1 hj).1
    have h1 := allTo_get ha hjl
    simp only [Bool.and_eq_true] at h1
    have h2 := h1.1.2
    unfold bodyAt at h2
    rw [ruGet_of hj] at h2
    simp only [Bool.and_eq_true] at h2
    have h3 : t.size ≤ 8 := by have := h2.1; unfold pathB at this; simp only [Bool.and_eq_true, decide_eq_true_eq] at this; exact this.1.2
    have h4 := fmtE_len h2.2
    refine ⟨?_, h3, h2.2⟩
    simp only [lineR, List.length_append, List.length_cons, List.length_nil]
    have h5 : t.data.toList.length = t.size := by simp
    omega
end Go.Proofs.YtceiafncpimihaaGreat

namespace Go.Proofs.YtceiafncpimihaaGreat
set_option linter.unusedVariables false
open Go.RowKit

/-- the targets of a valid project ascend -/
theorem proj_asc {fs : List Fl} {rs : List Ru} (h : projB fs rs = true) : rs.Pairwise fun a b => sLess a.1 b.1 = true := by
  unfold projB rulesB at h
  simp only [Bool.and_eq_true] at h
  have ha := h.1.2.1
  have h2 : Asc (rs.map fun x => (x.1, ByteArray.empty)) := by
    refine asc_of_next fun k p t q r h1 h2 => ?_
    rw [List.getElem?_map] at h1 h2
    cases e1 : rs[k + 1]? with
    | none => rw [e1] at h1; cases h1
    | some x1 =>
      cases e2 : rs[k]? with
      | none => rw [e2] at h2; cases h2
      | some x2 =>
        rw [e1] at h1
        rw [e2] at h2
        simp only [Option.map_some, Option.some.injEq, Prod.mk.injEq] at h1 h2
        have h3 := allTo_get ha (List.getElem?_eq_some_iff.1 e1).1
        simp only [Bool.and_eq_true] at h3
        have h4 := h3.1
        unfold ascAt at h4
        rw [show k + 1 - 1 = k from rfl, ruGet_of e1, ruGet_of e2] at h4
        rw [← h1.1, ← h2.1]
        simpa using h4
  exact (List.pairwise_map.1 h2)
theorem ru_inj {rs : List Ru} (h : rs.Pairwise fun a b => sLess a.1 b.1 = true) {f g : Ru} (hf : f ∈ rs) (hg : g ∈ rs) (he : f.1 = g.1) : f = g := by
  induction rs with
  | nil => cases hf
  | cons x rs ih =>
    obtain ⟨h1, h2⟩ := List.pairwise_cons.1 h
    rcases List.mem_cons.1 hf with e1 | m1 <;> rcases List.mem_cons.1 hg with e2 | m2
    · rw [e1, e2]
    · subst e1; exact absurd he (sLess_ne (h1 _ m2))
    · subst e2; exact absurd he.symm (sLess_ne (h1 _ m1))
    · exact ih h2 m1 m2
/-- the body of the rule of a target -/
def findB (rs : List Ru) (x : ByteArray) : Option (Int × ByteArray × Fo) := (rs.find? fun r => decide (r.1 = x)).map (·.2)
/-- what FindRule answers -/
def findP (fs : List Fl) (rs : List Ru) (x : ByteArray) : Int × ByteArray × Fo × Bool := if projB fs rs = true then match findB rs x with
  | some (k, s, ks) => (k, s, ks, true)
  | none => (0, .empty, .nil, false) else (0, .empty, .nil, false)
theorem findB_some {rs : List Ru} {x : ByteArray} {k : Int} {s : ByteArray} {ks : Fo} (h : findB rs x = some (k, s, ks)) : (x, k, s, ks) ∈ rs := by
  unfold findB at h
  cases hf : rs.find? fun r => decide (r.1 = x) with
  | none => rw [hf] at h; cases h
  | some r =>
    rw [hf] at h
    obtain ⟨t, k', s', ks'⟩ := r
    simp only [Option.map_some, Option.some.injEq, Prod.mk.injEq] at h
    obtain ⟨rfl, rfl, rfl⟩ := h
    have h1 := List.find?_some hf
    obtain rfl : t = x := by simpa using h1
    exact List.mem_of_find?_eq_some hf
theorem findB_none {rs : List Ru} {x : ByteArray} (h : findB rs x = none) : ∀ r ∈ rs, r.1 ≠ x := by
  unfold findB at h
  rw [Option.map_eq_none_iff, List.find?_eq_none] at h
  exact fun r hr e => h r hr (by simpa using e)
/-- the first rule with the target, found at a place -/
theorem findB_at {rs : List Ru} {x : ByteArray} {j : Nat} {k : Int} {s : ByteArray} {ks : Fo} (h1 : ∀ (i : Nat) (r : Ru), i < j → rs[i]? = some r → r.1 ≠ x) (h2 : rs[j]? = some (x, k, s, ks)) : findB rs x = some (k, s, ks) := by
  unfold findB
  have hj := (List.getElem?_eq_some_iff.1 h2).1
  have : rs.find? (fun r => decide (r.1 = x)) = some (x, k, s, ks) := by
    rw [List.find?_eq_some_iff_getElem]
    refine ⟨by simp, j, hj, (List.getElem?_eq_some_iff.1 h2).2, fun i hi => ?_⟩
    have := h1 i rs[i] hi (List.getElem?_eq_getElem (by omega))
    simpa using this
  rw [this]
  rfl
theorem findB_all {rs : List Ru} {x : ByteArray} (h1 : ∀ (i : Nat) (r : Ru), rs[i]? = some r → r.1 ≠ x) : findB rs x = none := by
  unfold findB
  rw [Option.map_eq_none_iff, List.find?_eq_none]
  intro r hr
  obtain ⟨i, hi⟩ := List.getElem?_of_mem hr
  simpa using h1 i r hi
end Go.Proofs.YtceiafncpimihaaGreat

namespace Go.Proofs.YtceiafncpimihaaGreat
set_option linter.unusedVariables false
open Go.RowKit Go.Maps

/-- two lists merged: the first of the two heads that is smaller, and the second list's at a tie -/
def mg : List ByteArray → List ByteArray → List ByteArray
  | [], ys => ys
  | x :: xs, [] => x :: xs
  | x :: xs, y :: ys => if sLess x y = true then x :: mg xs (y :: ys) else y :: mg (x :: xs) ys
termination_by xs ys => xs.length + ys.length
theorem mg_nil (xs : List ByteArray) : mg xs [] = xs := by cases xs <;> simp [mg]
theorem mg_left {P T : List ByteArray} {i k : Nat} {x : ByteArray} (h : P[i]? = some x) (hT : T.length ≤ k ∨ ∃ y, T[k]? = some y ∧ sLess x y = true) : mg (P.drop i) (T.drop k) = x :: mg (P.drop (i + 1)) (T.drop k) := by
  obtain ⟨hl, rfl⟩ := List.getElem?_eq_some_iff.1 h
  rw [List.drop_eq_getElem_cons hl]
  rcases hT with hT | ⟨y, hy, hlt⟩
  · rw [List.drop_eq_nil_of_le hT, mg_nil, mg_nil]
  · obtain ⟨hl2, rfl⟩ := List.getElem?_eq_some_iff.1 hy
    rw [List.drop_eq_getElem_cons hl2, mg, if_pos hlt]
theorem mg_right {P T : List ByteArray} {i k : Nat} {y : ByteArray} (h : T[k]? = some y) (hP : P.length ≤ i ∨ ∃ x, P[i]? = some x ∧ sLess x y = false) : mg (P.drop i) (T.drop k) = y :: mg (P.drop i) (T.drop (k + 1)) := by
  obtain ⟨hl, rfl⟩ := List.getElem?_eq_some_iff.1 h
  rw [List.drop_eq_getElem_cons hl]
  rcases hP with hP | ⟨x, hx, hlt⟩
  · rw [List.drop_eq_nil_of_le hP, mg, mg]
  · obtain ⟨hl2, rfl⟩ := List.getElem?_eq_some_iff.1 hx
    rw [List.drop_eq_getElem_cons hl2, mg, if_neg (by rw [hlt]; simp)]
theorem mg_perm : ∀ xs ys : List ByteArray, (mg xs ys).Perm (xs ++ ys)
  | [], ys => by rw [mg]; exact .refl _
  | x :: xs, [] => by rw [mg_nil, List.append_nil]
  | x :: xs, y :: ys => by
    rw [mg]
    split
    · exact (mg_perm xs (y :: ys)).cons x
    · exact ((mg_perm (x :: xs) ys).cons y).trans List.perm_middle.symm
termination_by xs ys => xs.length + ys.length
def leP (a b : ByteArray) : Prop := leB a.data.toList b.data.toList = true
theorem leP_trans {a b c : ByteArray} (h1 : leP a b) (h2 : leP b c) : leP a c := leB_trans _ _ _ h1 h2
theorem leP_of {a b : ByteArray} (h : sLess a b = true) : leP a b := by unfold leP; rw [leB_iff, sLess_asymm h]; rfl
theorem leP_not {a b : ByteArray} (h : sLess a b = false) : leP b a := by unfold leP; rw [leB_iff, h]; rfl
theorem mg_sorted : ∀ xs ys : List ByteArray, xs.Pairwise leP → ys.Pairwise leP → (mg xs ys).Pairwise leP
  | [], ys, _, h => by rw [mg]; exact h
  | x :: xs, [], h, _ => by rw [mg_nil]; exact h
  | x :: xs, y :: ys, h1, h2 => by
    rw [mg]
    obtain ⟨h3, h4⟩ := List.pairwise_cons.1 h1
    obtain ⟨h5, h6⟩ := List.pairwise_cons.1 h2
    split
    · rename_i hlt
      refine List.pairwise_cons.2 ⟨fun z hz => ?_, mg_sorted xs (y :: ys) h4 h2⟩
      rcases List.mem_append.1 ((mg_perm xs (y :: ys)).mem_iff.1 hz) with hz | hz
      · exact h3 z hz
      · rcases List.mem_cons.1 hz with rfl | hz
        · exact leP_of hlt
        · exact leP_trans (leP_of hlt) (h5 z hz)
    · rename_i hlt
      have hyx : leP y x := leP_not (by simpa using hlt)
      refine List.pairwise_cons.2 ⟨fun z hz => ?_, mg_sorted (x :: xs) ys h1 h6⟩
      rcases List.mem_append.1 ((mg_perm (x :: xs) ys).mem_iff.1 hz) with hz | hz
      · rcases List.mem_cons.1 hz with rfl | hz
        · exact hyx
        · exact leP_trans hyx (h3 z hz)
      · exact h5 z hz
termination_by xs ys => xs.length + ys.length
/-- sorted, the two lists are the merged one -/
theorem mg_sort {xs ys : List ByteArray} (h1 : xs.Pairwise leP) (h2 : ys.Pairwise leP) : ((xs ++ ys).map fun s => s.data.toList).mergeSort (fun x y => decide (x ≤ y)) = (mg xs ys).map fun s => s.data.toList := by
  refine List.Perm.eq_of_pairwise (le := fun a b => leB a b = true) (fun a b _ _ h1 h2 => ?_) (List.pairwise_mergeSort leB_trans leB_total _) ?_ ((List.mergeSort_perm _ _).trans ((mg_perm xs ys).map _).symm)
  · simp only [leB, decide_eq_true_eq] at h1 h2
    exact List.le_antisymm h1 h2
  · exact List.pairwise_map.2 (mg_sorted xs ys h1 h2)
/-- what ProjectPaths answers -/
def pathsP (fs : List Fl) (rs : List Ru) : List ByteArray := if projB fs rs = true then mg (fs.map (·.1)) (rs.map (·.1)) else []
theorem pathsP_len (fs : List Fl) (rs : List Ru) : (pathsP fs rs).length ≤ 22 := by
  unfold pathsP
  split
  · rename_i h
    rw [(mg_perm _ _).length_eq, List.length_append, List.length_map, List.length_map]
    obtain ⟨h1, h2, _⟩ := proj_sizes h
    omega
  · simp
theorem proj_leF {fs : List Fl} {rs : List Ru} (h : projB fs rs = true) : (fs.map (·.1)).Pairwise leP := by
  unfold projB at h
  simp only [Bool.and_eq_true] at h
  exact List.pairwise_map.2 ((validB_iff.1 h.1.1).2.2.imp fun h => leP_of h)
theorem proj_leR {fs : List Fl} {rs : List Ru} (h : projB fs rs = true) : (rs.map (·.1)).Pairwise leP := List.pairwise_map.2 ((proj_asc h).imp fun h => leP_of h)
end Go.Proofs.YtceiafncpimihaaGreat

namespace Go.Proofs.YtceiafncpimihaaGreat
set_option linter.unusedVariables false
open Go.RowKit

theorem findF_two {fs : List Fl} {x : ByteArray} : (findF fs x).2 = true ↔ ∃ f ∈ fs, f.1 = x := by
  rcases findF_cases fs x with ⟨t, h1, h2⟩ | ⟨h1, h2⟩
  · rw [h2]; exact ⟨fun _ => ⟨_, h1, rfl⟩, fun _ => rfl⟩
  · rw [h2]; exact ⟨fun h => (by cases h), fun ⟨f, hf, e⟩ => absurd e (h1 f hf)⟩
theorem findP_two {fs : List Fl} {rs : List Ru} {x : ByteArray} (h : projB fs rs = true) : (findP fs rs x).2.2.2 = true ↔ ∃ r ∈ rs, r.1 = x := by
  unfold findP
  rw [if_pos h]
  cases hf : findB rs x with
  | none => exact ⟨fun h => (by cases h), fun ⟨r, hr, e⟩ => absurd e (findB_none hf r hr)⟩
  | some y => exact ⟨fun _ => ⟨_, findB_some hf, rfl⟩, fun _ => rfl⟩
/-- no target is a source's path -/
theorem proj_free {fs : List Fl} {rs : List Ru} (h : projB fs rs = true) {f : Fl} {r : Ru} (hf : f ∈ fs) (hr : r ∈ rs) : f.1 ≠ r.1 := by
  unfold projB at h
  simp only [Bool.and_eq_true] at h
  obtain ⟨j, hj, rfl⟩ := List.mem_iff_getElem.1 hr
  have h1 := allTo_get h.2 hj
  unfold freeAt at h1
  rw [ruGet_of (List.getElem?_eq_getElem hj)] at h1
  intro e
  rw [findF_two.2 ⟨f, hf, e⟩] at h1
  cases h1
theorem paths_mem {fs : List Fl} {rs : List Ru} (h : projB fs rs = true) {x : ByteArray} : x ∈ pathsP fs rs ↔ (∃ f ∈ fs, f.1 = x) ∨ ∃ r ∈ rs, r.1 = x := by
  unfold pathsP
  rw [if_pos h, (mg_perm _ _).mem_iff, List.mem_append, List.mem_map, List.mem_map]
/-- each path is of one of both -/
theorem paths_one {fs : List Fl} {rs : List Ru} (h : projB fs rs = true) {x : ByteArray} (hx : x ∈ pathsP fs rs) : ((findF fs x).2 == (findP fs rs x).2.2.2) = false := by
  rw [beq_eq_false_iff_ne]
  rcases (paths_mem h).1 hx with ⟨f, hf, rfl⟩ | ⟨r, hr, rfl⟩
  · rw [findF_two.2 ⟨f, hf, rfl⟩]
    intro e
    obtain ⟨r, hr, e'⟩ := (findP_two h).1 e.symm
    exact proj_free h hf hr e'.symm
  · rw [(findP_two h).2 ⟨r, hr, rfl⟩]
    intro e
    obtain ⟨f, hf, e'⟩ := findF_two.1 e
    exact proj_free h hf hr e'
theorem paths_count {fs : List Fl} {rs : List Ru} (h : projB fs rs = true) : (pathsP fs rs).length = fs.length + rs.length := by
  unfold pathsP
  rw [if_pos h, (mg_perm _ _).length_eq, List.length_append, List.length_map, List.length_map]
theorem paths_le (fs : List Fl) (rs : List Ru) : (pathsP fs rs).length ≤ fs.length + rs.length := by
  unfold pathsP
  split
  · rw [(mg_perm _ _).length_eq, List.length_append, List.length_map, List.length_map]
    omega
  · simp
/-- they ascend -/
theorem paths_asc {fs : List Fl} {rs : List Ru} (h : projB fs rs = true) : (pathsP fs rs).Pairwise fun a b => sLess a b = true := by
  have h1 : (pathsP fs rs).Pairwise leP := by
    unfold pathsP
    rw [if_pos h]
    exact mg_sorted _ _ (proj_leF h) (proj_leR h)
  have h2 : (pathsP fs rs).Nodup := by
    unfold pathsP
    rw [if_pos h, (mg_perm _ _).nodup_iff, List.nodup_append]
    refine ⟨?_, ?_, ?_⟩
    · have ha : Asc fs := by
        unfold projB at h
        simp only [Bool.and_eq_true] at h
        exact (validB_iff.1 h.1.1).2.2
      exact List.pairwise_map.2 (ha.imp fun h => sLess_ne h)
    · exact List.pairwise_map.2 ((proj_asc h).imp fun h => sLess_ne h)
    · intro a ha b hb
      obtain ⟨f, hf, rfl⟩ := List.mem_map.1 ha
      obtain ⟨r, hr, rfl⟩ := List.mem_map.1 hb
      exact proj_free h hf hr
  refine (h1.and h2).imp fun {a b} hab => ?_
  obtain ⟨hle, hne⟩ := hab
  unfold leP at hle
  rw [leB_iff] at hle
  exact sLess_total (by simpa using hle) (Ne.symm hne)
theorem paths_next {fs : List Fl} {rs : List Ru} (h : projB fs rs = true) {i : Nat} {a b : ByteArray} (ha : (pathsP fs rs)[i]? = some a) (hb : (pathsP fs rs)[i + 1]? = some b) : sLess a b = true := by
  obtain ⟨h1, rfl⟩ := List.getElem?_eq_some_iff.1 ha
  obtain ⟨h2, rfl⟩ := List.getElem?_eq_some_iff.1 hb
  exact List.pairwise_iff_getElem.1 (paths_asc h) i (i + 1) h1 h2 (by omega)
end Go.Proofs.YtceiafncpimihaaGreat

namespace Go.Proofs.YtceiafncpimihaaGreat
set_option linter.unusedVariables false
open Go.RowKit

/-- a file put in at its place -/
def insF (f : Fl) : List Fl → List Fl
  | [] => [f]
  | x :: l => if sLess x.1 f.1 = true then x :: insF f l else putU f (x :: l)
theorem put_true (f : Fl) : ∀ (l acc : List Fl), l.foldl (putStep f) (acc, true) = (acc ++ l.filter (fun g => decide (g.1 ≠ f.1)), true)
  | [], acc => by simp
  | x :: l, acc => by
    rw [List.foldl_cons]
    by_cases h : x.1 = f.1
    · rw [show putStep f (acc, true) x = (acc, true) from by simp [putStep, h], put_true f l]
      simp [h]
    · rw [show putStep f (acc, true) x = (acc ++ [x], true) from by simp [putStep, h], put_true f l]
      simp [h]
theorem put_false (f : Fl) : ∀ (l acc : List Fl), (if (l.foldl (putStep f) (acc, false)).2 = true then (l.foldl (putStep f) (acc, false)).1 else (l.foldl (putStep f) (acc, false)).1 ++ [f]) = acc ++ insF f l
  | [], acc => by simp [insF]
  | x :: l, acc => by
    rw [List.foldl_cons, insF]
    by_cases h : sLess x.1 f.1 = true
    · have hne : ¬ x.1 = f.1 := sLess_ne h
      rw [show putStep f (acc, false) x = (acc ++ [x], false) from by simp [putStep, h, hne], put_false f l, if_pos h]
      simp
    · rw [if_neg h]
      have h' : sLess x.1 f.1 = false := by simpa using h
      by_cases hx : x.1 = f.1
      · rw [show putStep f (acc, false) x = (acc ++ [f], true) from by simp [putStep, hx, sLess_irrefl], put_true]
        simp [putU, hx]
      · rw [show putStep f (acc, false) x = (acc ++ [f] ++ [x], true) from by simp [putStep, h', hx], put_true]
        simp [putU, hx]
theorem putF_ins (f : Fl) (fs : List Fl) : putF f fs = insF f fs := by
  unfold putF putTo
  have := put_false f fs []
  simpa using this
theorem mem_insF {f g : Fl} {fs : List Fl} (h : g ∈ insF f fs) : g = f ∨ g ∈ fs := by
  induction fs with
  | nil => simp [insF] at h; exact .inl h
  | cons x l ih =>
    rw [insF] at h
    split at h
    · rcases List.mem_cons.1 h with rfl | h
      · exact .inr (by simp)
      · exact (ih h).imp id (List.mem_cons_of_mem _)
    · exact (mem_putU.1 h).imp id fun h => h.1
theorem insF_asc {f : Fl} {fs : List Fl} (h : Asc fs) : Asc (insF f fs) := by
  induction fs with
  | nil => exact List.pairwise_singleton _ _
  | cons x l ih =>
    obtain ⟨h1, h2⟩ := List.pairwise_cons.1 h
    rw [insF]
    split
    · rename_i hx
      refine List.pairwise_cons.2 ⟨fun y hy => ?_, ih h2⟩
      rcases mem_insF hy with rfl | hy
      · exact hx
      · exact h1 y hy
    · rename_i hx
      refine List.pairwise_cons.2 ⟨fun y hy => ?_, h.filter _⟩
      obtain ⟨hy1, hy2⟩ := List.mem_filter.1 hy
      have hne : y.1 ≠ f.1 := by simpa using hy2
      have hx' : sLess x.1 f.1 = false := by simpa using hx
      rcases List.mem_cons.1 hy1 with rfl | hy
      · exact sLess_total hx' hne
      · by_cases he : x.1 = f.1
        · rw [← he]; exact h1 y hy
        · exact sLess_trans (sLess_total hx' he) (h1 y hy)
theorem insF_perm {f : Fl} {fs : List Fl} (h : Asc fs) : (insF f fs).Perm (putU f fs) := by
  induction fs with
  | nil => exact .refl _
  | cons x l ih =>
    obtain ⟨h1, h2⟩ := List.pairwise_cons.1 h
    rw [insF]
    split
    · rename_i hx
      have hne : ¬ x.1 = f.1 := sLess_ne hx
      unfold putU
      rw [List.filter_cons_of_pos (by simpa using hne)]
      exact ((ih h2).cons x).trans (.swap f x _)
    · exact .refl _
theorem putF_asc {f : Fl} {fs : List Fl} (h : Asc fs) : Asc (putF f fs) := by rw [putF_ins]; exact insF_asc h
theorem putF_perm {f : Fl} {fs : List Fl} (h : Asc fs) : (putF f fs).Perm (putU f fs) := by rw [putF_ins]; exact insF_perm h
theorem srtF_put {f : Fl} {fs gs : List Fl} (h : Asc fs) (hp : gs.Perm (putU f fs)) : srtF gs = putF f fs :=
  srtF_eq ((putU_once h.once).perm hp.symm) (hp.trans (putF_perm h).symm) (putF_asc h)
theorem srtF_del {p : ByteArray} {fs gs : List Fl} (h : Asc fs) (hp : gs.Perm (delU p fs)) : srtF gs = delU p fs :=
  srtF_eq ((h.filter _).once.perm hp.symm) hp (h.filter _)

/-! ### putting and striking, together -/
section
variable {f g : Fl} {fs : List Fl}
theorem mem_putF (h : Asc fs) {x : Fl} : x ∈ putF f fs ↔ x = f ∨ (x ∈ fs ∧ x.1 ≠ f.1) := by
  rw [(putF_perm h).mem_iff, mem_putU]
theorem putU_twice_same (he : f.1 = g.1) : putU g (putU f fs) = putU g fs := by
  unfold putU
  rw [List.filter_cons_of_neg (by simp [he]), List.filter_filter]
  congr 2
  funext x
  simp [he]
theorem putF_twice (h : Asc fs) (he : f.1 = g.1) : putF g (putF f fs) = putF g fs := by
  refine (putF_asc (putF_asc h)).eq (putF_asc h) ?_
  have h1 := (putF_perm (f := g) (putF_asc (f := f) h)).trans (putU_perm (putF_perm h))
  rw [putU_twice_same he] at h1
  exact h1.trans (putF_perm h).symm
theorem putU_swap (he : f.1 ≠ g.1) : (putU g (putU f fs)).Perm (putU f (putU g fs)) := by
  unfold putU
  rw [List.filter_cons_of_pos (by simpa using he), List.filter_cons_of_pos (by simpa using he.symm), List.filter_filter, List.filter_filter]
  refine (List.Perm.swap _ _ _).trans ?_
  rw [show (fun x : Fl => decide (x.1 ≠ g.1) && decide (x.1 ≠ f.1)) = fun x : Fl => decide (x.1 ≠ f.1) && decide (x.1 ≠ g.1) from funext fun x => Bool.and_comm _ _]
theorem putF_swap (h : Asc fs) (he : f.1 ≠ g.1) : putF g (putF f fs) = putF f (putF g fs) := by
  refine (putF_asc (putF_asc h)).eq (putF_asc (putF_asc h)) ?_
  exact ((putF_perm (putF_asc h)).trans (putU_perm (putF_perm h))).trans ((putU_swap he).trans ((putU_perm (putF_perm h).symm).trans (putF_perm (putF_asc h)).symm))
theorem putF_len_same (h : Asc fs) (hm : ∃ x ∈ fs, x.1 = f.1) : (putF f fs).length = fs.length := by
  rw [(putF_perm h).length_eq]
  obtain ⟨x, hx, he⟩ := hm
  have : fs.Perm (x :: delU f.1 fs) := by
    refine (List.perm_ext_iff_of_nodup (h.once.imp fun hne e => hne (by rw [e])) ?_).2 fun y => ?_
    · exact List.nodup_cons.2 ⟨fun hd => (mem_delU.1 hd).2 he, ((h.filter _).once).imp fun hne e => hne (by rw [e])⟩
    · rw [List.mem_cons, mem_delU]
      constructor
      · intro hy
        by_cases hyf : y.1 = f.1
        · exact .inl (h.once.inj hy hx (by rw [hyf, he]))
        · exact .inr ⟨hy, hyf⟩
      · rintro (rfl | ⟨hy, _⟩)
        · exact hx
        · exact hy
  rw [this.length_eq]
  rfl
theorem putF_len_new (h : Asc fs) (hn : ∀ x ∈ fs, x.1 ≠ f.1) : (putF f fs).length = fs.length + 1 := by
  rw [(putF_perm h).length_eq, (putU_new hn).length_eq, List.length_append]; rfl
theorem putF_len (h : Asc fs) : fs.length ≤ (putF f fs).length ∧ (putF f fs).length ≤ fs.length + 1 := by
  by_cases hm : ∃ x ∈ fs, x.1 = f.1
  · rw [putF_len_same h hm]; omega
  · rw [putF_len_new h fun x hx e => hm ⟨x, hx, e⟩]; omega
/-- a list with one put in is valid just where it is not too long and the file is one -/
theorem valid_put (h : validB fs = true) : validB (putF f fs) = true ↔ ((putF f fs).length ≤ 12 ∧ pathB f.1 = true ∧ textB f.2 = true) := by
  obtain ⟨h1, h2, h3⟩ := validB_iff.1 h
  rw [validB_iff]
  refine and_congr_right fun _ => ⟨fun h4 => h4.1 f ((mem_putF h3).2 (.inl rfl)), fun h4 => ⟨fun x hx => ?_, putF_asc h3⟩⟩
  rcases (mem_putF h3).1 hx with rfl | ⟨hx, _⟩
  · exact h4
  · exact h2 x hx
theorem delU_put (h : Asc fs) (hn : ∀ x ∈ fs, x.1 ≠ f.1) : delU f.1 (putF f fs) = fs := by
  refine ((putF_asc h).filter _).eq h ?_
  refine (delU_perm (putF_perm h)).trans ?_
  unfold delU putU
  rw [List.filter_cons_of_neg (by simp), List.filter_filter, List.filter_eq_self.2 fun x hx => by simpa using hn x hx]
theorem put_delU (h : Asc fs) (hm : f ∈ fs) : putF f (delU f.1 fs) = fs := by
  have ha : Asc (delU f.1 fs) := h.filter _
  refine (putF_asc ha).eq h ?_
  refine (putF_perm ha).trans ?_
  refine (List.perm_ext_iff_of_nodup ((putU_once ha.once).imp fun hne e => hne (by rw [e])) (h.once.imp fun hne e => hne (by rw [e]))).2 fun y => ?_
  rw [mem_putU, mem_delU]
  constructor
  · rintro (rfl | ⟨⟨hy, _⟩, _⟩)
    · exact hm
    · exact hy
  · intro hy
    by_cases he : y.1 = f.1
    · exact .inl (h.once.inj hy hm he)
    · exact .inr ⟨⟨hy, he⟩, he⟩
theorem valid_del {p : ByteArray} (h : validB fs = true) : validB (delU p fs) = true := by
  obtain ⟨h1, h2, h3⟩ := validB_iff.1 h
  exact validB_iff.2 ⟨Nat.le_trans (List.length_filter_le _ _) h1, fun x hx => h2 x (mem_delU.1 hx).1, h3.filter _⟩
/-- what is found behind a put -/
theorem find_put (h : Asc fs) (p : ByteArray) : findF (putF f fs) p = if f.1 = p then (f.2, true) else findF fs p := by
  have ha := (putF_asc (f := f) h).once
  by_cases he : f.1 = p
  · subst he
    rw [if_pos rfl]
    exact findF_mem ha ((mem_putF h).2 (.inl rfl))
  · rw [if_neg he]
    rcases findF_cases fs p with ⟨t, hm, hf⟩ | ⟨hn, hf⟩
    · rw [hf]
      exact findF_mem ha ((mem_putF h).2 (.inr ⟨hm, fun e => he e.symm⟩))
    · rw [hf]
      refine findF_not fun x hx => ?_
      rcases (mem_putF h).1 hx with rfl | ⟨hx, _⟩
      · exact he
      · exact hn x hx
theorem find_del (p : ByteArray) : findF (delU p fs) p = (.empty, false) := findF_not fun x hx => (mem_delU.1 hx).2
end
end Go.Proofs.YtceiafncpimihaaGreat

namespace Go.Proofs.YtceiafncpimihaaGreat
set_option linter.unusedVariables false
open Go.RowKit

theorem ba_ext {a b : ByteArray} (h : a.data.toList = b.data.toList) : a = b := by
  cases a; cases b; simp at h; simp [h]
/-- a node whose text can be read back, but for its operands -/
def TxN (k : Int) (s : ByteArray) (n : Nat) : Prop :=
  (k = 1 ∧ n = 0 ∧ (39 : UInt8) ∉ s.data.toList) ∨ (k = 3 ∧ s = .empty) ∨ (k = 4 ∧ n = 4 ∧ s = .empty) ∨ ((k = 2 ∨ k = 5 ∨ k = 6 ∨ k = 7) ∧ n = 1 ∧ s = .empty)
def Tx : Fo → Prop
  | .nil => True
  | .node k s ks r => TxN k s ks.len ∧ Tx ks ∧ Tx r
/-- the byte that a node's text begins with -/
def hdB (k : Int) : UInt8 := if k = 1 then 39 else if k = 3 then 40 else if k = 4 then 91 else chrB k
/-- the rest of its text -/
def tlB (k : Int) (s : ByteArray) (ks : Fo) : List UInt8 := if k = 1 then s.data.toList ++ [39] else if k = 3 then fmS ks [] ++ [41] else if k = 4 then fmS ks [[61], [63], [58], [93]] else fmS ks []
theorem fm1_hd (k : Int) (s : ByteArray) (ks : Fo) : fm1 k s ks = hdB k :: tlB k s ks := by
  unfold fm1 hdB tlB
  by_cases h1 : k = 1
  · simp [h1]
  · by_cases h3 : k = 3
    · simp [h3]
    · by_cases h4 : k = 4
      · simp [h4]
      · simp [h1, h3, h4]
theorem txN_kind {k : Int} {s : ByteArray} {n : Nat} (h : TxN k s n) : k = 1 ∨ k = 2 ∨ k = 3 ∨ k = 4 ∨ k = 5 ∨ k = 6 ∨ k = 7 := by
  rcases h with h | h | h | h <;> omega
theorem hd_inj {k k' : Int} (h : k = 1 ∨ k = 2 ∨ k = 3 ∨ k = 4 ∨ k = 5 ∨ k = 6 ∨ k = 7) (h' : k' = 1 ∨ k' = 2 ∨ k' = 3 ∨ k' = 4 ∨ k' = 5 ∨ k' = 6 ∨ k' = 7) (e : hdB k = hdB k') : k = k' := by
  rcases h with rfl | rfl | rfl | rfl | rfl | rfl | rfl <;> rcases h' with rfl | rfl | rfl | rfl | rfl | rfl | rfl <;> first | rfl | (exact absurd e (by decide))
theorem hd_not {k : Int} (h : k = 1 ∨ k = 2 ∨ k = 3 ∨ k = 4 ∨ k = 5 ∨ k = 6 ∨ k = 7) : hdB k ≠ 41 := by
  rcases h with rfl | rfl | rfl | rfl | rfl | rfl | rfl <;> decide
theorem quote_uniq : ∀ {x y t t' : List UInt8}, (39 : UInt8) ∉ x → (39 : UInt8) ∉ y → x ++ 39 :: t = y ++ 39 :: t' → x = y ∧ t = t'
  | [], [], _, _, _, _, h => ⟨rfl, by simpa using h⟩
  | [], b :: y, _, _, _, hy, h => by simp at h hy; exact absurd h.1 hy.1
  | a :: x, [], _, _, hx, _, h => by simp at h hx; exact absurd h.1.symm hx.1
  | a :: x, b :: y, _, _, hx, hy, h => by
    simp at h hx hy
    obtain ⟨h1, h2⟩ := quote_uniq hx.2 hy.2 h.2
    exact ⟨by rw [h.1, h1], h2⟩
/-- with as many nodes, or before a closing bracket, a list has one reading -/
def UnP (f : Fo) : Prop := ∀ g seps t t', Tx f → Tx g → f.len = g.len → fmS f seps ++ t = fmS g seps ++ t' → f = g ∧ t = t'
def UnJ (f : Fo) : Prop := ∀ g t t', Tx f → Tx g → fmS f [] ++ 41 :: t = fmS g [] ++ 41 :: t' → f = g ∧ t = t'
theorem u1_of {k k' : Int} {s s' : ByteArray} {ks ks' : Fo} {t t' : List UInt8} (ih : UnP ks ∧ UnJ ks) (h : TxN k s ks.len) (hk : Tx ks) (h' : TxN k' s' ks'.len) (hk' : Tx ks') (e : fm1 k s ks ++ t = fm1 k' s' ks' ++ t') : k = k' ∧ s = s' ∧ ks = ks' ∧ t = t' := by
  rw [fm1_hd, fm1_hd, List.cons_append, List.cons_append] at e
  injection e with e1 e2
  obtain rfl := hd_inj (txN_kind h) (txN_kind h') e1
  rcases h with ⟨rfl, h0, hq⟩ | ⟨rfl, hs⟩ | ⟨rfl, h0, hs⟩ | ⟨hk7, h0, hs⟩
  · obtain ⟨h0', hq'⟩ : ks'.len = 0 ∧ (39 : UInt8) ∉ s'.data.toList := by
      rcases h' with ⟨_, h1, h2⟩ | ⟨h', _⟩ | ⟨h', _⟩ | ⟨h', _⟩
      · exact ⟨h1, h2⟩
      all_goals omega
    simp only [tlB, if_true, List.append_assoc, List.singleton_append] at e2
    obtain ⟨h1, h2⟩ := quote_uniq hq hq' e2
    exact ⟨rfl, ba_ext h1, by rw [len_zero h0, len_zero h0'], h2⟩
  · have hs' : s' = .empty := by
      rcases h' with ⟨h', _⟩ | ⟨_, h1⟩ | ⟨h', _⟩ | ⟨h', _⟩
      · omega
      · exact h1
      all_goals omega
    simp only [tlB, if_true, show ¬ ((3 : Int) = 1) from by decide, if_false, List.append_assoc, List.singleton_append] at e2
    obtain ⟨h1, h2⟩ := ih.2 _ _ _ hk hk' e2
    exact ⟨rfl, hs.trans hs'.symm, h1, h2⟩
  · obtain ⟨h0', hs'⟩ : ks'.len = 4 ∧ s' = .empty := by
      rcases h' with ⟨h', _⟩ | ⟨h', _⟩ | ⟨_, h1, h2⟩ | ⟨h', _⟩
      · omega
      · omega
      · exact ⟨h1, h2⟩
      · omega
    simp only [tlB, if_true, show ¬ ((4 : Int) = 1) from by decide, show ¬ ((4 : Int) = 3) from by decide, if_false] at e2
    obtain ⟨h1, h2⟩ := ih.1 _ _ _ _ hk hk' (h0.trans h0'.symm) e2
    exact ⟨rfl, hs.trans hs'.symm, h1, h2⟩
  · obtain ⟨h0', hs'⟩ : ks'.len = 1 ∧ s' = .empty := by
      rcases h' with ⟨h', _⟩ | ⟨h', _⟩ | ⟨h', _⟩ | ⟨_, h1, h2⟩
      · omega
      · omega
      · omega
      · exact ⟨h1, h2⟩
    unfold tlB at e2
    rw [if_neg (by omega), if_neg (by omega), if_neg (by omega), if_neg (by omega), if_neg (by omega), if_neg (by omega)] at e2
    obtain ⟨h1, h2⟩ := ih.1 _ _ _ _ hk hk' (h0.trans h0'.symm) e2
    exact ⟨rfl, hs.trans hs'.symm, h1, h2⟩
theorem un_all : ∀ f : Fo, UnP f ∧ UnJ f
  | .nil => by
    refine ⟨fun g seps t t' _ _ hl e => ?_, fun g t t' _ hg e => ?_⟩
    · obtain rfl := len_zero (ks := g) hl.symm
      exact ⟨rfl, by simpa [fmS] using e⟩
    · match g, hg, e with
      | .nil, _, e => exact ⟨rfl, by simpa [fmS] using e⟩
      | .node k s ks r, hg, e =>
        rw [fmS_node, fm1_hd] at e
        simp only [fmS, List.nil_append, List.cons_append] at e
        injection e with e1 _
        exact absurd e1.symm (hd_not (txN_kind hg.1))
  | .node k s ks r => by
    have ihk := un_all ks
    have ihr := un_all r
    refine ⟨fun g seps t t' hf hg hl e => ?_, fun g t t' hf hg e => ?_⟩
    · match g, hg, hl, e with
      | .nil, _, hl, _ => simp [Fo.len] at hl
      | .node k' s' ks' r', hg, hl, e =>
        rw [fmS_node, fmS_node, List.append_assoc, List.append_assoc, List.append_assoc, List.append_assoc] at e
        obtain ⟨rfl, rfl, rfl, e2⟩ := u1_of ihk hf.1 hf.2.1 hg.1 hg.2.1 e
        have e3 := List.append_cancel_left e2
        obtain ⟨rfl, h2⟩ := ihr.1 r' seps.tail t t' hf.2.2 hg.2.2 (by simp only [Fo.len] at hl; omega) e3
        exact ⟨rfl, h2⟩
    · match g, hg, e with
      | .nil, _, e =>
        rw [fmS_node, fm1_hd] at e
        simp only [fmS, List.nil_append, List.cons_append] at e
        injection e with e1 _
        exact absurd e1 (hd_not (txN_kind hf.1))
      | .node k' s' ks' r', hg, e =>
        rw [fmS_node, fmS_node, List.append_assoc, List.append_assoc, List.append_assoc, List.append_assoc] at e
        obtain ⟨rfl, rfl, rfl, e2⟩ := u1_of ihk hf.1 hf.2.1 hg.1 hg.2.1 e
        simp only [List.headD_nil, List.tail_nil, List.nil_append] at e2
        obtain ⟨rfl, h2⟩ := ihr.2 r' t t' hf.2.2 hg.2.2 e2
        exact ⟨rfl, h2⟩
theorem u1 {k k' : Int} {s s' : ByteArray} {ks ks' : Fo} {t t' : List UInt8} (h : TxN k s ks.len) (hk : Tx ks) (h' : TxN k' s' ks'.len) (hk' : Tx ks') (e : fm1 k s ks ++ t = fm1 k' s' ks' ++ t') : k = k' ∧ s = s' ∧ ks = ks' ∧ t = t' := u1_of (un_all ks) h hk h' hk' e

namespace Fo
/-- two lists, one behind the other -/
def app : Fo → Fo → Fo
  | .nil, g => g
  | .node k s ks r, g => .node k s ks (r.app g)
theorem app_size : ∀ f g : Fo, (f.app g).size = f.size + g.size
  | .nil, g => by simp [app, size]
  | .node k s ks r, g => by simp only [app, size, app_size r]; omega
theorem app_len : ∀ f g : Fo, (f.app g).len = f.len + g.len
  | .nil, g => by simp [app, len]
  | .node k s ks r, g => by simp only [app, len, app_len r]; omega
theorem app_nil : ∀ f : Fo, f.app .nil = f
  | .nil => rfl
  | .node k s ks r => by simp only [app, app_nil r]
end Fo
theorem tx_app : ∀ {f g : Fo}, Tx (f.app g) → Tx g
  | .nil, _, h => h
  | .node k s ks r, _, h => tx_app (f := r) h.2.2
/-- what stands behind the nodes that were read is the text of the others -/
theorem read_on : ∀ {f ks : Fo} {seps : List (List UInt8)} {cur tail : List UInt8}, Tx f → Tx ks → f.len ≤ ks.len → fmS f seps ++ cur = fmS ks seps ++ tail → ∃ g, ks = f.app g ∧ cur = fmS g (seps.drop f.len) ++ tail
  | .nil, ks, seps, cur, tail, _, _, _, e => ⟨ks, rfl, by simpa [fmS, Fo.len] using e⟩
  | .node k s k1 r, .nil, _, _, _, _, _, hl, _ => absurd hl (by simp [Fo.len])
  | .node k s k1 r, .node k' s' k1' r', seps, cur, tail, hf, hg, hl, e => by
    rw [fmS_node, fmS_node, List.append_assoc, List.append_assoc, List.append_assoc, List.append_assoc] at e
    obtain ⟨rfl, rfl, rfl, e2⟩ := u1 hf.1 hf.2.1 hg.1 hg.2.1 e
    obtain ⟨g, rfl, h2⟩ := read_on (f := r) (ks := r') hf.2.2 hg.2.2 (by simp only [Fo.len] at hl; omega) (List.append_cancel_left e2)
    refine ⟨g, rfl, ?_⟩
    rw [h2]
    cases seps with
    | nil => simp [Fo.len]
    | cons a l => simp [Fo.len]
theorem read_join : ∀ {f ks : Fo} {cur tail : List UInt8}, Tx f → Tx ks → fmS f [] ++ cur = fmS ks [] ++ 41 :: tail → ∃ g, ks = f.app g ∧ cur = fmS g [] ++ 41 :: tail
  | .nil, ks, cur, tail, _, _, e => ⟨ks, rfl, by simpa [fmS] using e⟩
  | .node k s k1 r, .nil, cur, tail, hf, _, e => by
    rw [fmS_node, fm1_hd] at e
    simp only [fmS, List.nil_append, List.cons_append] at e
    injection e with e1 _
    exact absurd e1 (hd_not (txN_kind hf.1))
  | .node k s k1 r, .node k' s' k1' r', cur, tail, hf, hg, e => by
    rw [fmS_node, fmS_node, List.append_assoc, List.append_assoc, List.append_assoc, List.append_assoc] at e
    obtain ⟨rfl, rfl, rfl, e2⟩ := u1 hf.1 hf.2.1 hg.1 hg.2.1 e
    simp only [List.headD_nil, List.tail_nil, List.nil_append] at e2
    obtain ⟨g, rfl, h2⟩ := read_join (f := r) (ks := r') hf.2.2 hg.2.2 e2
    exact ⟨g, rfl, h2⟩

/-- no node of at most this size can be read off the text -/
def NoRead (l : List UInt8) (n : Nat) : Prop := ∀ (k : Int) (s : ByteArray) (ks : Fo) (tail : List UInt8), TxN k s ks.len → Tx ks → l = fm1 k s ks ++ tail → n < ks.size + 1
/-- a node is read off the text -/
def Reads1 (l : List UInt8) (n : Nat) (k : Int) (s : ByteArray) (ks : Fo) (tail : List UInt8) : Prop := TxN k s ks.len ∧ Tx ks ∧ l = fm1 k s ks ++ tail ∧ ks.size + 1 ≤ n
theorem noRead_zero (l : List UInt8) : NoRead l 0 := fun _ _ _ _ _ _ _ => Nat.succ_pos _
theorem noRead_nil (n : Nat) : NoRead [] n := fun k s ks tail _ _ e => by rw [fm1_hd] at e; simp at e
theorem noRead_hd {c : UInt8} {l : List UInt8} {n : Nat} (h : ∀ k : Int, (k = 1 ∨ k = 2 ∨ k = 3 ∨ k = 4 ∨ k = 5 ∨ k = 6 ∨ k = 7) → hdB k ≠ c) : NoRead (c :: l) n := fun k s ks tail h1 _ e => by
  rw [fm1_hd, List.cons_append] at e
  injection e with e1 _
  exact absurd e1.symm (h k (txN_kind h1))
/-- a list of nodes that is read off the text: so far -/
def ReadsS (l : List UInt8) (n : Nat) (seps : List (List UInt8)) (f : Fo) (cur : List UInt8) : Prop := Tx f ∧ l = fmS f seps ++ cur ∧ f.size ≤ n
def NoJoin (l : List UInt8) (n : Nat) : Prop := ∀ (ks : Fo) (tail : List UInt8), Tx ks → l = fmS ks [] ++ 41 :: tail → n < ks.size
def NoSeps (l : List UInt8) (n : Nat) (seps : List (List UInt8)) : Prop := ∀ (ks : Fo) (tail : List UInt8), Tx ks → ks.len = seps.length → l = fmS ks seps ++ tail → n < ks.size
theorem noJoin_of {l : List UInt8} {n : Nat} {f : Fo} {cur : List UInt8} (h : ReadsS l n [] f cur) (h1 : ∀ t, cur ≠ 41 :: t) (h2 : NoRead cur (n - f.size)) : NoJoin l n := by
  intro ks tail hk e
  obtain ⟨hf, hl, hz⟩ := h
  obtain ⟨g, rfl, hc⟩ := read_join hf hk (hl.symm.trans e)
  match g, hk, hc with
  | .nil, _, hc => exact absurd (by simpa [fmS] using hc) (h1 tail)
  | .node k s k1 r, hk, hc =>
    have hg := tx_app hk
    rw [fmS_node, List.append_assoc, List.append_assoc] at hc
    have := h2 k s k1 _ hg.1 hg.2.1 hc
    rw [Fo.app_size]
    simp only [Fo.size]
    omega
theorem noSeps_expr {l : List UInt8} {n : Nat} {seps : List (List UInt8)} {f : Fo} {cur : List UInt8} (h : ReadsS l n seps f cur) (hj : f.len < seps.length) (h2 : NoRead cur (n - f.size)) : NoSeps l n seps := by
  intro ks tail hk hlen e
  obtain ⟨hf, hl, hz⟩ := h
  obtain ⟨g, rfl, hc⟩ := read_on hf hk (by omega) (hl.symm.trans e)
  rw [Fo.app_len] at hlen
  match g, hk, hc with
  | .nil, _, _ => simp only [Fo.len] at hlen; omega
  | .node k s k1 r, hk, hc =>
    have hg := tx_app hk
    rw [fmS_node, List.append_assoc, List.append_assoc] at hc
    have := h2 k s k1 _ hg.1 hg.2.1 hc
    rw [Fo.app_size]
    simp only [Fo.size]
    omega
theorem noSeps_mark {l : List UInt8} {n : Nat} {seps : List (List UInt8)} {f : Fo} {cur cur2 : List UInt8} {k : Int} {s : ByteArray} {ks1 : Fo} {m : List UInt8} (h : ReadsS l n seps f cur) (hj : seps[f.len]? = some m) (h2 : Reads1 cur (n - f.size) k s ks1 cur2) (h3 : ∀ t, cur2 ≠ m ++ t) : NoSeps l n seps := by
  intro ks tail hk hlen e
  obtain ⟨hf, hl, hz⟩ := h
  have hjl := (List.getElem?_eq_some_iff.1 hj).1
  obtain ⟨g, rfl, hc⟩ := read_on hf hk (by omega) (hl.symm.trans e)
  rw [Fo.app_len] at hlen
  match g, hk, hc with
  | .nil, _, _ => simp only [Fo.len] at hlen; omega
  | .node k' s' k1 r, hk, hc =>
    have hg := tx_app hk
    rw [fmS_node, List.append_assoc, List.append_assoc, h2.2.2.1] at hc
    obtain ⟨rfl, rfl, rfl, e2⟩ := u1 h2.1 h2.2.1 hg.1 hg.2.1 hc
    have hd : seps.drop f.len = m :: seps.drop (f.len + 1) := by
      obtain ⟨h5, h6⟩ := List.getElem?_eq_some_iff.1 hj
      rw [List.drop_eq_getElem_cons h5, h6]
    rw [hd] at e2
    exact absurd (by simpa using e2) (h3 _)
end Go.Proofs.YtceiafncpimihaaGreat

namespace Go.Proofs.YtceiafncpimihaaGreat
set_option linter.unusedVariables false
open Go.RowKit

theorem nodeB_txN {k : Int} {s : ByteArray} {n : Nat} (h : nodeB k s n = true) : TxN k s n := by
  rcases node_kinds h with ⟨h1, h2, h3⟩ | ⟨h1, h2, h3⟩ | ⟨h1, h2, h3⟩ | ⟨h1, h2, h3⟩
  · refine .inl ⟨h1, h2, fun h4 => ?_⟩
    unfold plainB noQ at h3
    simp only [Bool.and_eq_true, List.all_eq_true, decide_eq_true_eq] at h3
    exact h3.1 39 h4 rfl
  · exact .inr (.inl ⟨h1, h3⟩)
  · exact .inr (.inr (.inl ⟨h1, h2, h3⟩))
  · exact .inr (.inr (.inr ⟨h1, h2, h3⟩))
theorem shape_tx : ∀ {f : Fo} {d : Nat}, shape f d = true → Tx f
  | .nil, _, _ => trivial
  | .node k s ks r, d, h => by
    simp only [shape, Bool.and_eq_true] at h
    exact ⟨nodeB_txN h.1.1.2, shape_tx h.1.2, shape_tx h.2⟩
theorem shape_one {k : Int} {s : ByteArray} {ks : Fo} {d : Nat} (h : shape (.node k s ks .nil) d = true) : 1 ≤ d ∧ nodeB k s ks.len = true ∧ shape ks (d - 1) = true := by
  simp only [shape, Bool.and_eq_true, decide_eq_true_eq, and_true] at h
  exact ⟨h.1.1, h.1.2, h.2⟩
theorem shape_app : ∀ {f g : Fo} {d : Nat}, shape (f.app g) d = true → shape g d = true
  | .nil, _, _, h => h
  | .node k s ks r, _, d, h => by simp only [Fo.app, shape, Bool.and_eq_true] at h; exact shape_app (f := r) h.2
theorem app_snoc (k : Int) (s : ByteArray) (ks g : Fo) (sn : Fo → Int → ByteArray → Fo → Fo) (hn : ∀ k s ks, sn .nil k s ks = .node k s ks .nil) (hc : ∀ k' s' ks' r k s ks, sn (.node k' s' ks' r) k s ks = .node k' s' ks' (sn r k s ks)) : ∀ f : Fo, f.app (.node k s ks g) = (sn f k s ks).app g
  | .nil => by rw [hn]; rfl
  | .node k' s' ks' r => by rw [hc]; simp only [Fo.app, app_snoc k s ks g sn hn hc r]
/-- how large a node may be at a depth -/
def Bd : Nat → Nat
  | 0 => 1
  | d + 1 => 1 + 5 * Bd d
theorem Bd_pos : ∀ d, 1 ≤ Bd d
  | 0 => Nat.le_refl _
  | d + 1 => by simp only [Bd]; omega
theorem Bd_mono : ∀ d, Bd d ≤ Bd (d + 1)
  | d => by have := Bd_pos d; simp only [Bd]; omega
/-- what the reference hands back is of a bounded size -/
def NOk (d : Nat) (k : Int) (s : ByteArray) (ks : Fo) : Prop := ks.size + 1 ≤ Bd d ∧ s.size ≤ 1048576 ∧ ks.Fits ∧ ks.len ≤ 5
theorem nok_zero (d : Nat) (k : Int) : NOk d k ⟨#[]⟩ .nil := ⟨by have := Bd_pos d; simp only [Fo.size]; omega, Nat.zero_le _, trivial, Nat.zero_le _⟩
/-- if the text at this place begins with a node of this depth, that is it -/
def Want (t : List UInt8) (d : Nat) (at_ : Nat) (k : Int) (s : ByteArray) (ks : Fo) (next : Int) : Prop := ∀ k' s' ks' tail, shape (.node k' s' ks' .nil) d = true → t = fm1 k' s' ks' ++ tail → k = k' ∧ s = s' ∧ ks = ks' ∧ next = at_ + (fm1 k' s' ks').length
def sp4 : List (List UInt8) := [[61], [63], [58], [93]]
def Want4 (r : List UInt8) (d : Nat) (at_ : Nat) (k : Int) (s : ByteArray) (ks : Fo) (next : Int) : Prop := ∀ ks' tail, shape ks' d = true → ks'.len = 4 → r = fmS ks' sp4 ++ tail → k = 4 ∧ s = .empty ∧ ks = ks' ∧ next = at_ + (fmS ks' sp4).length
def Want3 (r : List UInt8) (d : Nat) (at_ : Nat) (k : Int) (s : ByteArray) (ks : Fo) (next : Int) : Prop := ∀ ks' tail, shape ks' d = true → ks'.len ≤ 4 → r = fmS ks' [] ++ 41 :: tail → k = 3 ∧ s = .empty ∧ ks = ks' ∧ next = at_ + (fmS ks' []).length + 1
section
variable {t r : List UInt8} {d at_ : Nat} {k K : Int} {s : ByteArray} {ks : Fo} {next : Int}
theorem want_zero : Want t 0 at_ k s ks next := fun k' s' ks' tail h => absurd (shape_one h).1 (by omega)
theorem want_nil : Want [] d at_ k s ks next := fun k' s' ks' tail _ e => by rw [fm1_hd] at e; simp at e
theorem want_other {c : UInt8} (h : ∀ k : Int, (k = 1 ∨ k = 2 ∨ k = 3 ∨ k = 4 ∨ k = 5 ∨ k = 6 ∨ k = 7) → hdB k ≠ c) : Want (c :: r) d at_ k s ks next := fun k' s' ks' tail h1 e => by
  rw [fm1_hd, List.cons_append] at e
  injection e with e1 _
  exact absurd e1.symm (h k' (txN_kind (nodeB_txN (shape_one h1).2.1)))
theorem want_text {x y : List UInt8} (hx : (39 : UInt8) ∉ x) : Want (39 :: (x ++ 39 :: y)) d at_ 1 ⟨x.toArray⟩ .nil ((at_ : Int) + 1 + x.length + 1) := fun k' s' ks' tail h1 e => by
  have ht := nodeB_txN (shape_one h1).2.1
  have hz : TxN 1 (⟨x.toArray⟩ : ByteArray) Fo.nil.len := .inl ⟨rfl, rfl, by simpa using hx⟩
  have e2 : fm1 1 ⟨x.toArray⟩ .nil ++ y = fm1 k' s' ks' ++ tail := by rw [← e, fm1_hd]; simp [hdB, tlB]
  obtain ⟨rfl, rfl, rfl, rfl⟩ := u1 hz trivial ht (shape_tx (shape_one h1).2.2) e2
  refine ⟨rfl, rfl, rfl, ?_⟩
  rw [fm1_hd]; simp [tlB]; omega
theorem want_noquote (h : (39 : UInt8) ∉ r) : Want (39 :: r) d at_ k s ks next := fun k' s' ks' tail h1 e => by
  rw [fm1_hd, List.cons_append] at e
  injection e with e1 e2
  obtain rfl := hd_inj (txN_kind (nodeB_txN (shape_one h1).2.1)) (.inl rfl : (1 : Int) = 1 ∨ _) e1.symm
  exact absurd (by rw [e2]; simp [tlB]) h
theorem want_four (h : Want4 r d (at_ + 1) k s ks next) : Want (91 :: r) (d + 1) at_ k s ks next := fun k' s' ks' tail h1 e => by
  obtain ⟨_, h2, h3⟩ := shape_one h1
  have ht := nodeB_txN h2
  rw [fm1_hd, List.cons_append] at e
  injection e with e1 e2
  obtain rfl := hd_inj (txN_kind ht) (by omega : (4 : Int) = 1 ∨ _) e1.symm
  obtain ⟨hl, he⟩ : ks'.len = 4 ∧ s' = .empty := by
    rcases ht with ⟨h, _⟩ | ⟨h, _⟩ | ⟨_, h5, h6⟩ | ⟨h, _⟩
    · omega
    · omega
    · exact ⟨h5, h6⟩
    · omega
  have e3 : r = fmS ks' sp4 ++ tail := by simpa [tlB, sp4] using e2
  obtain ⟨h4, h5, h6, h7⟩ := h ks' tail (by simpa using h3) hl e3
  refine ⟨h4, h5.trans he.symm, h6, ?_⟩
  rw [h7, fm1_hd]; simp [tlB, sp4]; omega
theorem want_join (h : Want3 r d (at_ + 1) k s ks next) : Want (40 :: r) (d + 1) at_ k s ks next := fun k' s' ks' tail h1 e => by
  obtain ⟨_, h2, h3⟩ := shape_one h1
  have ht := nodeB_txN h2
  rw [fm1_hd, List.cons_append] at e
  injection e with e1 e2
  obtain rfl := hd_inj (txN_kind ht) (by omega : (3 : Int) = 1 ∨ _) e1.symm
  obtain ⟨hl, he⟩ : ks'.len ≤ 4 ∧ s' = .empty := by
    rcases node_kinds h2 with ⟨h, _⟩ | ⟨_, h5, h6⟩ | ⟨h, _⟩ | ⟨h, _⟩
    · omega
    · exact ⟨h5, h6⟩
    · omega
    · omega
  have e3 : r = fmS ks' [] ++ 41 :: tail := by simpa [tlB] using e2
  obtain ⟨h4, h5, h6, h7⟩ := h ks' tail (by simpa using h3) hl e3
  refine ⟨h4, h5.trans he.symm, h6, ?_⟩
  rw [h7, fm1_hd]; simp [tlB]; omega
theorem want_op (hK : K = 2 ∨ K = 5 ∨ K = 6 ∨ K = 7) (h : Want r d (at_ + 1) k s ks next) : Want (hdB K :: r) (d + 1) at_ K .empty (.node k s ks .nil) next := fun k' s' ks' tail h1 e => by
  obtain ⟨_, h2, h3⟩ := shape_one h1
  have ht := nodeB_txN h2
  rw [fm1_hd, List.cons_append] at e
  injection e with e1 e2
  obtain rfl := hd_inj (txN_kind ht) (by omega : K = 1 ∨ _) e1.symm
  obtain ⟨hl, he⟩ : ks'.len = 1 ∧ s' = .empty := by
    rcases ht with ⟨h, _⟩ | ⟨h, _⟩ | ⟨h, _⟩ | ⟨_, h5, h6⟩
    · omega
    · omega
    · omega
    · exact ⟨h5, h6⟩
  obtain ⟨k2, s2, f2, rfl⟩ := len_one hl
  have e3 : tlB k' s' (.node k2 s2 f2 .nil) = fm1 k2 s2 f2 := by
    unfold tlB
    rw [if_neg (by omega), if_neg (by omega), if_neg (by omega), fmS_one]
  rw [e3] at e2
  obtain ⟨rfl, rfl, rfl, h7⟩ := h k2 s2 f2 tail (by simpa using h3) e2
  refine ⟨rfl, he.symm, rfl, ?_⟩
  rw [h7, fm1_hd k', e3]; simp; omega
end
/-- what a list of operands that was read so far says of the rest: a comparison's -/
def R4 (l : List UInt8) (at0 d : Nat) (f : Fo) (at_ : Nat) : Prop := ∀ ks' tail, shape ks' d = true → ks'.len = 4 → l.drop at0 = fmS ks' sp4 ++ tail → ∃ g, ks' = f.app g ∧ l.drop at_ = fmS g (sp4.drop f.len) ++ tail ∧ at_ = at0 + (fmS f sp4).length
/-- .. a concatenation's -/
def R3 (l : List UInt8) (at0 d : Nat) (f : Fo) (at_ : Int) : Prop := ∀ ks' tail, shape ks' d = true → ks'.len ≤ 4 → l.drop at0 = fmS ks' [] ++ 41 :: tail → 0 ≤ at_ ∧ ∃ g, ks' = f.app g ∧ l.drop at_.toNat = fmS g [] ++ 41 :: tail ∧ at_ = at0 + (fmS f []).length
section
variable {l : List UInt8} {at0 d at_ : Nat} {f : Fo} {k : Int} {s : ByteArray} {ks : Fo} {next : Int} {sn : Fo → Int → ByteArray → Fo → Fo}
theorem r4_start : R4 l at0 d .nil at0 := fun ks' tail _ _ e => ⟨ks', rfl, by simpa [Fo.len] using e, by simp [fmS]⟩
theorem r3_start : R3 l at0 d .nil (at0 : Int) := fun ks' tail _ _ e => ⟨by omega, ks', rfl, by simpa using e, by simp [fmS]⟩
theorem fmS_snoc' (hn : ∀ k s ks, sn .nil k s ks = .node k s ks .nil) (hc : ∀ k' s' ks' r k s ks, sn (.node k' s' ks' r) k s ks = .node k' s' ks' (sn r k s ks)) (k : Int) (s : ByteArray) (ks : Fo) : ∀ (f : Fo) (sp : List (List UInt8)), fmS (sn f k s ks) sp = fmS f sp ++ fm1 k s ks ++ (sp.drop f.len).headD [] ∧ (sn f k s ks).len = f.len + 1
  | .nil, sp => by
    refine ⟨?_, by rw [hn]; rfl⟩
    rw [hn, fmS_node]
    show fm1 k s ks ++ sp.headD [] ++ [] = [] ++ fm1 k s ks ++ (sp.drop 0).headD []
    simp
  | .node k' s' ks' r, sp => by
    obtain ⟨h1, h2⟩ := fmS_snoc' hn hc k s ks r sp.tail
    rw [hc]
    simp only [fmS_node, Fo.len, h1, h2, and_true]
    cases sp with
    | nil => simp
    | cons a sp => simp
theorem drop_more {l a b : List UInt8} {n m : Nat} (h : l.drop n = a ++ b) (hm : m = n + a.length) : l.drop m = b := by
  subst hm
  rw [← List.drop_drop, h, List.drop_left]
theorem r4_next (hr : R4 l at0 d f at_) (hf : f.len < 4) (hw : Want (l.drop at_) d at_ k s ks next) {ks' : Fo} {tail : List UInt8} (h1 : shape ks' d = true) (h2 : ks'.len = 4) (h3 : l.drop at0 = fmS ks' sp4 ++ tail) :
    ∃ g m, ks' = f.app (.node k s ks g) ∧ sp4[f.len]? = some m ∧ next = at_ + (fm1 k s ks).length ∧ l.drop (at_ + (fm1 k s ks).length) = m ++ (fmS g (sp4.drop (f.len + 1)) ++ tail) ∧ at_ = at0 + (fmS f sp4).length := by
  obtain ⟨g, rfl, h4, h5⟩ := hr ks' tail h1 h2 h3
  rw [Fo.app_len] at h2
  match g, h1, h2, h4 with
  | .nil, _, h2, _ => simp only [Fo.len] at h2; omega
  | .node k' s' k1 g, h1, h2, h4 =>
    have hg := shape_app h1
    simp only [shape, Bool.and_eq_true] at hg
    have hlt : f.len < sp4.length := by show f.len < 4; exact hf
    have hd : sp4.drop f.len = sp4[f.len] :: sp4.drop (f.len + 1) := List.drop_eq_getElem_cons hlt
    rw [fmS_node, hd, List.append_assoc, List.append_assoc] at h4
    simp only [List.headD_cons, List.tail_cons] at h4
    obtain ⟨rfl, rfl, rfl, h7⟩ := hw k' s' k1 _ (by simp only [shape, Bool.and_eq_true, and_true]; exact hg.1) h4
    exact ⟨g, _, rfl, List.getElem?_eq_getElem hlt, h7, drop_more h4 rfl, h5⟩
theorem r4_step (hn : ∀ k s ks, sn .nil k s ks = .node k s ks .nil) (hc : ∀ k' s' ks' r k s ks, sn (.node k' s' ks' r) k s ks = .node k' s' ks' (sn r k s ks)) (hr : R4 l at0 d f at_) (hf : f.len < 4) {nx : Nat} (hw : Want (l.drop at_) d at_ k s ks (nx : Int)) : R4 l at0 d (sn f k s ks) (nx + 1) := fun ks' tail h1 h2 h3 => by
  obtain ⟨g, m, rfl, hm, h4, h5, h6⟩ := r4_next hr hf hw h1 h2 h3
  obtain ⟨h7, h8⟩ := fmS_snoc' hn hc k s ks f sp4
  have hml : m.length = 1 := by
    have : ∀ i (h : i < 4), (sp4[i]?.getD []).length = 1 := by decide
    have h9 := this f.len hf
    rw [hm] at h9
    exact h9
  refine ⟨g, app_snoc k s ks g sn hn hc f, ?_, ?_⟩
  · rw [h8]; exact drop_more h5 (by omega)
  · have h9 : (sp4.drop f.len).headD [] = m := by rw [List.headD_eq_head?_getD, List.head?_drop, hm]; rfl
    rw [h7, h9]; simp only [List.length_append]; omega
theorem r4_fail {k2 : Int} {s2 : ByteArray} {ks2 : Fo} {next2 : Int} (hr : R4 l at0 d f at_) (hf : f.len < 4) (hw : Want (l.drop at_) d at_ k s ks next) (hno : ∀ (nx : Nat) (m : List UInt8) (t : List UInt8), next = nx → sp4[f.len]? = some m → l.drop nx ≠ m ++ t) : Want4 (l.drop at0) d at0 k2 s2 ks2 next2 := fun ks' tail h1 h2 h3 => by
  obtain ⟨g, m, rfl, hm, h4, h5, h6⟩ := r4_next hr hf hw h1 h2 h3
  exact absurd h5 (hno _ m _ (by rw [h4]; omega) hm)
theorem r4_done (hr : R4 l at0 d f at_) (hf : f.len = 4) : Want4 (l.drop at0) d at0 4 .empty f at_ := fun ks' tail h1 h2 h3 => by
  obtain ⟨g, rfl, h4, h5⟩ := hr ks' tail h1 h2 h3
  rw [Fo.app_len] at h2
  obtain rfl := len_zero (ks := g) (by omega)
  rw [Fo.app_nil]
  exact ⟨rfl, rfl, rfl, by omega⟩
theorem r3_next (hr : R3 l at0 d f (at_ : Int)) (hw : Want (l.drop at_) d at_ k s ks next) (hc : ∀ t, l.drop at_ ≠ 41 :: t) {ks' : Fo} {tail : List UInt8} (h1 : shape ks' d = true) (h2 : ks'.len ≤ 4) (h3 : l.drop at0 = fmS ks' [] ++ 41 :: tail) :
    ∃ g, ks' = f.app (.node k s ks g) ∧ next = at_ + (fm1 k s ks).length ∧ l.drop (at_ + (fm1 k s ks).length) = fmS g [] ++ 41 :: tail ∧ at_ = at0 + (fmS f []).length := by
  obtain ⟨_, g, rfl, h4, h5⟩ := hr ks' tail h1 h2 h3
  simp only [Int.toNat_natCast] at h4
  match g, h1, h2, h4 with
  | .nil, _, _, h4 => exact absurd (by simpa [fmS] using h4) (hc tail)
  | .node k' s' k1 g, h1, h2, h4 =>
    have hg := shape_app h1
    simp only [shape, Bool.and_eq_true] at hg
    rw [fmS_node, List.append_assoc, List.append_assoc] at h4
    simp only [List.headD_nil, List.tail_nil, List.nil_append] at h4
    obtain ⟨rfl, rfl, rfl, h7⟩ := hw k' s' k1 _ (by simp only [shape, Bool.and_eq_true, and_true]; exact hg.1) h4
    exact ⟨g, rfl, h7, drop_more h4 rfl, by omega⟩
theorem r3_step (hn : ∀ k s ks, sn .nil k s ks = .node k s ks .nil) (hc : ∀ k' s' ks' r k s ks, sn (.node k' s' ks' r) k s ks = .node k' s' ks' (sn r k s ks)) (hr : R3 l at0 d f (at_ : Int)) (hw : Want (l.drop at_) d at_ k s ks next) (hno : ∀ t, l.drop at_ ≠ 41 :: t) : R3 l at0 d (sn f k s ks) next := fun ks' tail h1 h2 h3 => by
  obtain ⟨g, rfl, h4, h5, h6⟩ := r3_next hr hw hno h1 h2 h3
  obtain ⟨h7, h8⟩ := fmS_snoc' hn hc k s ks f []
  refine ⟨by omega, g, app_snoc k s ks g sn hn hc f, ?_, ?_⟩
  · rw [h4, show ((at_ : Int) + ((fm1 k s ks).length : Nat)).toNat = at_ + (fm1 k s ks).length from by omega]; exact h5
  · rw [h7]; simp only [List.drop_nil, List.headD_nil, List.append_nil, List.length_append]; omega
theorem r3_long {k2 : Int} {s2 : ByteArray} {ks2 : Fo} {next2 next : Int} (hr : R3 l at0 d f next) (hf : 4 < f.len) : Want3 (l.drop at0) d at0 k2 s2 ks2 next2 := fun ks' tail h1 h2 h3 => by
  obtain ⟨_, g, rfl, _⟩ := hr ks' tail h1 h2 h3
  rw [Fo.app_len] at h2
  omega
theorem r3_bad {k2 : Int} {s2 : ByteArray} {ks2 : Fo} {next2 next : Int} (hr : R3 l at0 d f next) (hf : next < 0 ∨ (l.length : Int) ≤ next) : Want3 (l.drop at0) d at0 k2 s2 ks2 next2 := fun ks' tail h1 h2 h3 => by
  obtain ⟨h4, g, rfl, h5, _⟩ := hr ks' tail h1 h2 h3
  have h6 : l.length ≤ next.toNat := by omega
  rw [List.drop_of_length_le h6] at h5
  exact absurd h5 (by simp)
theorem r3_done {t : List UInt8} (hr : R3 l at0 d f (at_ : Int)) (ht : l.drop at_ = 41 :: t) : Want3 (l.drop at0) d at0 3 .empty f ((at_ : Int) + 1) := fun ks' tail h1 h2 h3 => by
  obtain ⟨_, g, rfl, h4, h5⟩ := hr ks' tail h1 h2 h3
  simp only [Int.toNat_natCast] at h4
  rw [ht] at h4
  match g, h1, h4 with
  | .nil, _, _ => rw [Fo.app_nil]; exact ⟨rfl, rfl, rfl, by omega⟩
  | .node k' s' k1 g, h1, h4 =>
    have hg := shape_app h1
    simp only [shape, Bool.and_eq_true] at hg
    rw [fmS_node, fm1_hd] at h4
    simp only [List.cons_append] at h4
    injection h4 with h4 _
    exact absurd h4.symm (hd_not (txN_kind (nodeB_txN hg.1.1.2)))
end
end Go.Proofs.YtceiafncpimihaaGreat

namespace Go.Proofs.YtceiafncpimihaaGreat
set_option linter.unusedVariables false
open Go.RowKit

theorem validE_tx {k : Int} {s : ByteArray} {ks : Fo} (h : validE k s ks = true) : TxN k s ks.len ∧ Tx ks := by
  unfold validE at h
  rw [Bool.and_eq_true] at h
  have h1 := shape_tx h.1
  exact ⟨h1.1, h1.2.1⟩
theorem fmtE_law {r : Bool} {k k' : Int} {s s' : ByteArray} {ks ks' : Fo} (hr : r = true ↔ k = k' ∧ s = s' ∧ ks = ks') :
    fmtE k s ks = .empty ∨ fmtE k' s' ks' = .empty ∨ r = decide (fmtE k s ks = fmtE k' s' ks') := by
  by_cases h : validE k s ks = true
  · by_cases h' : validE k' s' ks' = true
    · refine .inr (.inr ?_)
      rw [Bool.eq_iff_iff, decide_eq_true_iff, hr]
      constructor
      · rintro ⟨rfl, rfl, rfl⟩
        rfl
      · intro e
        unfold fmtE at e
        rw [if_pos h, if_pos h'] at e
        have e1 : fm1 k s ks = fm1 k' s' ks' := by simpa using congrArg (fun x : ByteArray => x.data.toList) e
        obtain ⟨h1, h2⟩ := validE_tx h
        obtain ⟨h3, h4⟩ := validE_tx h'
        obtain ⟨e2, e3, e4, _⟩ := u1 (t := []) (t' := []) h1 h2 h3 h4 (by rw [e1])
        exact ⟨e2, e3, e4⟩
    · exact .inr (.inl (if_neg h'))
  · exact .inl (if_neg h)
end Go.Proofs.YtceiafncpimihaaGreat

namespace Go.Proofs.YtceiafncpimihaaGreat
set_option linter.unusedVariables false
open Go.RowKit

theorem sep_uniq {c : UInt8} : ∀ {x y t t' : List UInt8}, c ∉ x → c ∉ y → x ++ c :: t = y ++ c :: t' → x = y ∧ t = t'
  | [], [], _, _, _, _, h => ⟨rfl, by simpa using h⟩
  | [], b :: y, _, _, _, hy, h => by simp at h hy; exact absurd h.1 hy.1
  | a :: x, [], _, _, hx, _, h => by simp at h hx; exact absurd h.1.symm hx.1
  | a :: x, b :: y, _, _, hx, hy, h => by
    simp at h hx hy
    obtain ⟨h1, h2⟩ := sep_uniq hx.2 hy.2 h.2
    exact ⟨by rw [h.1, h1], h2⟩
theorem path_no {s : ByteArray} (h : pathB s = true) : (32 : UInt8) ∉ s.data.toList := fun hm => by
  have h1 := ((pathB_iff s).1 h).2.2
  unfold btw at h1
  rw [List.all_eq_true] at h1
  have := h1 _ hm
  revert this
  decide
theorem text_no {s : ByteArray} (h : textB s = true) : (10 : UInt8) ∉ s.data.toList := fun hm => by
  have h1 := ((textB_iff s).1 h).2
  unfold btw at h1
  rw [List.all_eq_true] at h1
  have := h1 _ hm
  revert this
  decide
/-- what is asked of the rules' part -/
def OkR (x : Ru) : Prop := pathB x.1 = true ∧ validE x.2.1 x.2.2.1 x.2.2.2 = true
def OkF (f : Fl) : Prop := pathB f.1 = true ∧ textB f.2 = true
theorem fmtE_fm1 {k : Int} {s : ByteArray} {ks : Fo} (h : validE k s ks = true) : (fmtE k s ks).data.toList = fm1 k s ks := by
  unfold fmtE
  rw [if_pos h]
theorem linesR_uniq : ∀ {rs qs : List Ru}, (∀ x ∈ rs, OkR x) → (∀ x ∈ qs, OkR x) → rs.flatMap lineR = qs.flatMap lineR → rs = qs
  | [], [], _, _, _ => rfl
  | [], y :: qs, _, _, h => by simp [lineR] at h
  | x :: rs, [], _, _, h => by simp [lineR] at h
  | x :: rs, y :: qs, h1, h2, h => by
    obtain ⟨t, k, s, ks⟩ := x
    obtain ⟨t', k', s', ks'⟩ := y
    obtain ⟨p1, v1⟩ := h1 _ (List.mem_cons_self ..)
    obtain ⟨p2, v2⟩ := h2 _ (List.mem_cons_self ..)
    simp only at p1 v1 p2 v2
    simp only [List.flatMap_cons, lineR, List.append_assoc] at h
    rw [fmtE_fm1 v1, fmtE_fm1 v2] at h
    have h3 := List.append_cancel_left h
    obtain ⟨e1, h4⟩ := sep_uniq (c := 32) (path_no p1) (path_no p2) (by simpa using h3)
    obtain ⟨a1, a2⟩ := validE_tx v1
    obtain ⟨b1, b2⟩ := validE_tx v2
    obtain ⟨rfl, rfl, rfl, h5⟩ := u1 a1 a2 b1 b2 h4
    have h6 : rs.flatMap lineR = qs.flatMap lineR := by simpa [lineR] using h5
    rw [linesR_uniq (fun x hx => h1 x (List.mem_cons_of_mem _ hx)) (fun x hx => h2 x (List.mem_cons_of_mem _ hx)) h6, ba_ext e1]
theorem linesP_uniq : ∀ {fs gs : List Fl} {rs qs : List Ru}, (∀ f ∈ fs, OkF f) → (∀ f ∈ gs, OkF f) → (∀ x ∈ rs, OkR x) → (∀ x ∈ qs, OkR x) → fs.flatMap lineS ++ rs.flatMap lineR = gs.flatMap lineS ++ qs.flatMap lineR → fs = gs ∧ rs = qs
  | [], [], rs, qs, _, _, h3, h4, h => ⟨rfl, linesR_uniq h3 h4 (by simpa using h)⟩
  | [], g :: gs, [], qs, _, _, _, _, h => by simp [lineS] at h
  | [], g :: gs, x :: rs, qs, _, _, _, _, h => by simp [lineS, lineR] at h
  | f :: fs, [], rs, [], _, _, _, _, h => by simp [lineS] at h
  | f :: fs, [], rs, x :: qs, _, _, _, _, h => by simp [lineS, lineR] at h
  | f :: fs, g :: gs, rs, qs, h1, h2, h3, h4, h => by
    obtain ⟨p, t⟩ := f
    obtain ⟨p', t'⟩ := g
    obtain ⟨c1, c2⟩ := h1 _ (List.mem_cons_self ..)
    obtain ⟨d1, d2⟩ := h2 _ (List.mem_cons_self ..)
    simp only at c1 c2 d1 d2
    simp only [List.flatMap_cons, lineS, List.append_assoc] at h
    have h5 := List.append_cancel_left h
    obtain ⟨e1, h6⟩ := sep_uniq (c := 32) (path_no c1) (path_no d1) (by simpa using h5)
    obtain ⟨e2, h7⟩ := sep_uniq (c := 10) (text_no c2) (text_no d2) (by simpa using h6)
    obtain ⟨r1, r2⟩ := linesP_uniq (fun x hx => h1 x (List.mem_cons_of_mem _ hx)) (fun x hx => h2 x (List.mem_cons_of_mem _ hx)) h3 h4 (by simpa [lineS] using h7)
    exact ⟨by rw [r1, ba_ext e1, ba_ext e2], r2⟩
theorem proj_ok {fs : List Fl} {rs : List Ru} (h : projB fs rs = true) : (∀ f ∈ fs, OkF f) ∧ ∀ x ∈ rs, OkR x := by
  have h0 := h
  unfold projB at h
  simp only [Bool.and_eq_true] at h
  refine ⟨fun f hf => (validB_iff.1 h.1.1).2.1 f hf, fun x hx => ?_⟩
  rw [projB_each] at h0
  simp only [Bool.and_eq_true, decide_eq_true_eq] at h0
  obtain ⟨j, hj⟩ := List.getElem?_of_mem hx
  have h1 := allTo_get h0.2 (List.getElem?_eq_some_iff.1 hj).1
  simp only [Bool.and_eq_true] at h1
  have h2 := h1.1.2
  unfold bodyAt at h2
  rw [ruGet_of hj] at h2
  simp only [Bool.and_eq_true] at h2
  exact h2
/-- equal texts, equal projects -/
theorem fmtP_uniq {fs gs : List Fl} {rs qs : List Ru} (h : projB fs rs = true) (h' : projB gs qs = true) (e : fmtP fs rs = fmtP gs qs) : fs = gs ∧ rs = qs := by
  unfold fmtP at e
  rw [if_pos h, if_pos h'] at e
  have e1 : linesP fs rs = linesP gs qs := by simpa using congrArg (fun x : ByteArray => x.data.toList) e
  exact linesP_uniq (proj_ok h).1 (proj_ok h').1 (proj_ok h).2 (proj_ok h').2 (by simpa [linesP] using e1)
theorem fmtP_law {r : Bool} {fs gs : List Fl} {rs qs : List Ru} (hr : r = true ↔ fs = gs ∧ rs = qs) :
    fmtP fs rs = .empty ∨ fmtP gs qs = .empty ∨ r = decide (fmtP fs rs = fmtP gs qs) := by
  by_cases h : projB fs rs = true
  · by_cases h' : projB gs qs = true
    · refine .inr (.inr ?_)
      rw [Bool.eq_iff_iff, decide_eq_true_iff, hr]
      exact ⟨fun ⟨h1, h2⟩ => by rw [h1, h2], fun e => fmtP_uniq h h' e⟩
    · exact .inr (.inl (if_neg h'))
  · exact .inl (if_neg h)
end Go.Proofs.YtceiafncpimihaaGreat

namespace Go.Proofs.YtceiafncpimihaaGreat
set_option linter.unusedVariables false
open Go.RowKit

theorem allTo_of {p : Nat → Bool} {n : Nat} (h : ∀ j, j < n → p j = true) : allTo p n = true := by
  unfold allTo
  rw [List.all_eq_true]
  intro x hx
  exact h x (List.mem_range.1 hx)
/-- what makes a project valid -/
theorem projB_iff {fs : List Fl} {rs : List Ru} : projB fs rs = true ↔ validB fs = true ∧ rs.length ≤ 10 ∧ (∀ r ∈ rs, OkR r) ∧ AscR rs ∧ ∀ f ∈ fs, ∀ r ∈ rs, f.1 ≠ r.1 := by
  constructor
  · intro h
    refine ⟨?_, (proj_sizes h).2.1, (proj_ok h).2, proj_asc h, fun f hf r hr => proj_free h hf hr⟩
    unfold projB at h
    simp only [Bool.and_eq_true] at h
    exact h.1.1
  · rintro ⟨h1, h2, h3, h4, h5⟩
    rw [projB_each]
    simp only [Bool.and_eq_true, decide_eq_true_eq]
    refine ⟨⟨h1, h2⟩, allTo_of fun j hj => ?_⟩
    have hg : rs[j]? = some rs[j] := List.getElem?_eq_getElem hj
    simp only [Bool.and_eq_true]
    refine ⟨⟨?_, ?_⟩, ?_⟩
    · unfold ascAt
      cases j with
      | zero => rfl
      | succ i =>
        have hi : i < rs.length := by omega
        rw [show i + 1 - 1 = i from rfl, ruGet_of hg, ruGet_of (List.getElem?_eq_getElem hi), List.pairwise_iff_getElem.1 h4 i (i + 1) hi hj (by omega)]
        simp
    · unfold bodyAt
      rw [ruGet_of hg]
      obtain ⟨a, b⟩ := h3 _ (List.getElem_mem hj)
      rw [a, b]
      rfl
    · unfold freeAt
      rw [ruGet_of hg]
      cases hf : (findF fs rs[j].1).2 with
      | false => rfl
      | true =>
        obtain ⟨f, hf, e⟩ := findF_two.1 hf
        exact absurd e (h5 f hf _ (List.getElem_mem hj))
theorem valid_of {fs : List Fl} {rs : List Ru} (h : projB fs rs = true) : validB fs = true := (projB_iff.1 h).1
/-- two ascending lists with the same rules are one -/
theorem ascR_ext : ∀ {l m : List Ru}, AscR l → AscR m → (∀ x, x ∈ l ↔ x ∈ m) → l = m
  | [], [], _, _, _ => rfl
  | [], y :: m, _, _, h => absurd ((h y).2 (List.mem_cons_self ..)) (by simp)
  | x :: l, [], _, _, h => absurd ((h x).1 (List.mem_cons_self ..)) (by simp)
  | x :: l, y :: m, h1, h2, h => by
    obtain ⟨a1, a2⟩ := List.pairwise_cons.1 h1
    obtain ⟨b1, b2⟩ := List.pairwise_cons.1 h2
    have e : x = y := by
      rcases List.mem_cons.1 ((h x).1 (List.mem_cons_self ..)) with e | hx
      · exact e
      · rcases List.mem_cons.1 ((h y).2 (List.mem_cons_self ..)) with e | hy
        · exact e.symm
        · have := sLess_asymm (b1 x hx)
          rw [a1 y hy] at this
          cases this
    subst e
    rw [ascR_ext a2 b2 fun z => ?_]
    constructor
    · intro hz
      rcases List.mem_cons.1 ((h z).1 (List.mem_cons_of_mem _ hz)) with e | hz'
      · subst e
        exact absurd rfl (sLess_ne (a1 z hz))
      · exact hz'
    · intro hz
      rcases List.mem_cons.1 ((h z).2 (List.mem_cons_of_mem _ hz)) with e | hz'
      · subst e
        exact absurd rfl (sLess_ne (b1 z hz))
      · exact hz'
theorem findB_mem {rs : List Ru} (h : AscR rs) {t s : ByteArray} {k : Int} {ks : Fo} (hm : (t, k, s, ks) ∈ rs) : findB rs t = some (k, s, ks) := by
  cases hf : findB rs t with
  | none => exact absurd rfl (findB_none hf _ hm)
  | some y =>
    obtain ⟨k', s', ks'⟩ := y
    have := ru_inj h hm (findB_some hf) rfl
    cases this
    rfl
theorem findB_no {rs : List Ru} {t : ByteArray} (h : ∀ r ∈ rs, r.1 ≠ t) : findB rs t = none := by
  cases hf : findB rs t with
  | none => rfl
  | some y => exact absurd rfl (h _ (findB_some hf))
theorem delRu_put {r : Ru} {rs : List Ru} (h : AscR rs) (hn : ∀ x ∈ rs, x.1 ≠ r.1) : delRu r.1 (putRu r rs) = rs :=
  ascR_ext (delRu_asc (putRu_asc h)) h fun x => by
    rw [mem_delRu, mem_putRu]
    constructor
    · rintro ⟨rfl | hx, hne⟩
      · exact absurd rfl hne
      · exact hx.1
    · exact fun hx => ⟨.inr ⟨hx, hn x hx⟩, hn x hx⟩
theorem putRu_del {r : Ru} {rs : List Ru} (h : AscR rs) (hm : r ∈ rs) : putRu r (delRu r.1 rs) = rs :=
  ascR_ext (putRu_asc (delRu_asc h)) h fun x => by
    rw [mem_putRu, mem_delRu]
    constructor
    · rintro (rfl | hx)
      · exact hm
      · exact hx.1.1
    · intro hx
      by_cases e : x.1 = r.1
      · exact .inl (ru_inj h hx hm e)
      · exact .inr ⟨⟨hx, e⟩, e⟩
theorem projB_del {fs : List Fl} {rs : List Ru} (h : projB fs rs = true) (x : ByteArray) : projB fs (delRu x rs) = true := by
  obtain ⟨h1, h2, h3, h4, h5⟩ := projB_iff.1 h
  exact projB_iff.2 ⟨h1, Nat.le_trans (List.length_filter_le _ _) h2, fun r hr => h3 r (mem_delRu.1 hr).1, delRu_asc h4, fun f hf r hr => h5 f hf r (mem_delRu.1 hr).1⟩
/-- fewer sources -/
theorem projB_less {fs gs : List Fl} {rs : List Ru} (h : projB gs rs = true) (hv : validB fs = true) (hs : ∀ f ∈ fs, ∃ g ∈ gs, g.1 = f.1) : projB fs rs = true := by
  obtain ⟨h1, h2, h3, h4, h5⟩ := projB_iff.1 h
  refine projB_iff.2 ⟨hv, h2, h3, h4, fun f hf r hr e => ?_⟩
  obtain ⟨g, hg, e'⟩ := hs f hf
  exact h5 g hg r hr (e'.trans e)
theorem findP_yes {fs : List Fl} {rs : List Ru} {t s : ByteArray} {k : Int} {ks : Fo} (h : projB fs rs = true) (hm : (t, k, s, ks) ∈ rs) : findP fs rs t = (k, s, ks, true) := by
  unfold findP
  rw [if_pos h, findB_mem (proj_asc h) hm]
theorem findP_no {fs : List Fl} {rs : List Ru} {t : ByteArray} (h : ∀ r ∈ rs, r.1 ≠ t) : findP fs rs t = (0, .empty, .nil, false) := by
  unfold findP
  rw [findB_no h]
  split <;> rfl
end Go.Proofs.YtceiafncpimihaaGreat

namespace Go.Proofs.YtceiafncpimihaaGreat
set_option linter.unusedVariables false
open Go.RowKit

set_option maxRecDepth 100000 in
theorem ixb_one (s : ByteArray) (c : Int) (w : World) :
    Calls Tryz.prog 125 #[.string s, .int .u8 c] w fun e w' => e = .returned (.int .i64 (Lib.indexByte s.data.toList c.toNat.toUInt8)) ∧ w' = w := by
  go_enter Tryz.func125, Tryz.ntmps125
  go_wp2
  rw [run_callFunc_extern Tryz.func129 (by kernel_rfl) (by kernel_rfl) (by kernel_rfl) (e := Extern.BytealgIndexByte.indexByte) (by kernel_rfl), Lib.run_indexByteString]
  simp only [Result.andThen]
  rw [Oper.upon_value]
  go_wp2
  go_ret
  exact ⟨rfl, rfl⟩

set_option maxRecDepth 100000 in
set_option maxHeartbeats 2000000 in
theorem ix_one (s : ByteArray) (c : UInt8) (w : World) :
    Calls Tryz.prog 124 #[.string s, .string ⟨#[c]⟩] w fun e w' => e = .returned (.int .i64 (Lib.indexByte s.data.toList c)) ∧ w' = w := by
  go_enter Tryz.func124, Tryz.ntmps124
  go_wp2_with (go_at_call 125; refine (ixb_one _ _ _).mono ?_; rintro e w' ⟨rfl, rfl⟩)
  · have h : ([c] == s.toList) = true := by assumption
    go_ret
    refine ⟨?_, rfl⟩
    have e : s.data.toList = [c] := by rw [← Lib.toList_data]; exact (beq_iff_eq.1 h).symm
    rw [e]
    simp [Lib.indexByte]
  · go_ret
    exact ⟨rfl, rfl⟩
theorem si_one (s : ByteArray) (c : UInt8) (w : World) :
    Calls Tryz.prog 122 #[.string s, .string ⟨#[c]⟩] w fun e w' => e = .returned (.int .i64 (Lib.indexByte s.data.toList c)) ∧ w' = w := by
  go_enter Tryz.func122, Tryz.ntmps122
  go_wp2_with (go_at_call 124; refine (ix_one _ _ _).mono ?_; rintro e w' ⟨rfl, rfl⟩)
  go_ret
  exact ⟨rfl, rfl⟩
theorem con_one (s : ByteArray) (c : UInt8) (w : World) :
    Calls Tryz.prog 115 #[.string s, .string ⟨#[c]⟩] w fun e w' => e = .returned (.bool (decide (0 ≤ Lib.indexByte s.data.toList c))) ∧ w' = w := by
  go_enter Tryz.func115, Tryz.ntmps115
  go_wp2_with (go_at_call 122; refine (si_one _ _ _).mono ?_; rintro e w' ⟨rfl, rfl⟩)
  go_ret
  exact ⟨rfl, rfl⟩
theorem ixq (l : List UInt8) : decide (0 ≤ Lib.indexByte l 39) = !noQ l := by
  induction l with
  | nil => rfl
  | cons b l ih =>
    have h1 : Lib.indexByte (b :: l) 39 = (if b == 39 then 0 else if Lib.indexByte l 39 == -1 then -1 else Lib.indexByte l 39 + 1) := rfl
    rw [h1]
    by_cases hb : b = 39
    · subst hb; simp [noQ]
    · have hb1 : (b == (39 : UInt8)) = false := beq_eq_false_iff_ne.2 hb
      have hb2 : b.toNat ≠ 39 := fun e => hb (UInt8.toNat_inj.1 (by rw [e]; rfl))
      have h2 : noQ (b :: l) = noQ l := by unfold noQ; rw [List.all_cons, decide_eq_true hb2, Bool.true_and]
      rw [h2, ← ih, hb1]
      simp only [Bool.false_eq_true, if_false]
      by_cases hm : Lib.indexByte l 39 = -1
      · rw [hm]; rfl
      · have hm1 : (Lib.indexByte l 39 == -1) = false := beq_eq_false_iff_ne.2 hm
        rw [hm1]
        simp only [Bool.false_eq_true, if_false]
        have hge : -1 ≤ Lib.indexByte l 39 := Lib.indexByte_ge l 39
        exact Bool.eq_iff_iff.2 (by simp; omega)
/-- a text holds a quote -/
theorem quote_any (s : ByteArray) (w : World) :
    Calls Tryz.prog 115 #[.string s, .string ⟨#[39]⟩] w fun e w' => e = .returned (.bool (!noQ s.data.toList)) ∧ w' = w :=
  (con_one s 39 w).mono fun _ _ ⟨he, hw⟩ => ⟨by rw [he, ixq], hw⟩
end Go.Proofs.YtceiafncpimihaaGreat

namespace Go.Proofs.YtceiafncpimihaaGreat
open Go.RowKit Go.Maps Go.Sort Go.Shelf

def lyKeysR_ren : Go.Shelf.Ren := ⟨fun | 7 => 78 | 10 => 93 | n => n, fun | 23 => 78 | 26 => 9 | 3 => 43 | 28 => 109 | 0 => 0 | 27 => 108 | 33 => 72 | 4 => 4 | n => n, fun | n => n⟩
theorem lyKeysR : Go.Proofs.SlLaysZ.n7 Tryz.prog lyKeysR_ren := {
  mixed := by kernel_rfl
  f7 := ⟨Tryz.f78.name, by decide, Tryz.func78.trans (congrArg some (by kernel_rfl))⟩
  f10 := ⟨Tryz.f93.name, by decide, Tryz.func93.trans (congrArg some (by kernel_rfl))⟩
  t0 := Tryz.underlying0
  a0 := Tryz.isAgg0
  z0 := Tryz.sizeOf0
  v0 := Tryz.zeroValue0
  t4 := Tryz.underlying4
  a4 := Tryz.isAgg4
  z4 := Tryz.sizeOf4
  v4 := Tryz.zeroValue4
  t23 := Tryz.underlying78
  a23 := Tryz.isAgg78
  z23 := Tryz.sizeOf78
  v23 := Tryz.zeroValue78
  t26 := Tryz.underlying9
  a26 := Tryz.isAgg9
  z26 := Tryz.sizeOf9
  v26 := Tryz.zeroValue9
  t27 := Tryz.underlying108
  a27 := Tryz.isAgg108
  z27 := Tryz.sizeOf108
  v27 := Tryz.zeroValue108
  t28 := Tryz.underlying109
  a28 := Tryz.isAgg109
  z28 := Tryz.sizeOf109
  v28 := Tryz.zeroValue109
  t33 := Tryz.underlying72
  a33 := Tryz.isAgg72
  z33 := Tryz.sizeOf72
  v33 := Tryz.zeroValue72 }
def lySorted_ren : Go.Shelf.Ren := ⟨fun | 6 => 77 | 8 => 91 | 9 => 92 | 11 => 99 | 13 => 101 | 12 => 100 | 23 => 113 | 24 => 114 | 14 => 104 | 15 => 105 | 16 => 106 | 17 => 107 | 18 => 108 | 19 => 109 | 20 => 110 | 21 => 111 | 22 => 112 | 25 => 116 | 26 => 117 | 27 => 118 | 28 => 119 | 29 => 120 | 30 => 121 | 31 => 123 | n => n, fun | 26 => 9 | 28 => 109 | 24 => 58 | 0 => 0 | 3 => 3 | 37 => 130 | 48 => 149 | 50 => 151 | 4 => 4 | 40 => 141 | 39 => 140 | 45 => 146 | 5 => 5 | 9 => 9 | 51 => 159 | 55 => 163 | 57 => 166 | 58 => 167 | 33 => 72 | n => n, fun | n => n⟩
theorem lySorted : Go.Proofs.SlLaysZ.n6 Tryz.prog lySorted_ren := {
  mixed := by kernel_rfl
  f6 := ⟨Tryz.f77.name, by decide, Tryz.func77.trans (congrArg some (by kernel_rfl))⟩
  f8 := ⟨Tryz.f91.name, by decide, Tryz.func91.trans (congrArg some (by kernel_rfl))⟩
  f11 := ⟨Tryz.f99.name, by decide, Tryz.func99.trans (congrArg some (by kernel_rfl))⟩
  t0 := Tryz.underlying0
  a0 := Tryz.isAgg0
  z0 := Tryz.sizeOf0
  v0 := Tryz.zeroValue0
  t24 := Tryz.underlying58
  a24 := Tryz.isAgg58
  z24 := Tryz.sizeOf58
  v24 := Tryz.zeroValue58
  t26 := Tryz.underlying9
  a26 := Tryz.isAgg9
  z26 := Tryz.sizeOf9
  v26 := Tryz.zeroValue9
  t28 := Tryz.underlying109
  a28 := Tryz.isAgg109
  z28 := Tryz.sizeOf109
  v28 := Tryz.zeroValue109
  i26 := by kernel_rfl }
def lySort_ren : Go.Shelf.Ren := ⟨fun | 6 => 92 | 8 => 101 | 9 => 100 | 19 => 113 | 20 => 114 | 21 => 104 | 22 => 105 | 23 => 106 | 24 => 107 | 25 => 108 | 26 => 109 | 27 => 110 | 28 => 111 | 29 => 112 | 36 => 116 | 31 => 117 | 32 => 118 | 37 => 119 | 38 => 120 | 39 => 121 | 41 => 123 | n => n, fun | 27 => 58 | 29 => 9 | 3 => 3 | 32 => 130 | 26 => 58 | 0 => 0 | 44 => 149 | 46 => 151 | 4 => 4 | 36 => 141 | 35 => 140 | 41 => 146 | 5 => 5 | 9 => 9 | 53 => 159 | 57 => 163 | 63 => 166 | 64 => 167 | n => n, fun | n => n⟩
theorem lySort : Go.Proofs.SlLaysM.n6 Tryz.prog lySort_ren := {
  mixed := by kernel_rfl
  f6 := ⟨Tryz.f92.name, by decide, Tryz.func92.trans (congrArg some (by kernel_rfl))⟩
  f8 := Tryz.func101.trans (congrArg some (by kernel_rfl))
  f9 := ⟨Tryz.f100.name, by decide, Tryz.func100.trans (congrArg some (by kernel_rfl))⟩
  f19 := Tryz.func113.trans (congrArg some (by kernel_rfl))
  f20 := Tryz.func114.trans (congrArg some (by kernel_rfl))
  f21 := ⟨Tryz.f104.name, by decide, Tryz.func104.trans (congrArg some (by kernel_rfl))⟩
  f22 := ⟨Tryz.f105.name, by decide, Tryz.func105.trans (congrArg some (by kernel_rfl))⟩
  f23 := ⟨Tryz.f106.name, by decide, Tryz.func106.trans (congrArg some (by kernel_rfl))⟩
  f24 := ⟨Tryz.f107.name, by decide, Tryz.func107.trans (congrArg some (by kernel_rfl))⟩
  f25 := ⟨Tryz.f108.name, by decide, Tryz.func108.trans (congrArg some (by kernel_rfl))⟩
  f26 := ⟨Tryz.f109.name, by decide, Tryz.func109.trans (congrArg some (by kernel_rfl))⟩
  f27 := ⟨Tryz.f110.name, by decide, Tryz.func110.trans (congrArg some (by kernel_rfl))⟩
  f28 := ⟨Tryz.f111.name, by decide, Tryz.func111.trans (congrArg some (by kernel_rfl))⟩
  f29 := ⟨Tryz.f112.name, by decide, Tryz.func112.trans (congrArg some (by kernel_rfl))⟩
  f31 := Tryz.func117.trans (congrArg some (by kernel_rfl))
  f32 := Tryz.func118.trans (congrArg some (by kernel_rfl))
  f36 := ⟨Tryz.f116.name, by decide, Tryz.func116.trans (congrArg some (by kernel_rfl))⟩
  f37 := ⟨Tryz.f119.name, by decide, Tryz.func119.trans (congrArg some (by kernel_rfl))⟩
  f38 := ⟨Tryz.f120.name, by decide, Tryz.func120.trans (congrArg some (by kernel_rfl))⟩
  f39 := ⟨Tryz.f121.name, by decide, Tryz.func121.trans (congrArg some (by kernel_rfl))⟩
  f41 := ⟨Tryz.f123.name, by decide, Tryz.func123.trans (congrArg some (by kernel_rfl))⟩
  t0 := Tryz.underlying0
  a0 := Tryz.isAgg0
  z0 := Tryz.sizeOf0
  v0 := Tryz.zeroValue0
  t3 := Tryz.underlying3
  a3 := Tryz.isAgg3
  z3 := Tryz.sizeOf3
  v3 := Tryz.zeroValue3
  t4 := Tryz.underlying4
  a4 := Tryz.isAgg4
  z4 := Tryz.sizeOf4
  v4 := Tryz.zeroValue4
  t5 := Tryz.underlying5
  a5 := Tryz.isAgg5
  z5 := Tryz.sizeOf5
  v5 := Tryz.zeroValue5
  t9 := Tryz.underlying9
  a9 := Tryz.isAgg9
  z9 := Tryz.sizeOf9
  v9 := Tryz.zeroValue9
  t26 := Tryz.underlying58
  a26 := Tryz.isAgg58
  z26 := Tryz.sizeOf58
  v26 := Tryz.zeroValue58
  t27 := Tryz.underlying58
  a27 := Tryz.isAgg58
  z27 := Tryz.sizeOf58
  v27 := Tryz.zeroValue58
  t29 := Tryz.underlying9
  a29 := Tryz.isAgg9
  z29 := Tryz.sizeOf9
  v29 := Tryz.zeroValue9
  t32 := Tryz.underlying130
  a32 := Tryz.isAgg130
  z32 := Tryz.sizeOf130
  v32 := Tryz.zeroValue130
  t35 := Tryz.underlying140
  a35 := Tryz.isAgg140
  z35 := Tryz.sizeOf140
  v35 := Tryz.zeroValue140
  t36 := Tryz.underlying141
  a36 := Tryz.isAgg141
  z36 := Tryz.sizeOf141
  v36 := Tryz.zeroValue141
  t41 := Tryz.underlying146
  a41 := Tryz.isAgg146
  z41 := Tryz.sizeOf146
  v41 := Tryz.zeroValue146
  t44 := Tryz.underlying149
  a44 := Tryz.isAgg149
  z44 := Tryz.sizeOf149
  v44 := Tryz.zeroValue149
  t46 := Tryz.underlying151
  a46 := Tryz.isAgg151
  z46 := Tryz.sizeOf151
  v46 := Tryz.zeroValue151
  t53 := Tryz.underlying159
  a53 := Tryz.isAgg159
  z53 := Tryz.sizeOf159
  v53 := Tryz.zeroValue159
  t57 := Tryz.underlying163
  a57 := Tryz.isAgg163
  z57 := Tryz.sizeOf163
  v57 := Tryz.zeroValue163
  t63 := Tryz.underlying166
  a63 := Tryz.isAgg166
  z63 := Tryz.sizeOf166
  v63 := Tryz.zeroValue166
  t64 := Tryz.underlying167
  a64 := Tryz.isAgg167
  z64 := Tryz.sizeOf167
  v64 := Tryz.zeroValue167 }
def lyKeys_ren : Go.Shelf.Ren := ⟨fun | 7 => 84 | 10 => 94 | n => n, fun | 23 => 95 | 26 => 9 | 3 => 9 | 28 => 109 | 0 => 0 | 27 => 108 | 33 => 72 | 4 => 4 | n => n, fun | n => n⟩
theorem lyKeys : Go.Proofs.SlLaysZ.n7 Tryz.prog lyKeys_ren := {
  mixed := by kernel_rfl
  f7 := ⟨Tryz.f84.name, by decide, Tryz.func84.trans (congrArg some (by kernel_rfl))⟩
  f10 := ⟨Tryz.f94.name, by decide, Tryz.func94.trans (congrArg some (by kernel_rfl))⟩
  t0 := Tryz.underlying0
  a0 := Tryz.isAgg0
  z0 := Tryz.sizeOf0
  v0 := Tryz.zeroValue0
  t4 := Tryz.underlying4
  a4 := Tryz.isAgg4
  z4 := Tryz.sizeOf4
  v4 := Tryz.zeroValue4
  t23 := Tryz.underlying95
  a23 := Tryz.isAgg95
  z23 := Tryz.sizeOf95
  v23 := Tryz.zeroValue95
  t26 := Tryz.underlying9
  a26 := Tryz.isAgg9
  z26 := Tryz.sizeOf9
  v26 := Tryz.zeroValue9
  t27 := Tryz.underlying108
  a27 := Tryz.isAgg108
  z27 := Tryz.sizeOf108
  v27 := Tryz.zeroValue108
  t28 := Tryz.underlying109
  a28 := Tryz.isAgg109
  z28 := Tryz.sizeOf109
  v28 := Tryz.zeroValue109
  t33 := Tryz.underlying72
  a33 := Tryz.isAgg72
  z33 := Tryz.sizeOf72
  v33 := Tryz.zeroValue72 }
theorem sorts_in_ (m : Nat) : AnyZ.SortsIn Tryz.prog lySorted_ren Fence.wide m :=
  ⟨fun blk off cap ss W hH hblk hsz => callsIn_wide.2 (AnyM.slices_Sort_string lySort blk off cap ss W hH hblk hsz),
   fun p cap W => callsIn_wide.2 (AnyM.slices_Sort_string_none lySort p cap W)⟩

theorem keys_in_R (mb : Option Nat) (W : World) : CallsIn Fence.wide 5 Tryz.prog 78 #[.map mb] W fun e w' => e = .returned (.func (.func 93) #[] #[.pointer (some ⟨W.heap.size, 0, none⟩)]) ∧ w' = W.alloc (.cells #[.map mb] 78) :=
  AnyZ.keys_in lyKeysR Fence.wide 5 trivial rfl mb W

set_option maxHeartbeats 1000000 in
theorem sorted_in_R {H : Type} (b nn : Nat) (D0 : DataW H) (R : Value → Option (DataW H × List MemPlace)) (w : World) (hown : w.ownsMap Tryz.prog 9 R b nn D0) (hmax : Maps.size D0 ≤ maxLen) (hbytes : Maps.size D0 * 16 ≤ 140737488355328) :
    CallsIn Fence.wide 5 Tryz.prog 77 #[.func (.func 93) #[] #[.pointer (some ⟨w.heap.size, 0, none⟩)]] (w.alloc (.cells #[.map (some b)] 78)) fun e w' => ∃ (v : Value) (ss : List (List UInt8)), e = .returned v ∧ ss.Perm (strKeys D0) ∧
      w'.ownsRow (w.alloc (.cells #[.map (some b)] 78)).heap.size 9 1 v ss.length ((ss.mergeSort (fun x y => decide (x ≤ y))).map encStr) ∧ (v = .slice none 0 0 ↔ ss = []) ∧ Below (w.alloc (.cells #[.map (some b)] 78)).heap.size (w.alloc (.cells #[.map (some b)] 78)) w' := by
  have hbl := hown.lt
  have hseq : SeqGives Fence.wide 2 Tryz.prog 93 #[.pointer (some ⟨w.heap.size, 0, none⟩)] encStr (fun ss => ss.Perm (strKeys D0)) (Maps.size D0) (w.alloc (.cells #[.map (some b)] 78)) :=
    AnyZ.keys_gives (ρ := lyKeysR_ren) { lyKeysR with } Fence.wide _ trivial rfl (by omega) w.heap.size b nn D0 _ (by simp) (by simp) (by
      obtain ⟨es, clock, hb, Ft, hs, hD⟩ := hown
      exact ⟨es, clock, (Below.heap_alloc _ _ b hbl).trans hb, Ft, hs, hD⟩)
  exact AnyZ.sorted_in lySorted Fence.wide 5 trivial trivial trivial trivial rfl (by omega) (sorts_in_ _) (enters_of Tryz.func92 (by kernel_rfl) rfl) 93 #[.pointer (some ⟨w.heap.size, 0, none⟩)] trivial (enters_of Tryz.func93 (by kernel_rfl) rfl) _ _ hmax hbytes _ hseq


theorem keysR_any (mb : Option Nat) (W : World) : Calls Tryz.prog 78 #[.map mb] W fun e w' => e = .returned (.func (.func 93) #[] #[.pointer (some ⟨W.heap.size, 0, none⟩)]) ∧ w' = W.alloc (.cells #[.map mb] 78) :=
  callsIn_wide.1 (keys_in_R mb W)
theorem sortedR_any {H : Type} (b nn : Nat) (D0 : DataW H) (R : Value → Option (DataW H × List MemPlace)) (w : World) (hown : w.ownsMap Tryz.prog 9 R b nn D0) (hmax : Maps.size D0 ≤ maxLen) (hbytes : Maps.size D0 * 16 ≤ 140737488355328) :
    Calls Tryz.prog 77 #[.func (.func 93) #[] #[.pointer (some ⟨w.heap.size, 0, none⟩)]] (w.alloc (.cells #[.map (some b)] 78)) fun e w' => ∃ (v : Value) (ss : List (List UInt8)), e = .returned v ∧ ss.Perm (strKeys D0) ∧
      w'.ownsRow (w.alloc (.cells #[.map (some b)] 78)).heap.size 9 1 v ss.length ((ss.mergeSort (fun x y => decide (x ≤ y))).map encStr) ∧ (v = .slice none 0 0 ↔ ss = []) ∧ Below (w.alloc (.cells #[.map (some b)] 78)).heap.size (w.alloc (.cells #[.map (some b)] 78)) w' :=
  callsIn_wide.1 (sorted_in_R b nn D0 R w hown hmax hbytes)
theorem keys_in_ (mb : Option Nat) (W : World) : CallsIn Fence.wide 5 Tryz.prog 84 #[.map mb] W fun e w' => e = .returned (.func (.func 94) #[] #[.pointer (some ⟨W.heap.size, 0, none⟩)]) ∧ w' = W.alloc (.cells #[.map mb] 95) :=
  AnyZ.keys_in lyKeys Fence.wide 5 trivial rfl mb W

set_option maxHeartbeats 1000000 in
theorem sorted_in_ {H : Type} (b nn : Nat) (D0 : DataW H) (R : Value → Option (DataW H × List MemPlace)) (w : World) (hown : w.ownsMap Tryz.prog 9 R b nn D0) (hmax : Maps.size D0 ≤ maxLen) (hbytes : Maps.size D0 * 16 ≤ 140737488355328) :
    CallsIn Fence.wide 5 Tryz.prog 77 #[.func (.func 94) #[] #[.pointer (some ⟨w.heap.size, 0, none⟩)]] (w.alloc (.cells #[.map (some b)] 95)) fun e w' => ∃ (v : Value) (ss : List (List UInt8)), e = .returned v ∧ ss.Perm (strKeys D0) ∧
      w'.ownsRow (w.alloc (.cells #[.map (some b)] 95)).heap.size 9 1 v ss.length ((ss.mergeSort (fun x y => decide (x ≤ y))).map encStr) ∧ (v = .slice none 0 0 ↔ ss = []) ∧ Below (w.alloc (.cells #[.map (some b)] 95)).heap.size (w.alloc (.cells #[.map (some b)] 95)) w' := by
  have hbl := hown.lt
  have hseq : SeqGives Fence.wide 2 Tryz.prog 94 #[.pointer (some ⟨w.heap.size, 0, none⟩)] encStr (fun ss => ss.Perm (strKeys D0)) (Maps.size D0) (w.alloc (.cells #[.map (some b)] 95)) :=
    AnyZ.keys_gives (ρ := lyKeys_ren) { lyKeys with } Fence.wide _ trivial rfl (by omega) w.heap.size b nn D0 _ (by simp) (by simp) (by
      obtain ⟨es, clock, hb, Ft, hs, hD⟩ := hown
      exact ⟨es, clock, (Below.heap_alloc _ _ b hbl).trans hb, Ft, hs, hD⟩)
  exact AnyZ.sorted_in lySorted Fence.wide 5 trivial trivial trivial trivial rfl (by omega) (sorts_in_ _) (enters_of Tryz.func92 (by kernel_rfl) rfl) 94 #[.pointer (some ⟨w.heap.size, 0, none⟩)] trivial (enters_of Tryz.func94 (by kernel_rfl) rfl) _ _ hmax hbytes _ hseq


theorem keys_any (mb : Option Nat) (W : World) : Calls Tryz.prog 84 #[.map mb] W fun e w' => e = .returned (.func (.func 94) #[] #[.pointer (some ⟨W.heap.size, 0, none⟩)]) ∧ w' = W.alloc (.cells #[.map mb] 95) :=
  callsIn_wide.1 (keys_in_ mb W)
theorem sorted_any {H : Type} (b nn : Nat) (D0 : DataW H) (R : Value → Option (DataW H × List MemPlace)) (w : World) (hown : w.ownsMap Tryz.prog 9 R b nn D0) (hmax : Maps.size D0 ≤ maxLen) (hbytes : Maps.size D0 * 16 ≤ 140737488355328) :
    Calls Tryz.prog 77 #[.func (.func 94) #[] #[.pointer (some ⟨w.heap.size, 0, none⟩)]] (w.alloc (.cells #[.map (some b)] 95)) fun e w' => ∃ (v : Value) (ss : List (List UInt8)), e = .returned v ∧ ss.Perm (strKeys D0) ∧
      w'.ownsRow (w.alloc (.cells #[.map (some b)] 95)).heap.size 9 1 v ss.length ((ss.mergeSort (fun x y => decide (x ≤ y))).map encStr) ∧ (v = .slice none 0 0 ↔ ss = []) ∧ Below (w.alloc (.cells #[.map (some b)] 95)).heap.size (w.alloc (.cells #[.map (some b)] 95)) w' :=
  callsIn_wide.1 (sorted_in_ b nn D0 R w hown hmax hbytes)

end Go.Proofs.YtceiafncpimihaaGreat

namespace Go.Proofs.YtceiafncpimihaaGreat
set_option linter.unusedVariables false
open Go.RowKit Go.Maps

theorem mlaw : Keyed Tryz.prog 9 := string_keyed Tryz.underlying9
theorem mzero (w : World) : (zeroValue 9).run Tryz.prog w = .ok (.string .empty) w := by kernel_rfl

/-- block b is a map of at most n entries that holds just the files gs -/
def MapAt (w : World) (b n : Nat) (gs : List Fl) : Prop := ∃ D : DataW Unit, w.ownsMap Tryz.prog 9 (plainElem Tryz.prog 9) b n D ∧ Rep D gs
theorem MapAt.kept {w w' : World} {b n : Nat} {gs : List Fl} {row : Option Nat} (h : MapAt w b n gs) (hg : w.grownBy w' row) (hne : some b ≠ row) : MapAt w' b n gs := by
  obtain ⟨D, h1, h2⟩ := h
  exact ⟨D, h1.kept hg hne, h2⟩
theorem MapAt.alloc {w : World} {b n : Nat} {gs : List Fl} (h : MapAt w b n gs) (o : Obj) : MapAt (w.alloc o) b n gs := h.kept (World.grownBy_alloc w o none) (by simp)
theorem MapAt.perm {w : World} {b n : Nat} {gs hs : List Fl} (h : MapAt w b n gs) (hp : gs.Perm hs) : MapAt w b n hs := by
  obtain ⟨D, h1, h2⟩ := h
  exact ⟨D, h1, h2.perm hp⟩
theorem MapAt.lt {w : World} {b n : Nat} {gs : List Fl} (h : MapAt w b n gs) : b < w.heap.size := let ⟨_, h1, _⟩ := h; h1.lt
theorem MapAt.length {w : World} {b n : Nat} {gs : List Fl} (h : MapAt w b n gs) : gs.length ≤ n := by
  obtain ⟨D, h1, h2⟩ := h
  rw [← h2.size]; exact h1.size_le

set_option maxHeartbeats 400000 in
theorem mput_any (b n : Nat) (gs : List Fl) (p t : ByteArray) (w : World) (h : MapAt w b n gs) (hn : n ≤ 1048576) (hp : p.size ≤ maxLen) (ht : t.size ≤ maxLen) :
    Calls Tryz.prog 63 #[.map (some b), .agg #[.string p, .string t]] w fun e w' =>
      e = .returned (.tuple #[]) ∧ MapAt w' b (n + 1) (putU (p, t) gs) ∧ w.grownBy w' (some b) := by
  obtain ⟨D, hown, hrep⟩ := h
  have hkey := Lib.hid (WideMaps.keyOf_string_mk (P := Tryz.prog) Tryz.underlying9 hp)
  have hval := Lib.hid (plainElem_string (H := Unit) (P := Tryz.prog) Tryz.underlying9 ht)
  clear hp ht
  go_enter Tryz.func63, Tryz.ntmps63
  go_wp2_with (at_mapUpdate; refine wpList_mapUpdate_own _ rfl _ _ _ 95 rfl 9 9 mlaw Tryz.underlying95 _ b n D rfl (hown.alloc _) (by simp only [maxLen]; omega) _ _ _ rfl rfl hkey.out _ _ hval.out ?_; intro w1 hown1 hgrow1)
  go_end0
  exact ⟨rfl, ⟨_, hown1, hrep.put (p, t)⟩, (World.grownBy_alloc w _ _).trans hgrow1⟩

/-- is a file with this path on the list? -/
def hasF (gs : List Fl) (x : ByteArray) : Bool := gs.any fun g => decide (g.1 = x)

set_option maxHeartbeats 400000 in
theorem mremove_any (b n : Nat) (gs : List Fl) (x : ByteArray) (w : World) (h : MapAt w b n gs) (hx : x.size ≤ maxLen) :
    Calls Tryz.prog 71 #[.map (some b), .string x] w fun e w' =>
      e = .returned (.bool (hasF gs x)) ∧ MapAt w' b n (delU x gs) ∧ w.grownBy w' (some b) := by
  obtain ⟨D, hown, hrep⟩ := h
  have hkey := Lib.hid (WideMaps.keyOf_string_mk (P := Tryz.prog) Tryz.underlying9 hx)
  have hzd := Lib.hid (plainElem_string (H := Unit) (P := Tryz.prog) Tryz.underlying9 (s := .empty) (by simp [maxLen]))
  have hhas := Lib.hid (hrep.has x)
  clear hx
  go_enter Tryz.func71, Tryz.ntmps71
  go_wp2_with (first
    | (at_lookup; refine wpList_lookup_own_ok _ rfl _ _ 95 rfl 9 9 mlaw Tryz.underlying95 _ (mzero _) _ _ hzd.out b n D rfl hown _ _ rfl hkey.out ?_; intro v ps hv; have Hv := Lib.hid hv; clear hv)
    | (at_delete; refine wpList_delete_own _ rfl _ _ 95 9 rfl 9 mlaw Tryz.underlying95 _ b n D rfl hown _ _ rfl hkey.out ?_; intro w1 hown1 hturn1))
  go_ret
  exact ⟨ret_bool hhas.out, ⟨_, hown1, hrep.del x⟩, hturn1.grown⟩

theorem once_take {fs : List Fl} (h : Once fs) (k : Nat) : Once (fs.take k) := List.Pairwise.take h
theorem putU_take {fs : List Fl} {k : Nat} {p t : ByteArray} (h : Once fs) (hg : fs[k]? = some (p, t)) : (putU (p, t) (fs.take k)).Perm (fs.take (k + 1)) := by
  rw [List.take_add_one, hg]
  refine putU_new fun g hm => ?_
  have h2 := once_take h (k + 1)
  rw [List.take_add_one, hg] at h2
  exact (List.pairwise_append.1 h2).2.2 g hm (p, t) (by simp)

theorem run_makeMap_n {P : Program} (t k e : TypeId) (ht : P.underlying t = some (.map k e)) (n : Nat) (w : World) : (Instr.makeMap t (some (.int .i64 (n : Int)))).run P w = .ok (.map (some w.heap.size)) (w.alloc (.map #[] 0)) := by
  simp [Instr.makeMap, run_underlying ht, Result.andThen, asInt, newObj]
  rfl

set_option maxHeartbeats 400000 in
theorem mnew_any (a : Option Addr) (n c : Nat) (fs : List Fl) (w : World) (hf : FilesAt w w.heap.size a n fs) (hs : Fits fs) (hn : n ≤ 1048576) (ho : Once fs) :
    Calls Tryz.prog 62 #[.slice a n c] w fun e w' =>
      ∃ b, e = .returned (.map (some b)) ∧ w.heap.size ≤ b ∧ MapAt w' b n fs ∧ Below w.heap.size w w' := by
  have hlen := Lib.hid hf.1
  have hmm := fun W => run_makeMap_n (P := Tryz.prog) 95 _ _ Tryz.underlying95 n W
  go_enter Tryz.func62, Tryz.ntmps62
  go_wp2_with fail
  go_loopw [11] (fun i wr => ∃ k : Nat, k ≤ n ∧ i = .int .i64 k ∧ MapAt wr w.heap.size k (fs.take k) ∧ Below w.heap.size w wr) (fun i _ => n - (intOf i).toNat)
  case atStart => exact ⟨0, Nat.zero_le _, rfl, ⟨_, World.ownsMap_made _ _ _ _, rep_empty⟩, (Below.refl _ _).alloc (Nat.le_refl _) _⟩
  case round =>
    obtain ⟨k, hk, rfl, hM, hB⟩ := hrel
    have HM := Lib.hid hM; clear hM
    by_cases hlt : k < n
    · obtain ⟨b, off, p, t, rfl, hb, hg, hc1, hc2⟩ := (hf.below hB).get hlt
      have hfit := Lib.hid (hs.get hg)
      have hpt := Lib.hid (putU_take ho hg)
      clear hg
      go_wp2_with (go_at_call 63; refine (mput_any _ k (fs.take k) p t _ (HM.out.alloc _) (by omega) hfit.out.1 hfit.out.2).mono ?_; rintro e w1 ⟨rfl, hM1, hg1⟩)
      go_roundw
      case rel => exact ⟨k + 1, by omega, by go_num, hM1.perm hpt.out, (hB.alloc hB.size _).grown hg1 (Nat.le_trans hB.size (by simp)) (fun j hj => by cases hj; exact Nat.le_refl _)⟩
      case measure => simp [intOf]; omega
    · have e : n = k := by omega
      have HM2 : Hid (MapAt wr w.heap.size n fs) := Lib.hid (by have := HM.out; rw [List.take_of_length_le (by have := hlen.out; omega)] at this; rw [e]; exact this)
      clear e
      go_wp2_with fail
      go_ret
      exact ⟨_, rfl, Nat.le_refl _, HM2.out, hB⟩

theorem srtF_length (gs : List Fl) : (srtF gs).length = gs.length := (srtF_perm gs).length_eq
theorem keysF_length (gs : List Fl) : ((srtF gs).map fun f => encStr f.1.data.toList).length = gs.length := by rw [List.length_map, srtF_length]

theorem wpList_lookup_own_str {H : Type} {P : Program} (w : World) {ops : Array Oper} {rest : List Oper} {o : Oper} {a : Act} {Q : Exit → Act → World → Prop}
    (hg : o.guard = none) (m x : Operand) (t : TypeId) (hop : o.op = Op.lookup t m x false)
    (k e : TypeId) (K : Keyed P k) (ht : P.underlying t = some (.map k e)) (he : P.underlying e = some .string) (hz : (zeroValue e).run P w = .ok (.string .empty) w) (b n : Nat) (D : DataW H)
    (hm : a.eval m = .map (some b)) (hown : w.ownsMap P k (plainElem P e) b n D) (key : Value) (kl : Lit) (hx : a.eval x = key) (hkey : keyOf P k key = some kl) (s : ByteArray) (hs : ∀ z, D.atKey kl z = .lit (.string s.data.toList))
    (hK : wpList P ops Q rest (a.put o.dst (.string s)) w) : wpList P ops Q (o :: rest) a w := by
  refine wpList_plain hg fun K' hK' => ?_
  obtain ⟨v, ps, hrun, hv⟩ := hown.lookup K ht hz (plainElem_string he (s := .empty) (by simp [maxLen])) hkey
  obtain ⟨s', rfl, hc, _⟩ := plainElem_string_inv he hv
  rw [hs] at hc
  have h1 : (DataW.lit (.string s.data.toList) : DataW H) = .lit (.string s'.data.toList) := congrArg Prod.fst hc
  obtain rfl : s = s' := bytes_ext (by simpa using h1)
  unfold Oper.wp
  simp [execOp, hop, hm, hx, hrun, Result.andThen]
  exact hK' _ _ hK

theorem keysF_get {gs : List Fl} {k : Nat} {p t : ByteArray} (h : (srtF gs)[k]? = some (p, t)) : ((srtF gs).map (encStr ∘ fun f => f.1.data.toList))[k]? = some (.string p) := by
  rw [List.getElem?_map, h]
  simp [encStr]

theorem mapkeys_le {w : World} {b n : Nat} {gs : List Fl} {D : DataW Unit} (h : w.ownsMap Tryz.prog 9 (plainElem Tryz.prog 9) b n D) (hr : Rep D gs) : ∀ f ∈ gs, f.1.size ≤ maxLen := fun f hf => by
  have := strKeys_le h Tryz.underlying9 f.1.data.toList (hr.keys.mem_iff.2 (List.mem_map.2 ⟨f, hf, rfl⟩))
  rwa [Array.length_toList] at this
theorem mgrown_trans {w w' w'' : World} {row : Option Nat} (h : w.grownBy w' row) (k : w'.grownBy w'' row) : w.grownBy w'' row :=
  ⟨k.os.trans h.os, k.tape.trans h.tape, k.output.trans h.output, Nat.le_trans h.size k.size, fun i hi hne => (k.block i (Nat.lt_of_lt_of_le hi h.size) hne).trans (h.block i hi hne)⟩

theorem own_below {H : Type} {P : Program} {k : TypeId} {R : Value → Option (DataW H × List MemPlace)} {w w' : World} {B b n : Nat} {D : DataW H} (h : w.ownsMap P k R b n D) (hB : Below B w w') (hb : b < B) : w'.ownsMap P k R b n D := by
  obtain ⟨es, clock, hh, r⟩ := h
  exact ⟨es, clock, (hB.block b hb).trans hh, r⟩
set_option maxHeartbeats 1000000 in
theorem mfiles_any (b n : Nat) (gs : List Fl) (w : World) (h : MapAt w b n gs) (hn : n ≤ 1048576) :
    Calls Tryz.prog 64 #[.map (some b)] w fun e w' =>
      ∃ v, e = .returned v ∧ OwnsF w' w.heap.size v (srtF gs) ∧ Below w.heap.size w w' := by
  have hl := h.length
  have hbl := h.lt
  obtain ⟨D, hown, hrep⟩ := h
  have hsz := Lib.hid hrep.size
  have hpk := Lib.hid (mapkeys_le hown hrep)
  obtain ⟨i0, hi, hz0, hz1, hz2⟩ := info_parts fput_info
  go_enter Tryz.func64, Tryz.ntmps64
  go_wp2_with (first
    | (at_len; refine wpList_len_own _ rfl _ 95 rfl 9 9 Tryz.underlying95 _ b n D rfl hown ?_; rw [hsz.out])
    | (at_make; refine wpList_make_own _ rfl _ _ 23 rfl w.heap.size 28 i0 _ 2 Tryz.underlying23 hi hz0 hz1 _ _ _ gs.length rfl rfl rfl (by rw [hz2]; omega) (by simp only [maxLen]; omega) (Nat.le_refl _) ?_; intro w1 hown1 hg1))
  have hownA := hown.kept hg1 (by simp)
  have hw1 : w.heap.size < w1.heap.size := (hown1.lt _ rfl).2
  refine (keys_any (some b) _).mono ?_
  rintro e w2 ⟨rfl, rfl⟩
  go_wp2_with fail
  refine (sorted_any b n D _ w1 hownA (by rw [hsz.out]; simp only [maxLen]; omega) (by rw [hsz.out]; omega)).mono ?_
  rintro e w3 ⟨kv, ss, rfl, hperm, hrow, hnil, hB3⟩
  have hss : ss.length = gs.length := (hperm.trans hrep.keys).length_eq.trans (List.length_map ..)
  have hks := srtF_keys (hperm.trans hrep.keys)
  rw [hks, hss, List.map_map] at hrow
  have hB13 : Below w1.heap.size w1 w3 := ((Below.refl w1.heap.size w1).alloc (Nat.le_refl _) _).trans (hB3.mono (by simp))
  have hsz3 := hB13.size
  have hB03 : Below w.heap.size w w3 := ((Below.refl w.heap.size w).grown hg1 (Nat.le_refl _) (fun j hj => by cases hj)).trans (hB13.mono (by omega))
  have hown3 := own_below hownA hB13 (by omega)
  have hl3 := row_below hown1 hB13 hw1
  clear hks hss hperm hnil hB3 hB13 hown1 hownA hown hg1
  rcases hrow.2 with ⟨rfl, hz⟩ | ⟨g, cap, cur, rfl, hbg, _⟩
  · have Hz := Lib.hid hz
    clear hz hrow
    have Hl : Hid (OwnsF w3 w.heap.size (.slice (some ⟨w.heap.size, 0, none⟩) 0 gs.length) (srtF gs)) := Lib.hid (by
      have e : srtF gs = [] := List.eq_nil_of_length_eq_zero (by rw [srtF_length, Hz.out])
      rw [OwnsF, e]; exact hl3)
    clear hl3 hown3
    go_wp2_with fail
    go_loopw [3, 13] (fun v i wr => i = .int .i64 0 ∧ v = .slice (some ⟨w.heap.size, 0, none⟩) 0 gs.length ∧ wr = w3) (fun _ _ _ => 0)
    case atStart => exact ⟨rfl, rfl, rfl⟩
    case round =>
      obtain ⟨rfl, rfl, rfl⟩ := hrel
      go_wp2_with fail
      go_ret
      exact ⟨_, rfl, Hl.out, hB03⟩
  · have hg3 := (hrow.lt _ rfl).2
    have hcell := Lib.hid (row_cells hrow)
    have hwg : w.heap.size < g := by simp at hbg; omega
    clear hrow
    go_wp2_with fail
    go_loopw [3, 13] (fun v i wr => ∃ k : Nat, k ≤ gs.length ∧ i = .int .i64 k ∧ v = .slice (some ⟨w.heap.size, 0, none⟩) k gs.length ∧ wr.ownsRow w.heap.size 28 2 (.slice (some ⟨w.heap.size, 0, none⟩) k gs.length) k (fcells ((srtF gs).take k)) ∧ wr.ownsMap Tryz.prog 9 (plainElem Tryz.prog 9) b n D ∧ Below w.heap.size w wr ∧ w3.grownBy wr (some w.heap.size)) (fun _ i _ => gs.length - (intOf i).toNat)
    case atStart => exact ⟨0, Nat.zero_le _, rfl, rfl, hl3, hown3, hB03, World.grownBy.refl _ _⟩
    case round =>
      obtain ⟨k, hk, rfl, rfl, hrow, hm, hB, hgr⟩ := hrel
      by_cases hlt : k < gs.length
      · have hkl : k < (srtF gs).length := by rw [srtF_length]; exact hlt
        have hgt : (srtF gs)[k]? = some ((srtF gs)[k].1, (srtF gs)[k].2) := List.getElem?_eq_getElem hkl
        generalize (srtF gs)[k].1 = p at hgt
        generalize (srtF gs)[k].2 = t at hgt
        have hat := Lib.hid (fun z => hrep.at_ ((srtF_perm gs).mem_iff.1 (List.mem_of_getElem? hgt)) z)
        have hc : wr.cell? ⟨g, k, none⟩ = some (.string p) := hgr.cell (hcell.out k _ (keysF_get hgt)) (by simp; omega)
        have hps := Lib.hid (hpk.out _ ((srtF_perm gs).mem_iff.1 (List.mem_of_getElem? hgt)))
        have hkey := Lib.hid (WideMaps.keyOf_string_mk (P := Tryz.prog) Tryz.underlying9 hps.out)
        have hft := Lib.hid (fcells_take_succ hgt)
        have Hrow := Lib.hid hrow
        have Hm := Lib.hid hm
        clear hgt hrow hm hkl
        go_wp2_with (first
          | (at_lookup; refine wpList_lookup_own_str _ rfl _ _ 95 rfl 9 9 mlaw Tryz.underlying95 Tryz.underlying9 (mzero _) b n D rfl Hm.out _ _ rfl hkey.out t hat.out ?_)
          | (at_builtin; refine wpList_append_fits _ rfl _ _ 23 rfl w.heap.size 28 i0 2 Tryz.underlying23 hi hz1 w.heap.size k gs.length _ rfl (World.ownsRow.alloc Hrow.out _) ⟨wr.heap.size, 0, none⟩ 1 1 [.string p, .string t] rfl rfl (two_new _ _ _ _) (by simp [Value.oneCell']) (by omega) ?_; intro w5 hrow5 hg5))
        exact ⟨⟨k + 1, by omega, by go_num, rfl, by rw [hft.out]; exact hrow5, (Hm.out.alloc _).kept hg5 (by simp; omega), (hB.alloc hB.size _).grown hg5 (Nat.le_trans hB.size (by simp)) (fun j hj => by cases hj; exact Nat.le_refl _), mgrown_trans (mgrown_trans hgr (World.grownBy_alloc _ _ _)) hg5⟩, by simp [intOf]; omega⟩
      · have e : k = gs.length := by omega
        have Hl : Hid (OwnsF wr w.heap.size (.slice (some ⟨w.heap.size, 0, none⟩) k gs.length) (srtF gs)) := Lib.hid (by
          have := hrow
          rw [List.take_of_length_le (by rw [srtF_length]; omega)] at this
          rw [OwnsF, srtF_length, ← e]
          rw [← e] at this
          exact this)
        clear e hrow hm
        go_wp2_with fail
        go_ret
        exact ⟨_, rfl, Hl.out, hB⟩

end Go.Proofs.YtceiafncpimihaaGreat

namespace Go.Proofs.YtceiafncpimihaaGreat
set_option linter.unusedVariables false
open Go.RowKit Go.Maps

abbrev Kv := ByteArray × Value
/-- how an element of any kind reads: as itself -/
def anyElem (v : Value) : Option (DataW Value × List MemPlace) := some (.held v, [])
def entV (f : Kv) : Lit × DataW Value := (.string f.1.data.toList, .held f.2)
/-- no key stands twice -/
def OnceV (gs : List Kv) : Prop := gs.Pairwise fun a b => a.1 ≠ b.1
/-- one put in, in whatever place -/
def putV (f : Kv) (gs : List Kv) : List Kv := f :: gs.filter fun g => decide (g.1 ≠ f.1)
/-- one struck out -/
def delV (p : ByteArray) (gs : List Kv) : List Kv := gs.filter fun g => decide (g.1 ≠ p)
theorem mem_putV {f g : Kv} {gs : List Kv} : g ∈ putV f gs ↔ g = f ∨ (g ∈ gs ∧ g.1 ≠ f.1) := by simp [putV]
theorem mem_delV {p : ByteArray} {g : Kv} {gs : List Kv} : g ∈ delV p gs ↔ g ∈ gs ∧ g.1 ≠ p := by simp [delV]
theorem putV_once {f : Kv} {gs : List Kv} (h : OnceV gs) : OnceV (putV f gs) :=
  List.pairwise_cons.2 ⟨fun g hg => by have := (List.mem_filter.1 hg).2; simp at this; exact fun e => this e.symm, List.Pairwise.filter _ h⟩
theorem OnceV.inj {gs : List Kv} (h : OnceV gs) {f g : Kv} (hf : f ∈ gs) (hg : g ∈ gs) (he : f.1 = g.1) : f = g := by
  induction gs with
  | nil => cases hf
  | cons x gs ih =>
    obtain ⟨h1, h2⟩ := List.pairwise_cons.1 h
    rcases List.mem_cons.1 hf with e1 | m1 <;> rcases List.mem_cons.1 hg with e2 | m2
    · rw [e1, e2]
    · subst e1; exact absurd he (h1 _ m2)
    · subst e2; exact absurd he.symm (h1 _ m1)
    · exact ih h2 m1 m2
/-- the map D holds just these -/
def RepV (D : DataW Value) (gs : List Kv) : Prop := ∃ es, D = .map es ∧ es.Perm (gs.map entV) ∧ OnceV gs
theorem repV_empty : RepV (.map []) [] := ⟨[], rfl, .nil, List.Pairwise.nil⟩
theorem entV_filter (p : ByteArray) (gs : List Kv) : ((gs.map entV).filter fun e => !e.1.sameKey (.string p.data.toList)) = (delV p gs).map entV := by
  unfold delV
  rw [List.filter_map]
  congr 1
  refine List.filter_congr fun g _ => ?_
  show (!(Lit.string g.1.data.toList).sameKey _) = _
  rw [sameKey_str]
  by_cases h : g.1 = p
  · simp [h]
  · have : ¬ g.1.data.toList = p.data.toList := fun e => h (bytes_ext e)
    simp only [this, h, decide_false, Bool.not_false, ne_eq, not_false_eq_true, decide_true]
theorem RepV.put {D : DataW Value} {gs : List Kv} (h : RepV D gs) (p : ByteArray) (v : Value) : RepV (D.put (.string p.data.toList) (.held v)) (putV (p, v) gs) := by
  obtain ⟨es, rfl, h1, h2⟩ := h
  refine ⟨_, rfl, (insert_perm _ _).trans ?_, putV_once h2⟩
  have h3 := h1.filter fun e => !e.1.sameKey (.string p.data.toList)
  rw [entV_filter] at h3
  exact h3.cons _
theorem RepV.del {D : DataW Value} {gs : List Kv} (h : RepV D gs) (p : ByteArray) : RepV (D.del (.string p.data.toList)) (delV p gs) := by
  obtain ⟨es, rfl, h1, h2⟩ := h
  refine ⟨_, rfl, ?_, List.Pairwise.filter _ h2⟩
  have h3 := h1.filter fun e => !e.1.sameKey (.string p.data.toList)
  rwa [entV_filter] at h3
theorem RepV.has {D : DataW Value} {gs : List Kv} (h : RepV D gs) (p : ByteArray) : Maps.has D (.string p.data.toList) = gs.any fun g => decide (g.1 = p) := by
  obtain ⟨es, rfl, h1, _⟩ := h
  rw [has_eq, h1.any_eq, List.any_map]
  congr 1
  funext g
  show (Lit.string g.1.data.toList).sameKey (.string p.data.toList) = decide (g.1 = p)
  rw [sameKey_str]
  by_cases hg : g.1 = p
  · simp [hg]
  · have : ¬ g.1.data.toList = p.data.toList := fun e => hg (bytes_ext e)
    simp [hg, this]
theorem atKey_some {H : Type} {es : List (Lit × DataW H)} {k : Lit} {z : DataW H} {e : Lit × DataW H} (h : es.find? (fun e => e.1.sameKey k) = some e) : (DataW.map es).atKey k z = e.2 := by unfold DataW.atKey; simp only [h]
theorem atKey_none {H : Type} {es : List (Lit × DataW H)} {k : Lit} {z : DataW H} (h : es.find? (fun e => e.1.sameKey k) = none) : (DataW.map es).atKey k z = z := by unfold DataW.atKey; simp only [h]
theorem RepV.at_ {D : DataW Value} {gs : List Kv} (h : RepV D gs) {p : ByteArray} {v : Value} (hm : (p, v) ∈ gs) (z : DataW Value) : D.atKey (.string p.data.toList) z = .held v := by
  obtain ⟨es, rfl, h1, h2⟩ := h
  cases hf : es.find? (fun e => e.1.sameKey (.string p.data.toList)) with
  | none =>
    rw [List.find?_eq_none] at hf
    have := hf (entV (p, v)) (h1.mem_iff.2 (List.mem_map.2 ⟨_, hm, rfl⟩))
    simp [entV, sameKey_str] at this
  | some e =>
    have hk := List.find?_some hf
    obtain ⟨g, hg, rfl⟩ := List.mem_map.1 (h1.mem_iff.1 (List.mem_of_find?_eq_some hf))
    simp [entV, sameKey_str] at hk
    rw [atKey_some hf]
    obtain rfl : g = (p, v) := h2.inj hg hm (bytes_ext (by simpa using hk))
    rfl
theorem RepV.none_ {D : DataW Value} {gs : List Kv} (h : RepV D gs) {p : ByteArray} (hm : ∀ g ∈ gs, g.1 ≠ p) (z : DataW Value) : D.atKey (.string p.data.toList) z = z := by
  obtain ⟨es, rfl, h1, h2⟩ := h
  cases hf : es.find? (fun e => e.1.sameKey (.string p.data.toList)) with
  | none => exact atKey_none hf
  | some e =>
    have hk := List.find?_some hf
    obtain ⟨g, hg, rfl⟩ := List.mem_map.1 (h1.mem_iff.1 (List.mem_of_find?_eq_some hf))
    simp [entV, sameKey_str] at hk
    exact absurd (bytes_ext (by simpa using hk)) (hm g hg)
end Go.Proofs.YtceiafncpimihaaGreat

namespace Go.Proofs.YtceiafncpimihaaGreat
set_option linter.unusedVariables false
set_option linter.unusedSimpArgs false
open Go.RowKit Go.Maps

theorem rlaw : Keyed Tryz.prog 9 := string_keyed Tryz.underlying9
theorem rzero (w : World) : (zeroValue 43).run Tryz.prog w = .ok (.agg #[.int .i64 0, .string .empty, .slice none 0 0]) w := by kernel_rfl
/-- an entry of the map is the rule's body as it lies in memory -/
def BodyV (w : World) (B : Nat) (g : Kv) (x : Ru) : Prop := g.1 = x.1 ∧ ∃ a n c, g.2 = .agg #[.int .i64 x.2.1, .string x.2.2.1, .slice a n c] ∧ n ≤ c ∧ KA w 0 B x.2.2.2 a n
/-- block b is a map of at most m entries that holds the bodies of these rules -/
def MapR (wr : World) (b m : Nat) (rs : List Ru) (w : World) (B : Nat) : Prop := ∃ D gs, wr.ownsMap Tryz.prog 9 anyElem b m D ∧ RepV D gs ∧ (∀ g ∈ gs, ∃ x ∈ rs, BodyV w B g x) ∧ (∀ x ∈ rs, ∃ g ∈ gs, g.1 = x.1)
section
variable {w w' wr : World} {b m B : Nat} {rs : List Ru}
theorem MapR.kept {row : Option Nat} (h : MapR wr b m rs w B) (hg : wr.grownBy w' row) (hne : some b ≠ row) : MapR w' b m rs w B := by
  obtain ⟨D, gs, h1, h2⟩ := h
  exact ⟨D, gs, h1.kept hg hne, h2⟩
theorem MapR.alloc (h : MapR wr b m rs w B) (o : Obj) : MapR (wr.alloc o) b m rs w B := h.kept (World.grownBy_alloc wr o none) (by simp)
theorem MapR.lt (h : MapR wr b m rs w B) : b < wr.heap.size := let ⟨_, _, h1, _⟩ := h; h1.lt
end
theorem bodies_step {w : World} {B j : Nat} {rs : List Ru} {gs : List Kv} {t : ByteArray} {v : Value} {x : Ru} (hg : rs[j]? = some x) (hx : BodyV w B (t, v) x) (h1 : ∀ g ∈ gs, ∃ x ∈ rs.take j, BodyV w B g x) (h2 : ∀ x ∈ rs.take j, ∃ g ∈ gs, g.1 = x.1) :
    (∀ g ∈ putV (t, v) gs, ∃ x ∈ rs.take (j + 1), BodyV w B g x) ∧ (∀ x ∈ rs.take (j + 1), ∃ g ∈ putV (t, v) gs, g.1 = x.1) := by
  rw [List.take_add_one, hg]
  refine ⟨fun g hgm => ?_, fun y hy => ?_⟩
  · rcases mem_putV.1 hgm with rfl | ⟨hgm, _⟩
    · exact ⟨x, by simp, hx⟩
    · obtain ⟨y, hy, hb⟩ := h1 g hgm
      exact ⟨y, List.mem_append_left _ hy, hb⟩
  · rcases List.mem_append.1 hy with hy | hy
    · obtain ⟨g, hgm, e⟩ := h2 y hy
      by_cases ht : g.1 = t
      · exact ⟨(t, v), mem_putV.2 (.inl rfl), by rw [← e, ht]⟩
      · exact ⟨g, mem_putV.2 (.inr ⟨hgm, ht⟩), e⟩
    · obtain rfl : y = x := by simpa using hy
      exact ⟨(t, v), mem_putV.2 (.inl rfl), hx.1⟩

set_option maxRecDepth 100000 in
set_option maxHeartbeats 1000000 in
theorem rmap_anyB (B : Nat) (a : Option Addr) (n c : Nat) (rs : List Ru) (w : World) (hBw : B ≤ w.heap.size) (hr : RuAt w 0 B rs a n) (hrf : RuFits rs) (hn : n ≤ 1048576) :
    Calls Tryz.prog 49 #[.slice a n c] w fun e w' => ∃ b, e = .returned (.map (some b)) ∧ w.heap.size ≤ b ∧ MapR w' b n rs w B ∧ Below w.heap.size w w' := by
  have hlen := Lib.hid hr.1
  have hmm := fun W => run_makeMap_n (P := Tryz.prog) 78 _ _ Tryz.underlying78 n W
  go_enter Tryz.func49, Tryz.ntmps49
  go_wp2_with fail
  go_loopw [11] (fun i wr => ∃ k : Nat, k ≤ n ∧ i = .int .i64 k ∧ MapR wr w.heap.size k (rs.take k) w B ∧ Below w.heap.size w wr) (fun i _ => n - (intOf i).toNat)
  case atStart => exact ⟨0, Nat.zero_le _, rfl, ⟨_, [], World.ownsMap_made _ _ _ _, repV_empty, fun g hg => by simp at hg, fun x hx => by simp at hx⟩, (Below.refl _ _).alloc (Nat.le_refl _) _⟩
  case round =>
    obtain ⟨j, hj, rfl, hM, hB⟩ := hrel
    by_cases hlt : j < n
    · obtain ⟨b, off, t, k, s, ks, a', n', c', rfl, _, hb, hg, hc0, hc1, hc2, hc3, hcap, hks⟩ := (hr.below (hB.mono hBw)).get hlt
      have hbw : b < wr.heap.size := by have := hB.size; omega
      have hbody : BodyV w B (t, .agg #[.int .i64 k, .string s, .slice a' n' c']) (t, k, s, ks) := ⟨rfl, a', n', c', rfl, hcap, hks.keep (Nat.le_refl _) (Nat.le_refl _) fun p _ hp => (hB.cell (Nat.lt_of_lt_of_le hp hBw)).symm⟩
      obtain ⟨D, gs, hown, hrep, hm1, hm2⟩ := hM
      have hjj : (j : Int) < (n : Int) := by omega
      have hj0 : (0 : Int) ≤ (j : Int) := by omega
      have hfit := hrf.get hg
      have hkey := Lib.hid (WideMaps.keyOf_string_mk (P := Tryz.prog) Tryz.underlying9 hfit.1)
      have Hm := Lib.hid (And.intro hrep (And.intro hm1 hm2))
      have Hg := Lib.hid hg
      clear hg hm1 hm2 hrep
      go_wp2_with (at_mapUpdate; refine wpList_mapUpdate_own _ rfl _ _ _ 78 rfl 9 43 rlaw Tryz.underlying78 anyElem w.heap.size j D rfl (hown.alloc _) (by simp only [maxLen]; omega) _ _ _ rfl rfl hkey.out _ _ rfl ?_; intro w1 hown1 hgrow1)
      have hst := bodies_step Hg.out hbody Hm.out.2.1 Hm.out.2.2
      exact ⟨⟨j + 1, by omega, by go_num, ⟨_, _, hown1, Hm.out.1.put t _, hst.1, hst.2⟩, (hB.alloc hB.size _).grown hgrow1 (Nat.le_trans hB.size (by simp)) (fun j hj => by cases hj; exact Nat.le_refl _)⟩, by simp [intOf]; omega⟩
    · have hjn : ¬ (j : Int) < (n : Int) := by omega
      have HM2 : Hid (MapR wr w.heap.size n rs w B) := Lib.hid (by rw [List.take_of_length_le (by have := hlen.out; omega)] at hM; rwa [show n = j from by omega])
      clear hM
      go_wp2_with fail
      go_ret
      exact ⟨_, rfl, Nat.le_refl _, HM2.out, hB⟩
theorem rmap_any (a : Option Addr) (n c : Nat) (rs : List Ru) (w : World) (hr : RuAt w 0 w.heap.size rs a n) (hrf : RuFits rs) (hn : n ≤ 1048576) :
    Calls Tryz.prog 49 #[.slice a n c] w fun e w' => ∃ b, e = .returned (.map (some b)) ∧ w.heap.size ≤ b ∧ MapR w' b n rs w w.heap.size ∧ Below w.heap.size w w' := rmap_anyB w.heap.size a n c rs w (Nat.le_refl _) hr hrf hn
end Go.Proofs.YtceiafncpimihaaGreat

namespace Go.Proofs.YtceiafncpimihaaGreat
set_option linter.unusedVariables false
set_option linter.unusedSimpArgs false
open Go.RowKit

/-- a pair of addresses -/
abbrev Pr := (Nat × Nat) × (Nat × Nat)
def Pr.val (m : Pr) : Value := .agg #[.pointer (some ⟨m.1.1, m.1.2, none⟩), .pointer (some ⟨m.2.1, m.2.2, none⟩)]
def PPln (w : World) (m : Pr) : Prop := Pln w m.1.1 ∧ Pln w m.2.1
theorem expr_infoE : (Tryz.prog.info? 43).map (fun i => (i.zero, i.size, i.bytes)) = some (some (.agg #[.int .i64 0, .string .empty, .slice none 0 0]), 3, 48) := by kernel_rfl

theorem run_eq_ptr (w : World) (d : Nat) (p q : Nat × Nat) (hp : Pln w p.1) (hq : Pln w q.1) : (Op.equalIn (d + 1) 85 (.pointer (some ⟨p.1, p.2, none⟩)) (.pointer (some ⟨q.1, q.2, none⟩))).run Tryz.prog w = .ok (decide (p = q)) w := by
  obtain ⟨i, hi, hz0, hz1, hz2⟩ := info_parts expr_infoE
  have hu := Tryz.underlying85
  have hs : i.size ≠ 0 := by rw [hz1]; decide
  by_cases e : p = q
  · subst e
    simp [Op.equalIn, run_underlying hu, sizeOf, typeInfo, hi, hz1, run_sameAddr_same]
  · obtain ⟨c1, t1, h1⟩ := hp
    obtain ⟨c2, t2, h2⟩ := hq
    have hne : (⟨p.1, p.2, none⟩ : Addr) ≠ ⟨q.1, q.2, none⟩ := by
      intro h
      simp only [Addr.mk.injEq, and_true] at h
      exact e (Prod.ext h.1 h.2)
    simp [Op.equalIn, run_underlying hu, sizeOf, typeInfo, hi, hz1, run_sameAddr_other w hne h1 h2, e]

theorem run_eq_pair (w : World) (m m' : Pr) (h : PPln w m) (h' : PPln w m') : (Op.equal 87 m.val m'.val).run Tryz.prog w = .ok (decide (m = m')) w := by
  have hu := Tryz.underlying87
  have e1 := run_eq_ptr w 9998 m.1 m'.1 h.1 h'.1
  have e2 := run_eq_ptr w 9998 m.2 m'.2 h.2 h'.2
  rw [show 9998 + 1 = 9999 from rfl] at e1 e2
  unfold Op.equal Op.maxDepth Pr.val
  rw [show (10000 : Nat) = 9998 + 1 + 1 from rfl, run_equalIn_agg w (9998 + 1) 87 _ _ (by kernel_rfl) (by kernel_rfl)]
  simp only [Program.fieldsOf, hu, Op.eqFields]
  have hp0 := fun (a b : Value) => show (part 85 #[a, b] 0).run Tryz.prog w = .ok a w by
    simp [part, isAgg, run_underlying Tryz.underlying85]
  have hp1 := fun (a b : Value) => show (part 85 #[a, b] 1).run Tryz.prog w = .ok b w by
    simp [part, isAgg, run_underlying Tryz.underlying85]
  simp only [ne_eq, String.reduceEq, not_false_eq_true, if_true, Sem.run_bind, hp0, hp1, Result.andThen_ok, Nat.reduceAdd, e1, e2, Sem.run_ite, Sem.run_pure]
  by_cases h1 : m.1 = m'.1 <;> by_cases h2 : m.2 = m'.2 <;> simp [h1, h2, Prod.ext_iff]

/-- block b is the set of these pairs -/
def MapP (w : World) (b : Nat) (M : List Pr) : Prop := ∃ es clock, w.heap[b]? = some (.map es clock) ∧ es.toList.map (fun e => e.key) = M.map Pr.val ∧ ∀ e ∈ es.toList, e.val = .bool true
theorem MapP.lt {w : World} {b : Nat} {M : List Pr} (h : MapP w b M) : b < w.heap.size := let ⟨_, _, h, _⟩ := h; blk_lt h
theorem MapP.block {w w' : World} {b : Nat} {M : List Pr} (h : MapP w b M) (e : w'.heap[b]? = w.heap[b]?) : MapP w' b M := let ⟨es, c, h1, h2⟩ := h; ⟨es, c, e.trans h1, h2⟩

theorem run_find (w : World) (m : Pr) (hm : PPln w m) : ∀ (es : List MapEntry) (M : List Pr) (i : Nat), es.map (fun e => e.key) = M.map Pr.val → (∀ e ∈ es, e.val = .bool true) → (∀ x ∈ M, PPln w x) →
    if m ∈ M then ∃ j, (Instr.findAsking 87 m.val es i).run Tryz.prog w = .ok (some (j, .bool true)) w else (Instr.findAsking 87 m.val es i).run Tryz.prog w = .ok none w
  | [], [], i, _, _, _ => by simp [Instr.findAsking]
  | [], _ :: _, i, h, _, _ => by simp at h
  | _ :: _, [], i, h, _, _ => by simp at h
  | e :: es, x :: M, i, h, hv, hp => by
    simp only [List.map_cons, List.cons.injEq] at h
    obtain ⟨h1, h2⟩ := h
    have hr := run_eq_pair w m x hm (hp x (by simp))
    have ih := run_find w m hm es M (i + 1) h2 (fun e he => hv e (by simp [he])) (fun y hy => hp y (by simp [hy]))
    unfold Instr.findAsking
    rw [h1]
    by_cases hx : m = x
    · subst hx
      rw [if_pos (by simp)]
      refine ⟨i, ?_⟩
      simp [hr, hv e (by simp)]
    · by_cases hM : m ∈ M
      · rw [if_pos hM] at ih
        rw [if_pos (by simp [hM])]
        simpa [hr, hx] using ih
      · rw [if_neg hM] at ih
        rw [if_neg (by simp [hx, hM])]
        simpa [hr, hx] using ih

theorem run_checkPair (w : World) (em : Bool) (m : Pr) : (Instr.checkKey em 10000 87 m.val).run Tryz.prog w = .ok () w := by
  have hu := Tryz.underlying87
  have hp0 := fun (a b : Value) => show (part 85 #[a, b] 0).run Tryz.prog w = .ok a w by
    simp [part, isAgg, run_underlying Tryz.underlying85]
  have hp1 := fun (a b : Value) => show (part 85 #[a, b] 1).run Tryz.prog w = .ok b w by
    simp [part, isAgg, run_underlying Tryz.underlying85]
  have hc := fun (d : Nat) (a : Option Addr) => show (Instr.checkKey em (d + 1) 85 (.pointer a)).run Tryz.prog w = .ok () w by
    simp [Instr.checkKey, run_underlying Tryz.underlying85]
  have hc1 := hc 9998
  rw [show 9998 + 1 = 9999 from rfl] at hc1
  unfold Pr.val
  rw [show (10000 : Nat) = 9999 + 1 from rfl, Instr.checkKey]
  simp [run_underlying hu, hp0, hp1, hc1]

theorem run_look (w : World) (m : Pr) (hm : PPln w m) (b : Nat) (M : List Pr) (h : MapP w b M) (hp : ∀ x ∈ M, PPln w x) :
    (Instr.lookup 84 (.map (some b)) m.val false).run Tryz.prog w = .ok (.bool (decide (m ∈ M))) w := by
  obtain ⟨es, clock, h1, h2, h3⟩ := h
  have hf := run_find w m hm es.toList M 0 h2 h3 hp
  have hk := run_findKey_eq (P := Tryz.prog) w (k := 87) (by rw [Tryz.underlying87]) m.val es.toList
  have hz : (zeroValue 4).run Tryz.prog w = .ok (.bool false) w := by kernel_rfl
  have hu := run_underlying (P := Tryz.prog) (w := w) Tryz.underlying84
  have hc := run_checkPair w es.isEmpty m
  by_cases hx : m ∈ M
  · rw [if_pos hx] at hf
    obtain ⟨j, hf⟩ := hf
    simp [Instr.lookup, hu, MapKept.run_getObj_map h1, hc, hk, hf, hx]
  · rw [if_neg hx] at hf
    simp [Instr.lookup, hu, MapKept.run_getObj_map h1, hc, hk, hf, hx, hz]

theorem run_put (w : World) (m : Pr) (hm : PPln w m) (b : Nat) (M : List Pr) (h : MapP w b M) (hp : ∀ x ∈ M, PPln w x) (hx : m ∉ M) :
    ∃ w', (Instr.mapUpdate 84 (.map (some b)) m.val (.bool true)).run Tryz.prog w = .ok () w' ∧ MapP w' b (M ++ [m]) ∧ w.grownBy w' (some b) := by
  obtain ⟨es, clock, h1, h2, h3⟩ := h
  have hf := run_find w m hm es.toList M 0 h2 h3 hp
  have hk := run_findKey_eq (P := Tryz.prog) w (k := 87) (by rw [Tryz.underlying87]) m.val es.toList
  have hu := run_underlying (P := Tryz.prog) (w := w) Tryz.underlying84
  have hc := run_checkPair w false m
  rw [if_neg hx] at hf
  have hbl := blk_lt h1
  refine ⟨_, by simp [Instr.mapUpdate, hu, MapKept.run_getObj_map h1, hc, hk, hf, MapKept.run_setObj_map _ h1, Result.andThen]; rfl, ⟨es.push { key := m.val, val := .bool true, born := clock }, clock + 1, ?_, ?_, ?_⟩, ?_⟩
  · simp [hbl]
  · simp [h2]
  · intro e he
    simp only [Array.toList_push, List.mem_append, List.mem_singleton] at he
    rcases he with he | rfl
    · exact h3 e he
    · rfl
  · refine ⟨rfl, rfl, rfl, by simp, fun k hk hne => ?_⟩
    have : k ≠ b := fun e => hne (by rw [e])
    simp [Array.getElem?_setIfInBounds, this.symm]
end Go.Proofs.YtceiafncpimihaaGreat

namespace Go.Proofs.YtceiafncpimihaaGreat
set_option linter.unusedVariables false
set_option linter.unusedSimpArgs false
open Go.RowKit

section
variable {w w' : World}
/-- two nodes that agree but for their operands, the pairs of which are in M -/
def LocP (w : World) (M : Pr → Prop) (m : Pr) : Prop := ∃ k s ks ks' a a' n c c', RdN w k s ks m.1 ∧ RdN w k s ks' m.2 ∧ w.cell? ⟨m.1.1, m.1.2 + 2, none⟩ = some (.slice a n c) ∧ w.cell? ⟨m.2.1, m.2.2 + 2, none⟩ = some (.slice a' n c') ∧ ∀ i, i < n → M (kid a i, kid a' i)
theorem LocP.more {M M' : Pr → Prop} {m : Pr} (h : LocP w M m) (hM : ∀ x, M x → M' x) : LocP w M' m :=
  let ⟨k, s, ks, ks', a, a', n, c, c', h1, h2, h3, h4, h5⟩ := h
  ⟨k, s, ks, ks', a, a', n, c, c', h1, h2, h3, h4, fun i hi => hM _ (h5 i hi)⟩
/-- in a closed set stand pairs of equal trees only -/
theorem closed_eq {M : Pr → Prop} (hM : ∀ m, M m → LocP w M m) (N : Nat) : ∀ {k k' : Int} {s s' : ByteArray} {ks ks' : Fo} {m : Pr}, ks.size ≤ N → RdN w k s ks m.1 → RdN w k' s' ks' m.2 → M m → k = k' ∧ s = s' ∧ ks = ks' := by
  induction N with
  | zero =>
    intro k k' s s' ks ks' m hN h h' hm
    obtain ⟨k1, s1, f, f', a, a', n, c, c', h1, h2, h3, h4, h5⟩ := hM m hm
    obtain ⟨rfl, rfl, rfl⟩ := h.inj h1
    obtain ⟨rfl, rfl, rfl⟩ := h'.inj h2
    refine ⟨rfl, rfl, ?_⟩
    obtain ⟨_, _, _, a1, n1, c1, e1, _, e2⟩ := h
    obtain ⟨_, _, _, a2, n2, c2, e3, _, e4⟩ := h'
    rw [h3] at e1
    rw [h4] at e3
    cases e1
    cases e3
    have := ks.len_size
    have h0 : n = 0 := by rw [← e2.1]; omega
    refine Fo.ext fun j => ?_
    rw [fo_none (by rw [e2.1]; omega), fo_none (by rw [e4.1]; omega)]
  | succ N ih =>
    intro k k' s s' ks ks' m hN h h' hm
    obtain ⟨k1, s1, f, f', a, a', n, c, c', h1, h2, h3, h4, h5⟩ := hM m hm
    obtain ⟨rfl, rfl, rfl⟩ := h.inj h1
    obtain ⟨rfl, rfl, rfl⟩ := h'.inj h2
    refine ⟨rfl, rfl, ?_⟩
    obtain ⟨_, _, _, a1, n1, c1, e1, _, e2⟩ := h
    obtain ⟨_, _, _, a2, n2, c2, e3, _, e4⟩ := h'
    rw [h3] at e1
    rw [h4] at e3
    cases e1
    cases e3
    refine Fo.ext fun j => ?_
    by_cases hj : j < n
    · obtain ⟨kj, sj, fj, hg, hr⟩ := e2.get hj
      obtain ⟨kj', sj', fj', hg', hr'⟩ := e4.get hj
      obtain ⟨rfl, rfl, rfl⟩ := ih (m := (kid a j, kid a' j)) (by have := Fo.get_size hg; omega) hr hr' (h5 j hj)
      rw [hg, hg']
    · rw [fo_none (by rw [e2.1]; omega), fo_none (by rw [e4.1]; omega)]
/-- how many nodes the left trees of these pairs have -/
def SumS (w : World) : List Pr → Nat → Prop
  | [], N => N = 0
  | m :: W, N => ∃ k s ks N', RdN w k s ks m.1 ∧ SumS w W N' ∧ N = ks.size + 1 + N'
theorem SumS.len : ∀ {W : List Pr} {N : Nat}, SumS w W N → W.length ≤ N
  | [], _, _ => Nat.zero_le _
  | m :: W, N, ⟨k, s, ks, N', _, h, e⟩ => by have := SumS.len h; simp only [List.length_cons]; omega
theorem SumS.push {k : Int} {s : ByteArray} {ks : Fo} {m : Pr} (hr : RdN w k s ks m.1) : ∀ {W : List Pr} {N : Nat}, SumS w W N → SumS w (W ++ [m]) (N + (ks.size + 1))
  | [], N, h => ⟨k, s, ks, 0, hr, rfl, by simp only [SumS] at h; omega⟩
  | x :: W, N, ⟨k', s', ks', N', h1, h2, e⟩ => ⟨k', s', ks', _, h1, SumS.push hr h2, by omega⟩
theorem SumS.pop {k : Int} {s : ByteArray} {ks : Fo} {m : Pr} (hr : RdN w k s ks m.1) : ∀ {W : List Pr} {N : Nat}, SumS w (W ++ [m]) N → ∃ N', SumS w W N' ∧ N = N' + (ks.size + 1)
  | [], N, ⟨k', s', ks', N', h1, h2, e⟩ => by
    obtain ⟨_, _, rfl⟩ := hr.inj h1
    simp only [SumS] at h2
    exact ⟨0, rfl, by omega⟩
  | x :: W, N, ⟨k', s', ks', N', h1, h2, e⟩ => by
    obtain ⟨N2, h3, h4⟩ := SumS.pop hr h2
    exact ⟨_, ⟨k', s', ks', N2, h1, h3, rfl⟩, by omega⟩
/-- where the comparison stands: M has been compared, W is still to be -/
structure EqI (w : World) (root : Pr) (req : Prop) (M W : List Pr) : Prop where
  rd : ∀ m ∈ W, ∃ k s ks k' s' ks', RdN w k s ks m.1 ∧ RdN w k' s' ks' m.2 ∧ (req → k = k' ∧ s = s' ∧ ks = ks')
  loc : ∀ m ∈ M, LocP w (fun x => x ∈ M ∨ x ∈ W) m
  rt : root ∈ M ∨ root ∈ W
  pl : ∀ m ∈ M, PPln w m
section
variable {root m : Pr} {req : Prop} {M W : List Pr}
theorem EqI.start {k k' : Int} {s s' : ByteArray} {ks ks' : Fo} (h : RdN w k s ks root.1) (h' : RdN w k' s' ks' root.2) : EqI w root (k = k' ∧ s = s' ∧ ks = ks') [] [root] :=
  ⟨fun m hm => by obtain rfl : m = root := by simpa using hm
                  exact ⟨k, s, ks, k', s', ks', h, h', id⟩, fun m hm => by simp at hm, .inr (by simp), fun m hm => by simp at hm⟩
/-- a pair that has been compared goes -/
theorem EqI.drop (h : EqI w root req M (W ++ [m])) (hm : m ∈ M) : EqI w root req M W := by
  have hx : ∀ x, x ∈ M ∨ x ∈ W ++ [m] → x ∈ M ∨ x ∈ W := by
    rintro x (h | h)
    · exact .inl h
    · rcases List.mem_append.1 h with h | h
      · exact .inr h
      · obtain rfl : x = m := by simpa using h
        exact .inl hm
  exact ⟨fun y hy => h.rd y (List.mem_append_left _ hy), fun y hy => (h.loc y hy).more hx, hx _ h.rt, h.pl⟩
/-- a pair is compared, its operands are still to be -/
theorem EqI.next {k : Int} {s : ByteArray} {ks ks' : Fo} {a a' : Option Addr} {n c c' : Nat} (h : EqI w root req M (W ++ [m])) (h1 : RdN w k s ks m.1) (h2 : RdN w k s ks' m.2) (h3 : w.cell? ⟨m.1.1, m.1.2 + 2, none⟩ = some (.slice a n c)) (h4 : w.cell? ⟨m.2.1, m.2.2 + 2, none⟩ = some (.slice a' n c')) :
    EqI w root req (M ++ [m]) (W ++ (List.range n).map fun i => (kid a i, kid a' i)) := by
  have hx : ∀ x, x ∈ M ∨ x ∈ W ++ [m] → x ∈ M ++ [m] ∨ x ∈ W ++ (List.range n).map fun i => (kid a i, kid a' i) := by
    rintro x (h | h)
    · exact .inl (List.mem_append_left _ h)
    · rcases List.mem_append.1 h with h | h
      · exact .inr (List.mem_append_left _ h)
      · exact .inl (List.mem_append_right _ h)
  obtain ⟨k1, s1, f1, k2, s2, f2, r1, r2, hq⟩ := h.rd m (by simp)
  obtain ⟨rfl, rfl, rfl⟩ := r1.inj h1
  obtain ⟨rfl, rfl, rfl⟩ := r2.inj h2
  refine ⟨fun y hy => ?_, fun y hy => ?_, hx _ h.rt, fun y hy => ?_⟩
  · rcases List.mem_append.1 hy with hy | hy
    · exact h.rd y (List.mem_append_left _ hy)
    · obtain ⟨i, hi, rfl⟩ := List.mem_map.1 hy
      have hi := List.mem_range.1 hi
      obtain ⟨_, _, _, a1, n1, c1, e1, _, e2⟩ := h1
      obtain ⟨_, _, _, a2, n2, c2, e3, _, e4⟩ := h2
      rw [h3] at e1
      rw [h4] at e3
      cases e1
      cases e3
      obtain ⟨kj, sj, fj, hg, hr⟩ := e2.get hi
      obtain ⟨kj', sj', fj', hg', hr'⟩ := e4.get hi
      refine ⟨kj, sj, fj, kj', sj', fj', hr, hr', fun hr => ?_⟩
      have := (hq hr).2.2
      rw [this, hg'] at hg
      simp only [Option.some.injEq, Prod.mk.injEq] at hg
      exact ⟨hg.1.symm, hg.2.1.symm, hg.2.2.symm⟩
  · rcases List.mem_append.1 hy with hy | hy
    · exact (h.loc y hy).more hx
    · obtain rfl : y = m := by simpa using hy
      exact ⟨_, _, _, _, a, a', n, c, c', h1, h2, h3, h4, fun i hi => .inr (List.mem_append_right _ (List.mem_map.2 ⟨i, List.mem_range.2 hi, rfl⟩))⟩
  · rcases List.mem_append.1 hy with hy | hy
    · exact h.pl y hy
    · obtain rfl : y = m := by simpa using hy
      exact ⟨h1.1, h2.1⟩
/-- nothing is left: the trees are equal -/
theorem EqI.done {k k' : Int} {s s' : ByteArray} {ks ks' : Fo} (h : EqI w root req M []) (h1 : RdN w k s ks root.1) (h2 : RdN w k' s' ks' root.2) : k = k' ∧ s = s' ∧ ks = ks' := by
  refine closed_eq (M := fun x => x ∈ M) (fun m hm => (h.loc m hm).more fun x hx => ?_) ks.size (Nat.le_refl _) h1 h2 ?_
  · rcases hx with hx | hx
    · exact hx
    · simp at hx
  · rcases h.rt with hx | hx
    · exact hx
    · simp at hx
end
/-- the sizes of a node's operands -/
theorem SumS.kids {ks : Fo} {a a' : Option Addr} {n : Nat} (h : RdA w ks a n) : ∀ {W : List Pr} {N : Nat} (j : Nat), j ≤ n → SumS w W N → ∃ N', SumS w (W ++ (List.range j).map fun i => (kid a i, kid a' i)) N' ∧ N' + (ks.drop j).size = N + ks.size
  | W, N, 0, _, hs => ⟨N, by simpa using hs, by rw [Fo.drop_zero]⟩
  | W, N, j + 1, hj, hs => by
    obtain ⟨N', h1, h2⟩ := SumS.kids (a' := a') h j (by omega) hs
    obtain ⟨k, s, f, hg, hr⟩ := h.get (show j < n by omega)
    refine ⟨N' + (f.size + 1), ?_, ?_⟩
    · rw [List.range_succ, List.map_append, ← List.append_assoc]
      exact SumS.push (m := (kid a j, kid a' j)) hr h1
    · rw [Fo.drop_get hg] at h2
      simp only [Fo.size] at h2
      omega
end
end Go.Proofs.YtceiafncpimihaaGreat

namespace Go.Proofs.YtceiafncpimihaaGreat
set_option linter.unusedVariables false
set_option linter.unusedSimpArgs false
open Go.RowKit

def prcells : List Pr → List Value
  | [] => []
  | m :: W => .pointer (some ⟨m.1.1, m.1.2, none⟩) :: .pointer (some ⟨m.2.1, m.2.2, none⟩) :: prcells W
theorem prcells_len : ∀ W : List Pr, (prcells W).length = W.length * 2
  | [] => rfl
  | m :: W => by simp only [prcells, List.length_cons, prcells_len W]; omega
theorem prcells_app : ∀ W V : List Pr, prcells (W ++ V) = prcells W ++ prcells V
  | [], V => rfl
  | m :: W, V => by simp only [List.cons_append, prcells, prcells_app W V]
/-- a list of pairs of one's own -/
def OwnPr (w : World) (base : Nat) (v : Value) (W : List Pr) : Prop := w.ownsRow base 87 2 v W.length (prcells W)
theorem pairs_under : Tryz.prog.underlying 88 = some (.slice 87) := by kernel_rfl
theorem pair_info : (Tryz.prog.info? 87).map (fun i => (i.zero, i.size, i.bytes)) = some (some (.agg #[.pointer none, .pointer none]), 2, 16) := by kernel_rfl
section
variable {w w' : World} {base g cap : Nat} {v : Value} {W : List Pr} {m : Pr}
theorem OwnPr.one (w : World) (m : Pr) (hb : base ≤ w.heap.size) : OwnPr (w.alloc (.cells #[.pointer (some ⟨m.1.1, m.1.2, none⟩), .pointer (some ⟨m.2.1, m.2.2, none⟩)] 87)) base (.slice (some ⟨w.heap.size, 0, none⟩) 1 1) [m] :=
  ⟨rfl, .inr ⟨w.heap.size, 1, _, rfl, hb, heap_alloc_new w _, Nat.le_refl _, by simp [maxLen], rfl, rfl⟩⟩
theorem OwnPr.cells (h : OwnPr w base (.slice (some ⟨g, 0, none⟩) (W.length + 1) cap) (W ++ [m])) : w.cell? ⟨g, W.length * 2, none⟩ = some (.pointer (some ⟨m.1.1, m.1.2, none⟩)) ∧ w.cell? ⟨g, W.length * 2 + 1, none⟩ = some (.pointer (some ⟨m.2.1, m.2.2, none⟩)) := by
  have hc : ∀ j u, (prcells (W ++ [m]))[j]? = some u → w.cell? ⟨g, j, none⟩ = some u := fun j u hu => by
    have := World.ownsRow.cells h (g := g) rfl j u hu
    rwa [add_none, Nat.zero_add] at this
  have hl := prcells_len W
  constructor
  · refine hc _ _ ?_
    rw [prcells_app, List.getElem?_append_right (by omega), hl, Nat.sub_self]
    rfl
  · refine hc _ _ ?_
    rw [prcells_app, List.getElem?_append_right (by omega), hl, show W.length * 2 + 1 - W.length * 2 = 1 from by omega]
    rfl
theorem OwnPr.room (h : OwnPr w base (.slice (some ⟨g, 0, none⟩) (W.length + 1) cap) (W ++ [m])) : W.length + 1 ≤ cap := by
  rcases h.2 with ⟨h1, _⟩ | ⟨g', cap', cur, e, h1, h2, h3, h4, h5, h6⟩
  · cases h1
  · simp only [Value.slice.injEq, Option.some.injEq, Addr.mk.injEq] at e
    obtain ⟨⟨rfl, _⟩, _, rfl⟩ := e
    simpa using h3
/-- the last pair goes -/
theorem OwnPr.cut (h : OwnPr w base (.slice (some ⟨g, 0, none⟩) (W.length + 1) cap) (W ++ [m])) : OwnPr w base (.slice (some ⟨g, 0, none⟩) W.length cap) W := by
  refine ⟨prcells_len W, .inr ?_⟩
  rcases h.2 with ⟨h1, _⟩ | ⟨g', cap', cur, e, h1, h2, h3, h4, h5, h6⟩
  · cases h1
  · simp only [Value.slice.injEq, Option.some.injEq, Addr.mk.injEq] at e
    obtain ⟨⟨rfl, _⟩, _, rfl⟩ := e
    refine ⟨g, cap, cur, rfl, h1, h2, by omega, h4, h5, ?_⟩
    have := congrArg (List.take (W.length * 2)) h6
    rw [List.take_take, prcells_app, Nat.min_eq_left (by simp; omega), List.take_append_of_le_length (by rw [prcells_len]; omega)] at this
    exact this.trans (List.take_of_length_le (by rw [prcells_len]; omega))
theorem OwnPr.kept {r : Option Nat} (h : OwnPr w base v W) (hg : w.grownBy w' r) (hr : ∀ k, r = some k → k < base ∨ w.heap.size ≤ k) : OwnPr w' base v W :=
  World.ownsRow.kept h hg (by
    cases hv : v.ownBlock with
    | none => exact .inl rfl
    | some b => exact .inr fun e => by have := World.ownsRow.lt h b hv; have := hr b e.symm; omega)
theorem OwnPr.alloc (h : OwnPr w base v W) (o : Obj) : OwnPr (w.alloc o) base v W := World.ownsRow.alloc h o
theorem OwnPr.lt (h : OwnPr w base v W) : ∀ k, v.ownBlock = some k → base ≤ k ∧ k < w.heap.size := World.ownsRow.lt h
end
section
variable {w : World} {ops : Array Oper} {rest : List Oper} {o : Oper} {a : Act} {Q : Exit → Act → World → Prop}
theorem wpList_look_pair (hg : o.guard = none) (x y : Operand) (hop : o.op = Op.lookup 84 x y false) (b : Nat) (M : List Pr) (hm : a.eval x = .map (some b)) (hmap : MapP w b M) (m : Pr) (hx : a.eval y = m.val) (hk : PPln w m) (hp : ∀ x ∈ M, PPln w x) (r : Bool) (hr : decide (m ∈ M) = r)
    (hK : wpList Tryz.prog ops Q rest (a.put o.dst (.bool r)) w) : wpList Tryz.prog ops Q (o :: rest) a w := by
  refine wpList_plain hg fun K' hK' => ?_
  have hrun := run_look w m hk b M hmap hp
  rw [hr] at hrun
  unfold Oper.wp
  simp [execOp, hop, hm, hx, hrun, Result.andThen]
  exact hK' _ _ hK
theorem wpList_put_pair (hg : o.guard = none) (x y z : Operand) (hop : o.op = Op.mapUpdate 84 x y z) (b : Nat) (M : List Pr) (hm : a.eval x = .map (some b)) (hmap : MapP w b M) (m : Pr) (hx : a.eval y = m.val) (hv : a.eval z = .bool true) (hk : PPln w m) (hp : ∀ x ∈ M, PPln w x) (hn : m ∉ M)
    (hK : ∀ w', MapP w' b (M ++ [m]) → w.grownBy w' (some b) → wpList Tryz.prog ops Q rest (a.put o.dst undef) w') : wpList Tryz.prog ops Q (o :: rest) a w := by
  refine wpList_plain hg fun K' hK' => ?_
  obtain ⟨w', hrun, r1, r2⟩ := run_put w m hk b M hmap hp hn
  unfold Oper.wp
  simp [execOp, hop, hm, hx, hv, hrun, Result.andThen]
  exact hK' _ _ (hK w' r1 r2)
end
/-- one more pair, at a step of a region that draws -/
theorem step_append_pair {w : World} {ops : Array Oper} {o : Oper} {a : Act} {K : Act → World → Prop} {Q : Exit → Act → World → Prop} {E : Prop} (hgd : o.guard = none) (s x : Operand)
    (ho : o.op = .call { callee := .builtin .append, args := #[s, x], argTypes := #[88, 88] })
    (base : Nat) (v : Value) (W : List Pr) (hs : a.eval s = v) (hown : OwnPr w base v W) (g c1 : Nat) (hx : a.eval x = .slice (some ⟨g, 0, none⟩) 1 c1) (m : Pr) {T : TypeId}
    (hbx : w.heap[g]? = some (.cells #[.pointer (some ⟨m.1.1, m.1.2, none⟩), .pointer (some ⟨m.2.1, m.2.2, none⟩)] T (0, 0))) (n : Nat) (hn : W.length = n) (h63 : n ≤ 1000000000) (hbase : base ≤ w.heap.size)
    (h : ∀ g cap w', OwnPr w' base (.slice (some ⟨g, 0, none⟩) (n + 1) cap) (W ++ [m]) → w.grownBy w' v.ownBlock → g < w'.heap.size → (v.ownBlock = some g ∨ w.heap.size ≤ g) → K (a.put o.dst (.slice (some ⟨g, 0, none⟩) (n + 1) cap)) w') :
    if Region.wanted o (yielded ops a.tmps) = true then Oper.wp Tryz.prog o a w K Q else E := by
  subst hn
  have hw : Region.wanted o (yielded ops a.tmps) = true := by simp [Region.wanted, hgd]
  rw [if_pos hw]
  obtain ⟨i, hi, hz0, hz1, hz2⟩ := info_parts pair_info
  refine wp_append_at s x 88 ho base 87 i _ 2 16 pairs_under hi hz0 hz1 hz2 rfl (by decide) v W.length _ hs hown ⟨g, 0, none⟩ 1 c1 (prcells [m]) hx rfl ?_ (by simp [prcells, Value.oneCell']) (by simp only [maxLen]; omega) (by omega) hbase fun v' w' h3 h4 h5 => ?_
  · intro j u hu
    rw [add_none, cell_of_row _ _ _ _ _ _ hbx, Nat.zero_add]
    simpa [prcells] using hu
  · have h6 : OwnPr w' base v' (W ++ [m]) := by
      unfold OwnPr
      rw [prcells_app]
      simpa using h3
    obtain ⟨g', cap', rfl, h7, h8⟩ := World.ownsRow.form h6 (by simp)
    rw [show (W ++ [m]).length = W.length + 1 from by simp] at h6 ⊢
    refine h g' cap' w' h6 h4 h8 ?_
    rcases h5 with h5 | h5
    · exact .inl h5.symm
    · exact .inr (h5 g' rfl)
end Go.Proofs.YtceiafncpimihaaGreat

namespace Go.Proofs.YtceiafncpimihaaGreat
set_option linter.unusedVariables false
set_option linter.unusedSimpArgs false
open Go.RowKit

/-- a box with a pair -/
def PrBx (w : World) (g : Nat) (m : Pr) : Prop := w.heap[g]? = some (.cells #[.pointer (some ⟨m.1.1, m.1.2, none⟩), .pointer (some ⟨m.2.1, m.2.2, none⟩)] 87 (0, 0))
theorem PrBx.cells {w : World} {g : Nat} {m : Pr} (h : PrBx w g m) : w.cell? ⟨g, 0, none⟩ = some (.pointer (some ⟨m.1.1, m.1.2, none⟩)) ∧ w.cell? ⟨g, 1, none⟩ = some (.pointer (some ⟨m.2.1, m.2.2, none⟩)) := ⟨by rw [cell_of_row _ _ _ _ _ _ h]; rfl, by rw [cell_of_row _ _ _ _ _ _ h]; rfl⟩
theorem PrBx.frozen {w : World} {g : Nat} {m : Pr} (h : PrBx w g m) (i : Nat) : w.frozen? ⟨g, i, none⟩ = false := blk_frozen h i
theorem RdN.box (w : World) (k : Int) (s : ByteArray) (ks : Fo) (a : Option Addr) (n c : Nat) (hk : RdA w ks a n) (hc : n ≤ c) : RdN (w.alloc (.cells #[.int .i64 k, .string s, .slice a n c] 43)) k s ks (w.heap.size, 0) := by
  have h := heap_alloc_new w (.cells #[.int .i64 k, .string s, .slice a n c] 43)
  exact ⟨⟨_, _, h⟩, by rw [cell_of_row _ _ _ _ _ _ h]; rfl, by rw [cell_of_row _ _ _ _ _ _ h]; rfl, a, n, c, by rw [cell_of_row _ _ _ _ _ _ h]; rfl, hc, hk.keep fun b hb => Below.heap_alloc w _ b hb⟩

theorem eq_step {wr w7 w2 : World} {o : Obj} {g6 bm R : Nat} {M : List Pr} {m : Pr} (hg : ((wr.alloc o).drew).grownBy w7 (some g6)) (hm : MapP wr bm M) (hb : PrBx wr R m) (hB : Below w2.heap.size w2 wr) (h1 : bm < g6) (h2 : g6 ≠ R) (h3 : w2.heap.size ≤ g6) :
    MapP w7 bm M ∧ PrBx w7 R m ∧ Below w2.heap.size w2 w7 ∧ R < w7.heap.size := by
  have hR : R < wr.heap.size := blk_lt hb
  have hbm := hm.lt
  have hk : ∀ x, x < wr.heap.size → x ≠ g6 → w7.heap[x]? = wr.heap[x]? := fun x hx hne => (hg.block x (by show x < (wr.alloc o).heap.size; simp; omega) (by simpa using hne)).trans (Below.heap_alloc wr o x hx)
  have hsz : (wr.alloc o).heap.size ≤ w7.heap.size := hg.size
  simp only [World.size_alloc] at hsz
  exact ⟨hm.block (hk _ hbm (by omega)), (hk _ hR (by omega)).trans hb, ((hB.alloc hB.size o).drew).grown hg (by show w2.heap.size ≤ (wr.alloc o).heap.size; have := hB.size; simp; omega) (fun k e => by injection e with e; omega), by omega⟩

set_option maxRecDepth 100000 in
set_option maxHeartbeats 8000000 in
theorem eqI_any (b : Bool) (k k' : Int) (s s' : ByteArray) (ks ks' : Fo) (hb : b = true ↔ (k = k' ∧ s = s' ∧ ks = ks')) (a a' : Option Addr) (n n' c c' : Nat) (w : World) (h1 : RdA w ks a n) (h2 : RdA w ks' a' n') (hc : n ≤ c) (hc' : n' ≤ c') (hz : ks.size ≤ 1048576) (hfit : s.size ≤ maxLen ∧ n ≤ maxLen ∧ n' ≤ maxLen) :
    Calls Tryz.prog 22 #[.agg #[.int .i64 k, .string s, .slice a n c], .agg #[.int .i64 k', .string s', .slice a' n' c']] w fun e w' => e = .returned (.bool b) ∧ Below w.heap.size w w' := by
  have B2 := ((Below.refl w.heap.size w).alloc (Nat.le_refl _) (.cells #[.int .i64 k, .string s, .slice a n c] 43)).alloc (by simp) (.cells #[.int .i64 k', .string s', .slice a' n' c'] 43)
  have R1 := (RdN.box w k s ks a n c h1 hc).keep (fun g hg => Below.heap_alloc (w.alloc (.cells #[.int .i64 k, .string s, .slice a n c] 43)) (.cells #[.int .i64 k', .string s', .slice a' n' c'] 43) g hg)
  have R2 := RdN.box (w.alloc (.cells #[.int .i64 k, .string s, .slice a n c] 43)) k' s' ks' a' n' c' (h2.keep fun g hg => Below.heap_alloc w _ g hg) hc'
  rw [World.size_alloc] at R2
  have hE := EqI.start (root := ((w.heap.size, 0), (w.heap.size + 1, 0))) R1 R2
  have hS : SumS ((w.alloc (.cells #[.int .i64 k, .string s, .slice a n c] 43)).alloc (.cells #[.int .i64 k', .string s', .slice a' n' c'] 43)) [((w.heap.size, 0), (w.heap.size + 1, 0))] (ks.size + 1) := ⟨k, s, ks, 0, R1, rfl, by omega⟩
  have hO := fun W => run_makeMap_plain (P := Tryz.prog) W 84
  have HE := Lib.hid hE
  have HS := Lib.hid hS
  have HR := Lib.hid (And.intro R1 R2)
  have Hb := Lib.hid hb
  have Hz2 := Lib.hid (show ((w.alloc (.cells #[.int .i64 k, .string s, .slice a n c] 43)).alloc (.cells #[.int .i64 k', .string s', .slice a' n' c'] 43)).heap.size = w.heap.size + 2 from by simp)
  clear hE hS R1 R2 h1 h2 hb hfit
  go_enter Tryz.func22, Tryz.ntmps22
  go_wp2_with fail
  generalize hw2 : (w.alloc (.cells #[.int .i64 k, .string s, .slice a n c] 43)).alloc (.cells #[.int .i64 k', .string s', .slice a' n' c'] 43) = w2 at *
  have hD := Hz2.out
  have hD' : w2.heap.size = w.heap.size + 1 + 1 := by omega
  have HD := Lib.hid hD
  have hM0 := Lib.hid (show MapP (w2.alloc (.map #[] 0)) (w.heap.size + 1 + 1) [] from ⟨#[], 0, by rw [← hD']; exact heap_alloc_new w2 _, rfl, by simp⟩)
  have hO0 := OwnPr.one (base := w.heap.size + 1 + 1 + 1) (w2.alloc (.map #[] 0)) ((w.heap.size, 0), (w.heap.size + 1, 0)) (by simp; omega)
  rw [World.size_alloc, hD'] at hO0
  have HO0 := Lib.hid hO0
  have HB0 := Lib.hid (((Below.refl w2.heap.size w2).alloc (Nat.le_refl _) (.map #[] 0)).alloc (by simp) (.cells #[.pointer (some ⟨w.heap.size, 0, none⟩), .pointer (some ⟨w.heap.size + 1, 0, none⟩)] 87))
  have HB2 := Lib.hid B2
  clear hD hO0 B2 hw2 Hz2 hD'
  go_loopg [6] (ks.size + 1) (fun N v wr => ∃ (M W : List Pr) (g cap : Nat), v = .slice (some ⟨g, 0, none⟩) W.length cap ∧ OwnPr wr (w.heap.size + 1 + 1 + 1) (.slice (some ⟨g, 0, none⟩) W.length cap) W ∧ MapP wr (w.heap.size + 1 + 1) M ∧ EqI w2 ((w.heap.size, 0), (w.heap.size + 1, 0)) (k = k' ∧ s = s' ∧ ks = ks') M W ∧ SumS w2 W N ∧ N ≤ 1048577 ∧ Below w2.heap.size w2 wr)
  case atStart => exact ⟨[], [((w.heap.size, 0), (w.heap.size + 1, 0))], _, 1, rfl, HO0.out, hM0.out.block (Below.heap_alloc _ _ _ (by have := hM0.out.lt; exact this)), HE.out, HS.out, by omega, HB0.out⟩
  case round =>
    obtain ⟨M, W, g, cap, rfl, hown, hmap, hE, hS, hN, hB⟩ := hrel
    clear HO0 hM0 HB0 HE HS
    rcases List.eq_nil_or_concat W with rfl | ⟨W', m, hW⟩
    · have hbt : b = true := Hb.out.2 (EqI.done hE HR.out.1 HR.out.2)
      have Hbt := Lib.hid hbt
      have HB := Lib.hid (HB2.out.trans (hB.mono HB2.out.size))
      clear hown hmap hE hS hB hbt
      go_wp2_with fail
      go_ret
      exact ⟨ret_bool Hbt.out.symm, HB.out⟩
    · simp only [List.concat_eq_append] at hW
      subst hW
      simp only [show (W' ++ [m]).length = W'.length + 1 from by simp] at hown ⊢
      obtain ⟨k1, s1, f1, k2, s2, f2, r1, r2, hq⟩ := hE.rd m (by simp)
      obtain ⟨hx1, hx2⟩ := hown.cells
      obtain ⟨N', hS', hNN⟩ := SumS.pop r1 hS
      have hlenW : W'.length ≤ 1048576 := by have := hS'.len; omega
      have hroom := hown.room
      have hblt := hmap.lt
      have hroom' : W'.length ≤ cap := by omega
      have hcut := hown.cut
      have hD := HD.out
      have hgl := (hown.lt g rfl).2
      obtain ⟨⟨mb, mo⟩, ⟨qb, qo⟩⟩ := m
      have hkeep : ∀ x : Nat, x < w2.heap.size → wr.heap[x]? = w2.heap[x]? := fun x hx => hB.block x hx
      have hpm : PPln wr ((mb, mo), (qb, qo)) := ⟨r1.1.block (hkeep _ r1.1.lt), r2.1.block (hkeep _ r2.1.lt)⟩
      have hpM : ∀ x ∈ M, PPln wr x := fun x hx => ⟨(hE.pl x hx).1.block (hkeep _ (hE.pl x hx).1.lt), (hE.pl x hx).2.block (hkeep _ (hE.pl x hx).2.lt)⟩
      simp only at hx1 hx2
      have HpA := Lib.hid (show PPln (wr.alloc (.cells #[.pointer (some ⟨mb, mo, none⟩), .pointer (some ⟨qb, qo, none⟩)] 87)) ((mb, mo), (qb, qo)) from ⟨hpm.1.block (Below.heap_alloc _ _ _ hpm.1.lt), hpm.2.block (Below.heap_alloc _ _ _ hpm.2.lt)⟩)
      have HpB := Lib.hid (show ∀ x ∈ M, PPln (wr.alloc (.cells #[.pointer (some ⟨mb, mo, none⟩), .pointer (some ⟨qb, qo, none⟩)] 87)) x from fun x hx => ⟨(hpM x hx).1.block (Below.heap_alloc _ _ _ (hpM x hx).1.lt), (hpM x hx).2.block (Below.heap_alloc _ _ _ (hpM x hx).2.lt)⟩)
      have HmA := Lib.hid (hmap.block (w' := wr.alloc (.cells #[.pointer (some ⟨mb, mo, none⟩), .pointer (some ⟨qb, qo, none⟩)] 87)) (Below.heap_alloc _ _ _ hmap.lt))
      have HBA := Lib.hid (hB.alloc hB.size (.cells #[.pointer (some ⟨mb, mo, none⟩), .pointer (some ⟨qb, qo, none⟩)] 87))
      have HcA := Lib.hid (hcut.alloc (.cells #[.pointer (some ⟨mb, mo, none⟩), .pointer (some ⟨qb, qo, none⟩)] 87))
      have HS' := Lib.hid (And.intro hS' hNN)
      have HE := Lib.hid hE
      have Hr := Lib.hid (And.intro r1 (And.intro r2 hq))
      have HBw := Lib.hid hB
      have hlw : w2.heap.size ≤ wr.heap.size := hB.size
      clear hS hS' hNN hcut hpm hpM hkeep hmap hE hown hq r1 r2 hB
      by_cases hmem : ((mb, mo), (qb, qo)) ∈ M
      · have Hd := Lib.hid (show decide (((mb, mo), (qb, qo)) ∈ M) = true by simpa using hmem)
        have Hmem := Lib.hid hmem
        clear hmem
        go_wp2_with ((at_lookup; refine wpList_look_pair rfl _ _ rfl (w.heap.size + 1 + 1) M rfl HmA.out ((mb, mo), (qb, qo)) rfl HpA.out HpB.out true Hd.out ?_))
        go_roundg N'
        case measure => have := HS'.out.2; omega
        case rel => exact ⟨M, W', g, cap, rfl, HcA.out, HmA.out, HE.out.drop Hmem.out, HS'.out.1, by have := HS'.out.2; omega, HBA.out⟩
      · have Hd := Lib.hid (show decide (((mb, mo), (qb, qo)) ∈ M) = false by simpa using hmem)
        have Hmem := Lib.hid hmem
        clear hmem
        obtain ⟨r1, r2, hq⟩ := Hr.out
        obtain ⟨_, _, _, a1, n1, c1, e13, hc1, hA1⟩ := id r1
        obtain ⟨_, _, _, a2, n2, c2, e23, hc2, hA2⟩ := id r2
        have hn1 : n1 ≤ 1048576 := by have := HS'.out.2; have := f1.len_size; rw [← hA1.1]; omega
        have hl1 := r1.1.lt
        have hl2 := r2.1.lt
        simp only at e13 e23 hl1 hl2
        have Hcc := Lib.hid (And.intro e13 e23)
        have HA := Lib.hid (And.intro hA1 hA2)
        have Hrr := Lib.hid (And.intro r1 r2)
        have Hq := Lib.hid hq
        clear r1 r2 hq hA1 hA2 e13 e23
        have mid : ∀ w5, (wr.alloc (.cells #[.pointer (some ⟨mb, mo, none⟩), .pointer (some ⟨qb, qo, none⟩)] 87)).grownBy w5 (some (w.heap.size + 1 + 1)) → PrBx w5 wr.heap.size ((mb, mo), (qb, qo)) ∧ Below w2.heap.size w2 w5 ∧ OwnPr w5 (w.heap.size + 1 + 1 + 1) (.slice (some ⟨g, 0, none⟩) W'.length cap) W' := by
          intro w5 hg5
          refine ⟨(hg5.block wr.heap.size (by simp) (by simp; omega)).trans (heap_alloc_new wr _), HBA.out.grown hg5 (by simp; omega) (fun k e => by cases e; omega), HcA.out.kept hg5 fun k e => by cases e; omega⟩
        have Hmid := Lib.hid mid
        clear mid
        by_cases hkk : k1 = k2
        case neg =>
          have hbf : b = false := by
            cases b with
            | false => rfl
            | true => exact absurd (Hq.out (Hb.out.1 rfl)).1 hkk
          have Hbf := Lib.hid hbf
          clear hbf
          have hkb : (k1 != k2) = true := by simpa using hkk
          go_wp2_with (first
            | (at_lookup; refine wpList_look_pair rfl _ _ rfl (w.heap.size + 1 + 1) M rfl HmA.out ((mb, mo), (qb, qo)) rfl HpA.out HpB.out false Hd.out ?_)
            | (at_mapUpdate; refine wpList_put_pair rfl _ _ _ rfl (w.heap.size + 1 + 1) M rfl HmA.out ((mb, mo), (qb, qo)) rfl rfl HpA.out HpB.out Hmem.out ?_; intro w5 hm5 hg5; obtain ⟨hb5, hB5, ho5⟩ := Hmid.out w5 hg5; obtain ⟨p0, p1⟩ := hb5.cells; obtain ⟨_, d1, d2, _⟩ := Hrr.out.1.keep fun x hx => hB5.block x hx; obtain ⟨_, g1, g2, _⟩ := Hrr.out.2.keep fun x hx => hB5.block x hx; have d3 := (hB5.cell (p := ⟨mb, mo + 2, none⟩) hl1).trans Hcc.out.1; have g3 := (hB5.cell (p := ⟨qb, qo + 2, none⟩) hl2).trans Hcc.out.2; dsimp only at p0 p1 d1 d2 d3 g1 g2 g3))
          go_quiet (fail)
          have HB5 := Lib.hid (HB2.out.trans (hB5.mono HB2.out.size))
          clear hm5 hg5 hb5 hB5 ho5
          go_wp2_with fail
          go_ret
          exact ⟨ret_bool Hbf.out.symm, below_drewN HB5.out _⟩
        case pos =>
        subst hkk
        have hkb : (k1 != k1) = false := by simp
        by_cases hss : s1 = s2
        case neg =>
          have hbf : b = false := by
            cases b with
            | false => rfl
            | true => exact absurd (Hq.out (Hb.out.1 rfl)).2.1 hss
          have Hbf := Lib.hid hbf
          clear hbf
          have hsb : (s1.toList == s2.toList) = false := by
            rw [beq_eq_false_iff_ne]
            intro e
            exact hss (ByteArray.ext (by simpa [ByteArray.toList_eq] using congrArg List.toArray e))
          go_wp2_with (first
            | (at_lookup; refine wpList_look_pair rfl _ _ rfl (w.heap.size + 1 + 1) M rfl HmA.out ((mb, mo), (qb, qo)) rfl HpA.out HpB.out false Hd.out ?_)
            | (at_mapUpdate; refine wpList_put_pair rfl _ _ _ rfl (w.heap.size + 1 + 1) M rfl HmA.out ((mb, mo), (qb, qo)) rfl rfl HpA.out HpB.out Hmem.out ?_; intro w5 hm5 hg5; obtain ⟨hb5, hB5, ho5⟩ := Hmid.out w5 hg5; obtain ⟨p0, p1⟩ := hb5.cells; obtain ⟨_, d1, d2, _⟩ := Hrr.out.1.keep fun x hx => hB5.block x hx; obtain ⟨_, g1, g2, _⟩ := Hrr.out.2.keep fun x hx => hB5.block x hx; have d3 := (hB5.cell (p := ⟨mb, mo + 2, none⟩) hl1).trans Hcc.out.1; have g3 := (hB5.cell (p := ⟨qb, qo + 2, none⟩) hl2).trans Hcc.out.2; dsimp only at p0 p1 d1 d2 d3 g1 g2 g3))
          go_quiet (fail)
          have HB5 := Lib.hid (HB2.out.trans (hB5.mono HB2.out.size))
          clear hm5 hg5 hb5 hB5 ho5
          go_wp2_with fail
          go_ret
          exact ⟨ret_bool Hbf.out.symm, below_drewN HB5.out _⟩
        case pos =>
        have hsb : (s1.toList == s2.toList) = true := by rw [hss]; simp
        have Hss := Lib.hid hss
        clear hss
        by_cases hnn : n1 = n2
        case neg =>
          have hbf : b = false := by
            cases b with
            | false => rfl
            | true => exact absurd (show n1 = n2 from by have := (Hq.out (Hb.out.1 rfl)).2.2; rw [← HA.out.1.1, ← HA.out.2.1, this]) hnn
          have Hbf := Lib.hid hbf
          clear hbf
          have hnb : ((n1 : Int) != (n2 : Int)) = true := by rw [bne_iff_ne]; omega
          go_wp2_with (first
            | (at_lookup; refine wpList_look_pair rfl _ _ rfl (w.heap.size + 1 + 1) M rfl HmA.out ((mb, mo), (qb, qo)) rfl HpA.out HpB.out false Hd.out ?_)
            | (at_mapUpdate; refine wpList_put_pair rfl _ _ _ rfl (w.heap.size + 1 + 1) M rfl HmA.out ((mb, mo), (qb, qo)) rfl rfl HpA.out HpB.out Hmem.out ?_; intro w5 hm5 hg5; obtain ⟨hb5, hB5, ho5⟩ := Hmid.out w5 hg5; obtain ⟨p0, p1⟩ := hb5.cells; obtain ⟨_, d1, d2, _⟩ := Hrr.out.1.keep fun x hx => hB5.block x hx; obtain ⟨_, g1, g2, _⟩ := Hrr.out.2.keep fun x hx => hB5.block x hx; have d3 := (hB5.cell (p := ⟨mb, mo + 2, none⟩) hl1).trans Hcc.out.1; have g3 := (hB5.cell (p := ⟨qb, qo + 2, none⟩) hl2).trans Hcc.out.2; dsimp only at p0 p1 d1 d2 d3 g1 g2 g3))
          go_quiet (fail)
          have HB5 := Lib.hid (HB2.out.trans (hB5.mono HB2.out.size))
          clear hm5 hg5 hb5 hB5 ho5
          go_wp2_with fail
          go_ret
          exact ⟨ret_bool Hbf.out.symm, below_drewN HB5.out _⟩
        case pos =>
        have hnb : ((n1 : Int) != (n2 : Int)) = false := by rw [hnn]; simp
        have Hnn := Lib.hid hnn
        clear hnn
        go_wp2_with (first
            | (at_lookup; refine wpList_look_pair rfl _ _ rfl (w.heap.size + 1 + 1) M rfl HmA.out ((mb, mo), (qb, qo)) rfl HpA.out HpB.out false Hd.out ?_)
            | (at_mapUpdate; refine wpList_put_pair rfl _ _ _ rfl (w.heap.size + 1 + 1) M rfl HmA.out ((mb, mo), (qb, qo)) rfl rfl HpA.out HpB.out Hmem.out ?_; intro w5 hm5 hg5; obtain ⟨hb5, hB5, ho5⟩ := Hmid.out w5 hg5; obtain ⟨p0, p1⟩ := hb5.cells; obtain ⟨_, d1, d2, _⟩ := Hrr.out.1.keep fun x hx => hB5.block x hx; obtain ⟨_, g1, g2, _⟩ := Hrr.out.2.keep fun x hx => hB5.block x hx; have d3 := (hB5.cell (p := ⟨mb, mo + 2, none⟩) hl1).trans Hcc.out.1; have g3 := (hB5.cell (p := ⟨qb, qo + 2, none⟩) hl2).trans Hcc.out.2; dsimp only at p0 p1 d1 d2 d3 g1 g2 g3))
        go_quiet (fail)
        have HB5 := Lib.hid hB5
        have Ho5 := Lib.hid ho5
        have Hm5 := Lib.hid hm5
        have Hb5 := Lib.hid hb5
        have z0 : (w5.drewN nq).cell? ⟨wr.heap.size, 0, none⟩ = some (.pointer (some ⟨mb, mo, none⟩)) := p0
        have z3 : (w5.drewN nq).cell? ⟨mb, mo + 2, none⟩ = some (.slice a1 n1 c1) := d3
        clear p0 p1 d1 d2 d3 g1 g2 g3 hm5 hg5 hb5 hB5 ho5 hx1 hx2 hkb hsb hnb
        go_wp2_with fail
        generalize hR : wr.heap.size = R at *
        clear hR
        go_loopw [6, 76] (fun v i wr6 => ∃ (j g6 cap6 : Nat), j ≤ n1 ∧ i = .int .i64 j ∧ v = .slice (some ⟨g6, 0, none⟩) (W'.length + j) cap6 ∧ OwnPr wr6 (w.heap.size + 1 + 1 + 1) (.slice (some ⟨g6, 0, none⟩) (W'.length + j) cap6) (W' ++ (List.range j).map fun i => (kid a1 i, kid a2 i)) ∧ g6 ≠ R ∧ MapP wr6 (w.heap.size + 1 + 1) (M ++ [((mb, mo), (qb, qo))]) ∧ PrBx wr6 R ((mb, mo), (qb, qo)) ∧ Below w2.heap.size w2 wr6 ∧ R < wr6.heap.size) (fun _ i _ => n1 - (intOf i).toNat)
        case atStart => exact ⟨0, g, cap, Nat.zero_le _, rfl, rfl, by have := Ho5.out; simpa using (show OwnPr (w5.drewN nq) _ _ _ from this), by omega, Hm5.out, Hb5.out, below_drewN HB5.out _, blk_lt Hb5.out⟩
        case round =>
          obtain ⟨j, g6, cap6, hj, rfl, rfl, hown, hg6, hmp, hbx, hB6, hlt6⟩ := hrel
          clear z0 z3
          have Hown := Lib.hid hown
          have Hmp := Lib.hid hmp
          have Hbx := Lib.hid hbx
          have HB6 := Lib.hid hB6
          have hcs := hbx.cells
          have d3 := (hB6.cell (p := ⟨mb, mo + 2, none⟩) hl1).trans Hcc.out.1
          have g3 := (hB6.cell (p := ⟨qb, qo + 2, none⟩) hl2).trans Hcc.out.2
          clear hown hmp hbx hB6
          by_cases hlt : j < n1
          · have hlt2 : j < n2 := by have := Hnn.out; omega
            obtain ⟨b1, o1, ha1, _⟩ := HA.out.1.2 (by omega)
            obtain ⟨b2, o2, ha2, _⟩ := HA.out.2.2 (by omega)
            obtain ⟨p0, p1⟩ := hcs
            rw [ha1] at d3
            rw [ha2] at g3
            have Hk := Lib.hid (show ((kid a1 j, kid a2 j) : Pr) = ((b1, o1 + j * 3), (b2, o2 + j * 3)) from by rw [ha1, ha2]; rfl)
            dsimp only at p0 p1
            have Hst := Lib.hid (show W' ++ (List.range (j + 1)).map (fun i => ((kid a1 i, kid a2 i) : Pr)) = (W' ++ (List.range j).map fun i => ((kid a1 i, kid a2 i) : Pr)) ++ [((b1, o1 + j * 3), (b2, o2 + j * 3))] from by rw [List.range_succ, List.map_append, ← List.append_assoc, ← Hk.out]; rfl)
            have hj0 : (0 : Int) ≤ (j : Int) := by omega
            have hj1 : (j : Int) < (n1 : Int) := by omega
            have hj2 : (j : Int) < (n2 : Int) := by omega
            clear ha1 ha2
            go_wp2_with fail
            go_region_law (refine step_append_pair rfl _ _ (by rfl) (w.heap.size + 1 + 1 + 1) (.slice (some ⟨g6, 0, none⟩) (W'.length + j) cap6) (W' ++ (List.range j).map fun i => (kid a1 i, kid a2 i)) (by rfl) (by exact Hown.out.alloc _) wr.heap.size 1 (by rfl) ((b1, o1 + j * 3), (b2, o2 + j * 3)) (by exact heap_alloc_new wr _) (W'.length + j) (by simp) (by omega) (by simp; omega) ?_; intro g7 cap7 w7 hown7 hgrow7 hlt7 hbg7)
            all_goals go_wp2_with fail
            all_goals
              obtain ⟨y1, y2, y3, y4⟩ := eq_step (g6 := g6) hgrow7 Hmp.out Hbx.out HB6.out (by have := (Hown.out.lt g6 rfl).1; omega) hg6 (by have := (Hown.out.lt g6 rfl).1; omega)
              exact ⟨⟨j + 1, g7, cap7, by omega, by go_num, rfl, by rw [Hst.out]; exact hown7, by
                rcases hbg7 with e | e
                · have e3 : g6 = g7 := by injection e
                  omega
                · have e2 : (wr.alloc (.cells #[.pointer (some ⟨b1, o1 + j * 3, none⟩), .pointer (some ⟨b2, o2 + j * 3, none⟩)] 87)).heap.size ≤ g7 := e
                  simp only [World.size_alloc] at e2
                  omega, y1, y2, y3, y4⟩, by simp [intOf]; omega⟩
          · have hjn : j = n1 := by omega
            have hge : ¬ (j : Int) < (n1 : Int) := by omega
            have Hjn := Lib.hid hjn
            clear hjn
            go_wp2_with fail
            obtain ⟨N3, hN3, hN4⟩ := SumS.kids (a' := a2) HA.out.1 j (by omega) HS'.out.1
            rw [Fo.drop_all (by rw [HA.out.1.1]; have := Hjn.out; omega)] at hN4
            have hNN := HS'.out.2
            simp only [Fo.size] at hN4
            obtain rfl := Hss.out
            obtain rfl := Hnn.out
            obtain rfl := Hjn.out
            go_roundg N3
            case measure => omega
            case rel => exact ⟨M ++ [((mb, mo), (qb, qo))], W' ++ (List.range j).map (fun i => (kid a1 i, kid a2 i)), g6, cap6, by simp, by have := Hown.out; simpa using this, Hmp.out, HE.out.next Hrr.out.1 Hrr.out.2 Hcc.out.1 Hcc.out.2, hN3, by omega, HB6.out⟩
end Go.Proofs.YtceiafncpimihaaGreat

namespace Go.Proofs.YtceiafncpimihaaGreat
set_option linter.unusedVariables false
open Go.RowKit

theorem file_underlying : Tryz.prog.underlying 28 = some (.struct (Tryz.prog.fieldsOf 28)) := by kernel_rfl
theorem file_held : Tryz.prog.stoodInHeld 28 = false := by kernel_rfl
theorem file_guard : Tryz.prog.eqGuardType Tryz.prog.depth 28 = false := by kernel_rfl
theorem file_eq (d : Nat) (p t p' t' : ByteArray) (W : World) : (Op.eqFields (d + 1) #[.string p, .string t] #[.string p', .string t'] (Tryz.prog.fieldsOf 28).toList).run Tryz.prog W = .ok (p.toList == p'.toList && t.toList == t'.toList) W := by
  have h9 : Tryz.prog.underlying 9 = some .string := Tryz.underlying9
  have h0 : (Tryz.prog.fieldsOf 28).toList = [{ name := "Path", type := 9, offset := 0, embedded := false, tag := "", pkgPath := "", byteOffset := 0 }, { name := "Text", type := 9, offset := 1, embedded := false, tag := "", pkgPath := "", byteOffset := 16 }] := by kernel_rfl
  rw [h0]
  cases h1 : (p.toList == p'.toList) <;> cases h2 : (t.toList == t'.toList) <;> simp [Op.eqFields, part, go_sem, h9, h1, h2]
theorem file_neq (p t p' t' : ByteArray) (W : World) : (binOp .neq 28 (.agg #[.string p, .string t]) (.agg #[.string p', .string t'])).run Tryz.prog W = .ok (.bool (!decide ((p, t) = (p', t')))) W := by
  rw [run_neq_struct, run_equalIn_agg _ _ _ _ _ file_underlying file_held, file_eq, sEq, sEq]
  by_cases h1 : p = p' <;> by_cases h2 : t = t' <;> simp [h1, h2]

set_option maxHeartbeats 400000 in
theorem equal_any (a b : Option Addr) (n c m d : Nat) (fs gs : List Fl) (w : World) (hf : FilesAt w w.heap.size a n fs) (hg : FilesAt w w.heap.size b m gs) (hn : n ≤ maxLen) (hm : m ≤ maxLen) :
    Calls Tryz.prog 67 #[.slice a n c, .slice b m d] w fun e w' =>
      e = .returned (.bool (decide (fs = gs))) ∧ Below w.heap.size w w' := by
  unfold maxLen at hn hm
  have hl1 := Lib.hid hf.1
  have hl2 := Lib.hid hg.1
  by_cases hne : n = m
  · subst hne
    go_enter Tryz.func67, Tryz.ntmps67
    go_wp2
    go_loopw [13] (fun i wr => ∃ k : Nat, k ≤ n ∧ i = .int .i64 k ∧ fs.take k = gs.take k ∧ Below w.heap.size w wr) (fun i _ => n - (intOf i).toNat)
    case atStart => exact ⟨0, Nat.zero_le _, rfl, rfl, Below.refl _ _⟩
    case round =>
      obtain ⟨k, hk, rfl, heq, hB⟩ := hrel
      have Heq := Lib.hid heq; clear heq
      by_cases hlt : k < n
      · obtain ⟨b1, off1, p, t, rfl, hb1, hg1, hc1, hc2⟩ := (hf.below hB).get hlt
        obtain ⟨b2, off2, p', t', rfl, hb2, hg2, hc3, hc4⟩ := (hg.below hB).get hlt
        have Hg1 := Lib.hid hg1; clear hg1
        have Hg2 := Lib.hid hg2; clear hg2
        have hk0 : (0 : Int) ≤ (k : Int) := by omega
        have hk1 : (k : Int) < (n : Int) := by omega
        have hneq := fun W => file_neq p t p' t' W
        have hgd := file_guard
        by_cases he : (p, t) = (p', t')
        · have He := Lib.hid he
          simp only [decide_eq_true he, Bool.not_true] at hneq
          clear he
          go_wp2_with fail
          go_quiet (fail)
          go_wp2
          go_roundw
          case rel => exact ⟨k + 1, by omega, by go_num, take_eq_succ Heq.out Hg1.out Hg2.out He.out, below_drewN hB _⟩
          case measure => simp [intOf]; omega
        · have He := Lib.hid he
          simp only [decide_eq_false he, Bool.not_false] at hneq
          clear he
          go_wp2_with fail
          go_quiet (fail)
          go_wp2
          go_ret
          exact ⟨ret_bool (by rw [decide_eq_false (ne_of_get Hg1.out Hg2.out He.out)]), below_drewN hB _⟩
      · go_wp2
        go_ret
        have h1 := hl1.out
        have h2 := hl2.out
        have h3 := Heq.out
        rw [List.take_of_length_le (by omega), List.take_of_length_le (by omega)] at h3
        exact ⟨ret_bool (by rw [decide_eq_true h3]), hB⟩
  · have hne' : ((n : Int) != (m : Int)) = true := by simp; omega
    go_enter Tryz.func67, Tryz.ntmps67
    go_wp2
    go_ret
    exact ⟨ret_bool (by rw [decide_eq_false]; rintro rfl; exact hne (hl1.out.symm.trans hl2.out)), Below.refl _ _⟩

end Go.Proofs.YtceiafncpimihaaGreat

namespace Go.Proofs.YtceiafncpimihaaGreat
set_option linter.unusedVariables false
open Go.ChangeShapes Go.WideShapes Go.Deep Go.RowKit Go.Joins
open Go.ChangeMaps (open_string shut_string)

/-- a slice of bytes that came in: nil, or a row of 'cap' cells, the numbers zs -/
def IsRow (k : IntKind) (w : World) (a : Option Addr) (len cap : Nat) (zs : List Int) : Prop :=
  (a = none ∧ len = 0 ∧ cap = 0 ∧ zs = []) ∨
  ∃ x, a = some x ∧ len ≤ cap ∧ cap ≤ maxLen ∧ zs.length = cap ∧ (∀ i, i < zs.length → w.cell? (x.add i) = some (.int k (zs.getD i 0))) ∧ ∀ n ∈ zs, (Lit.int k n).wf = true

theorem open_bytes {H : Type} {enc : TypeId × Value → H} {P : Program} {W : World} {t e : TypeId} {a : Option Addr} {len cap : Nat} {d : DataW H} {p : List MemPlace}
    (ht : P.underlying t = some (.slice e)) (he : P.underlying e = some (.int .u8)) (h1 : P.cellsOf e = 1) (h : DataW.Trod enc P W 0 (fun _ => true) true t (.slice a len cap) d p) :
    ∃ zs, IsRow .u8 W a len cap zs := by
  obtain ⟨fuel, hf⟩ := h
  rcases open_ints ht he h1 hf with ⟨hcs, _⟩ | ⟨x, l, c, zs, hcs, _, hl, hm, hz, _, hcell, hwz⟩
  · simp [Value.cells] at hcs
    obtain ⟨rfl, rfl, rfl⟩ := hcs
    exact ⟨[], .inl ⟨rfl, rfl, rfl, rfl⟩⟩
  · simp [Value.cells] at hcs
    obtain ⟨rfl, rfl, rfl⟩ := hcs
    exact ⟨zs, .inr ⟨_, rfl, hl, hm, by simpa using hz, hcell, hwz⟩⟩


/-- a slice of structs of one-cell fields that came in, opened to its cells -/
theorem open_rows {H : Type} {enc : TypeId × Value → H} {P : Program} {w : World} {base : Nat} {sp : Nat → Bool} {held : Bool} {t e : TypeId} {fs : Array Field} {fuel : Nat} {cs : List Value} {x : DataW H × List MemPlace}
    (ht : P.underlying t = some (.slice e)) (he : P.underlying e = some (.struct fs)) (hone : oneCellFields P fs = true) (hC : P.cellsOf e = fs.size) (h : DataW.trod enc P w base sp held fuel t cs = some x) :
    cs = [.slice none 0 0] ∨
    ∃ (a : Addr) (len cap : Nat), cs = [.slice (some a) len cap] ∧ len ≤ cap ∧ cap ≤ maxLen ∧
      ∀ i, i < len → ∀ (j : Nat) (f : Field), fs[j]? = some f → ∃ (v : Value) (y : DataW H × List MemPlace) (n : Nat), w.cell? (a.add (i * fs.size + j)) = some v ∧ DataW.trod enc P w base sp held n f.type [v] = some y := by
  rcases open_slice ht h with ⟨h0, _⟩ | ⟨a, len, cap, m, n, D, Pl, hcs, hb, hl, hm, hmm, hx, hi⟩
  · exact .inl h0
  · refine .inr ⟨a, len, cap, hcs, hl, hm, fun i hil j f hj => ?_⟩
    have him : i < m := by rw [hmm]; split <;> omega
    obtain ⟨cs', hc, ht'⟩ := hi i him
    rw [hC] at hc
    obtain ⟨ys, n', hn', hy, hlen, hyl, hf⟩ := DataW.trod_struct he ht'
    obtain ⟨_, hcl, hat⟩ := World.cells?_some hc
    obtain ⟨ho, hk⟩ := hone_of hone j f hj
    have hjl : j < fs.size := (Array.getElem?_eq_some_iff.1 hj).1
    have hcell := hat j hjl
    have hv : cs'[j]? = some (cs'[j]'(by omega)) := List.getElem?_eq_getElem (by omega)
    have h1 := hf j f hj
    rw [ho, hk] at h1
    have hone' : (cs'.drop j).take 1 = [cs'[j]'(by omega)] := by
      rw [List.drop_eq_getElem_cons (by omega)]
      rfl
    rw [hone'] at h1
    have hys : ys[j]? = some (ys[j]'(by omega)) := List.getElem?_eq_getElem (by omega)
    exact ⟨_, _, n', by rw [← Go.Deep.add_add, hcell, hv], h1.trans hys⟩

theorem open_files {H : Type} {enc : TypeId × Value → H} {P : Program} {W : World} {t e : TypeId} {a : Option Addr} {len cap : Nat} {d : DataW H} {p : List MemPlace} {f0 f1 : Field}
    (ht : P.underlying t = some (.slice e)) (he : P.underlying e = some (.struct #[f0, f1])) (h0 : P.underlying f0.type = some .string) (h1 : P.underlying f1.type = some .string)
    (hone : oneCellFields P #[f0, f1] = true) (hC : P.cellsOf e = 2) (h : DataW.Trod enc P W 0 (fun _ => true) true t (.slice a len cap) d p) :
    ∃ fs, FilesAt W W.heap.size a len fs ∧ Fits fs ∧ len ≤ maxLen := by
  obtain ⟨fuel, hf⟩ := h
  rcases open_rows ht he hone hC hf with hcs | ⟨x, l, c, hcs, hl, hm, hcell⟩
  · simp [Value.cells] at hcs
    obtain ⟨rfl, rfl, rfl⟩ := hcs
    exact ⟨[], ⟨rfl, fun hn => absurd hn (by omega)⟩, fun f hf => by simp at hf, by unfold maxLen; omega⟩
  · simp [Value.cells] at hcs
    obtain ⟨rfl, rfl, rfl⟩ := hcs
    have hget : ∀ i, i < len → ∃ q r : ByteArray, W.cell? (x.add (i * 2)) = some (.string q) ∧ W.cell? (x.add (i * 2 + 1)) = some (.string r) ∧ q.size ≤ maxLen ∧ r.size ≤ maxLen := by
      intro i hi
      obtain ⟨v, y, n, hv, hy⟩ := hcell i hi 0 f0 rfl
      obtain ⟨v', y', n', hv', hy'⟩ := hcell i hi 1 f1 rfl
      obtain ⟨q, hq, _, hql⟩ := DataW.trod_string h0 hy
      obtain ⟨r, hr, _, hrl⟩ := DataW.trod_string h1 hy'
      simp at hq hr
      subst hq hr
      exact ⟨q, r, hv, hv', hql, hrl⟩
    let F : Nat → Fl := fun i => if hi : i < len then ((hget i hi).choose, (hget i hi).choose_spec.choose) else (.empty, .empty)
    have hF : ∀ i, i < len → W.cell? (x.add (i * 2)) = some (.string (F i).1) ∧ W.cell? (x.add (i * 2 + 1)) = some (.string (F i).2) ∧ (F i).1.size ≤ maxLen ∧ (F i).2.size ≤ maxLen := by
      intro i hi
      have h := (hget i hi).choose_spec.choose_spec
      simp only [F, dif_pos hi]
      exact h
    refine ⟨(List.range len).map F, ⟨by simp, fun hn => ?_⟩, ?_, by omega⟩
    · obtain ⟨b, off, spot⟩ := x
      have hc0 := (hF 0 hn).1
      have hspot : spot = none := by simpa [Addr.add] using World.cell?_spot hc0
      subst hspot
      refine ⟨b, off, rfl, World.block_lt_of_cell? W ⟨b, off, none⟩ (by simpa [Addr.add] using hc0), fun j u hu => ?_⟩
      obtain ⟨k, q, r, hk, hh⟩ := fcells_inv _ hu
      have hkl : k < len := by have := (List.getElem?_eq_some_iff.1 hk).1; simpa using this
      have hFk : F k = (q, r) := by simpa [hkl] using hk
      have hh2 := hF k hkl
      rw [hFk, add_none, add_none] at hh2
      rcases hh with ⟨rfl, rfl⟩ | ⟨rfl, rfl⟩
      · exact hh2.1
      · exact hh2.2.1
    · intro f hf
      simp only [List.mem_map, List.mem_range] at hf
      obtain ⟨k, hk, rfl⟩ := hf
      exact (hF k hk).2.2

theorem open_file {H : Type} {enc : TypeId × Value → H} {P : Program} {W : World} {r : Reach} {b0 : Nat} {t : TypeId} {v : Value} {d : DataW H} {p : List MemPlace} {f0 f1 : Field}
    (hs : P.underlying t = some (.struct #[f0, f1])) (h0 : P.underlying f0.type = some .string) (h1 : P.underlying f1.type = some .string)
    (hone : oneCellFields P #[f0, f1] = true) (hC : P.cellsOf t = 2) (hv : Value.okWide P W r b0 t v) (h : DataW.Trod enc P W 0 (fun _ => true) true t v d p) :
    ∃ q s : ByteArray, v = .agg #[.string q, .string s] ∧ q.size ≤ maxLen ∧ s.size ≤ maxLen := by
  obtain ⟨v0, v1, y0, y1, n, rfl, _, _, hy0, hy1⟩ := open_agg2 hs hone hC hv h
  obtain ⟨q, hq, _, hql⟩ := DataW.trod_string h0 hy0
  obtain ⟨s, hs', _, hsl⟩ := DataW.trod_string h1 hy1
  simp at hq hs'
  subst hq hs'
  exact ⟨q, s, rfl, hql, hsl⟩

end Go.Proofs.YtceiafncpimihaaGreat

namespace Go.Proofs.YtceiafncpimihaaGreat
set_option linter.unusedVariables false
open Go.RowKit

theorem row_bytes {w : World} {a : Option Addr} {len cap : Nat} {zs : List Int} (h : IsRow .u8 w a len cap zs) : BytesAt w w.heap.size a len ∧ len ≤ cap ∧ cap ≤ maxLen := by
  rcases h with ⟨rfl, rfl, rfl, rfl⟩ | ⟨x, rfl, hl, hm, hz, hcell, hwz⟩
  · exact ⟨fun h => absurd h (by omega), Nat.le_refl _, by unfold maxLen; omega⟩
  · refine ⟨fun h => ?_, hl, hm⟩
    obtain ⟨b, off, spot⟩ := x
    have hc0 := hcell 0 (by omega)
    have hspot : spot = none := by simpa [Addr.add] using World.cell?_spot hc0
    subst hspot
    refine ⟨b, off, rfl, World.block_lt_of_cell? w ⟨b, off, none⟩ (by simpa [Addr.add] using hc0), fun i hi => ?_⟩
    have hc := hcell i (by omega)
    have hw := hwz (zs.getD i 0) (by rw [List.getD_eq_getElem?_getD, List.getElem?_eq_getElem (by omega)]; simp)
    rw [add_none] at hc
    have hx : 0 ≤ zs.getD i 0 ∧ zs.getD i 0 ≤ 255 := by simpa [Lit.wf, IntKind.min, IntKind.max, IntKind.signed, IntKind.bits] using hw
    exact ⟨_, hx.1, hx.2, hc⟩

end Go.Proofs.YtceiafncpimihaaGreat
