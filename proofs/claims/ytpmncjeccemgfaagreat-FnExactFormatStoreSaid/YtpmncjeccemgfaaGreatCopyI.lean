/-
  The program's copyExpr: the copy lies in rows that share no block.
-/
import Derived.Test.YtpmncjeccemgfaaGreatOwnU
import Derived.Test.YtpmncjeccemgfaaGreatCopyS
import Derived.Test.YtpmncjeccemgfaaGreatBk
namespace Go.Proofs.YtpmncjeccemgfaaGreat
set_option linter.unusedVariables false
set_option linter.unusedSimpArgs false
open Go.RowKit

/-- the cells of a row of nodes whose operands have rows of their own -/
def RowB (w : World) : Fo → List Value → Prop
  | .nil, xs => xs = []
  | .node k _ ks r, xs => ∃ x y a c ys, xs = x :: y :: .slice a ks.len c :: ys ∧ SepA w ks k.toNat a ks.len ∧ RowB w r ys
section
variable {w w' : World} {b g : Nat} {bk ks : Fo} {a : Option Addr}
theorem rowB_keep : ∀ {bk : Fo} {xs : List Value}, (∀ x, x ∈ bk.blks → x < w.heap.size → w'.heap[x]? = w.heap[x]?) → RowB w bk xs → RowB w' bk xs
  | .nil, _, _, h => h
  | .node k s ks r, _, hk, ⟨x, y, a, c, ys, e, h1, h2⟩ => ⟨x, y, a, c, ys, e, h1.keep fun x hx => hk x (List.mem_append_left _ hx), rowB_keep (fun x hx => hk x (List.mem_append_right _ hx)) h2⟩
theorem rowB_snoc {x y : Value} {c : Nat} (h1 : SepA w ks g a ks.len) : ∀ {bk : Fo} {xs : List Value}, RowB w bk xs → RowB w (bk.snoc (g : Int) .empty ks) (xs ++ [x, y, .slice a ks.len c])
  | .nil, _, h => by simp only [RowB] at h; subst h; exact ⟨x, y, a, c, [], rfl, by simpa using h1, rfl⟩
  | .node k s ks' r, _, ⟨x', y', a', c', ys, e, h2, h3⟩ => by subst e; exact ⟨x', y', a', c', _, rfl, h2, rowB_snoc h1 h3⟩
theorem rowB_sep : ∀ {bk : Fo} {xs : List Value} {j0 : Nat}, RowB w bk xs → (∀ j u, xs[j]? = some u → w.cell? ⟨b, j0 * 3 + j, none⟩ = some u) → Sep w bk b j0
  | .nil, _, _, _, _ => trivial
  | .node k s ks r, _, j0, ⟨x, y, a, c, ys, e, h1, h2⟩, hcell => by
    subst e
    refine ⟨⟨a, c, hcell 2 _ rfl, h1.2⟩, rowB_sep h2 fun j u hu => ?_⟩
    have := hcell (j + 3) u (by simpa using hu)
    rwa [show (j0 + 1) * 3 + j = j0 * 3 + (j + 3) from by omega]
theorem blks_snoc (g : Nat) (s : ByteArray) (ks : Fo) : ∀ bk : Fo, (bk.snoc (g : Int) s ks).blks = bk.blks ++ blksA g ks
  | .nil => by simp [Fo.snoc, Fo.blks, blksA]
  | .node k' s' ks' r => by simp only [Fo.snoc, Fo.blks, blks_snoc g s ks r, List.append_assoc]
end
/-- a list of expressions of one's own whose rows share no block -/
def OwnB (w : World) (base : Nat) (v : Value) (f bk : Fo) : Prop := ∃ xs, w.ownsRow base 59 3 v f.len xs ∧ RowT w base w.heap.size v.ownBlock f xs ∧ RowB w bk xs ∧ bk.len = f.len ∧ bk.size = f.size ∧ bk.blks.Nodup ∧ ∀ x ∈ bk.blks, base ≤ x ∧ x < w.heap.size ∧ v.ownBlock ≠ some x
section
variable {w w' : World} {base base' : Nat} {v v' : Value} {f bk : Fo} {r : Option Nat}
theorem OwnB.own (h : OwnB w base v f bk) : OwnT w base v f := by
  obtain ⟨xs, h1, h2, _⟩ := h
  exact ⟨xs, h1, h2⟩
theorem OwnB.nil (w : World) (base : Nat) : OwnB w base (.slice none 0 0) .nil .nil := ⟨[], World.ownsRow_nil _ _ _ _, rfl, rfl, rfl, rfl, List.nodup_nil, fun _ h => by simp [Fo.blks] at h⟩
theorem OwnB.grown (h : OwnB w base v f bk) (hg : w.grownBy w' r) (hr : ∀ g, r = some g → g < base ∨ w.heap.size ≤ g) : OwnB w' base v f bk := by
  obtain ⟨xs, h1, h2, h3, h4, h5, h6, h7⟩ := h
  refine ⟨xs, World.ownsRow.kept h1 hg ?_, rowT_keep (Nat.le_refl _) hg.size (fun g hg => .inl hg) (fun p h3 h4 _ => World.cell?_of_block (hg.block p.block h4 (fun e => by have := hr _ e.symm; omega))) h2,
    rowB_keep (fun x hx hxs => hg.block x hxs (fun e => by have := hr _ e.symm; have := h7 x hx; omega)) h3, h4, h5, h6, fun x hx => ⟨(h7 x hx).1, Nat.lt_of_lt_of_le (h7 x hx).2.1 hg.size, (h7 x hx).2.2⟩⟩
  cases hv : v.ownBlock with
  | none => exact .inl rfl
  | some g => exact .inr fun e => by have := World.ownsRow.lt h1 g hv; have := hr g e.symm; omega
theorem OwnB.alloc (h : OwnB w base v f bk) (o : Obj) : OwnB (w.alloc o) base v f bk := h.grown (World.grownBy_alloc w o none) fun g e => by cases e
theorem OwnB.below (h : OwnB w base v f bk) (hb : Below w.heap.size w w') : OwnB w' base v f bk := h.grown (r := none) ⟨hb.os, hb.tape, hb.output, hb.size, fun i hi _ => hb.block i hi⟩ fun g e => by cases e
theorem OwnB.setCell (h : OwnB w base v f bk) {g : Nat} (hg : g < base) (i : Nat) (u : Value) : OwnB (w.setCell ⟨g, i, none⟩ u) base v f bk :=
  h.grown (r := some g) (grown_set (World.grownBy.refl w _) (.inl rfl) u) fun j e => by injection e with e; omega
theorem OwnB.mono (h : OwnB w base v f bk) (hb : base' ≤ base) : OwnB w base' v f bk := by
  obtain ⟨xs, h1, h2, h3, h4, h5, h6, h7⟩ := h
  exact ⟨xs, World.ownsRow.mono h1 hb, rowT_keep hb (Nat.le_refl _) (fun g hg => .inl hg) (fun _ _ _ _ => rfl) h2, h3, h4, h5, h6, fun x hx => ⟨Nat.le_trans hb (h7 x hx).1, (h7 x hx).2⟩⟩
theorem OwnB.bound (h : OwnB w base v f bk) : ∀ x ∈ bk.blks, x < w.heap.size := by
  obtain ⟨xs, h1, h2, h3, h4, h5, h6, h7⟩ := h
  exact fun x hx => (h7 x hx).2.1
/-- what a copied list is told of -/
def CopX (w : World) (base : Nat) (f : Fo) (a : Option Addr) (c : Nat) (bk : Fo) (g : Nat) : Prop := f.len ≤ c ∧ c ≤ maxLen ∧ KA w base w.heap.size f a f.len ∧ SepA w bk g a f.len ∧ (blksA g bk).Nodup ∧ (∀ x ∈ blksA g bk, base ≤ x ∧ x < w.heap.size) ∧ bk.size = f.size
theorem CopX.setCell {w : World} {base c g g' : Nat} {f bk : Fo} {a : Option Addr} (h : CopX w base f a c bk g) (hg : g' < base) (i : Nat) (u : Value) : CopX (w.setCell ⟨g', i, none⟩ u) base f a c bk g := by
  obtain ⟨h1, h2, h3, h4, h5, h6, h7⟩ := h
  have hsz : (w.setCell ⟨g', i, none⟩ u).heap.size = w.heap.size := by simp [World.setCell]
  refine ⟨h1, h2, (h3.setCell (.inl hg) i u).more (Nat.le_refl _) (by omega), h4.keep fun x hx _ => Below.heap_setCell w _ _ x (by have := h6 x hx; show x ≠ g'; omega), h5, fun x hx => ⟨(h6 x hx).1, by rw [hsz]; exact (h6 x hx).2⟩, h7⟩
theorem CopX.mono {w : World} {base base' c g : Nat} {f bk : Fo} {a : Option Addr} (h : CopX w base f a c bk g) (hb : base' ≤ base) : CopX w base' f a c bk g := by
  obtain ⟨h1, h2, h3, h4, h5, h6, h7⟩ := h
  exact ⟨h1, h2, h3.more hb (Nat.le_refl _), h4, h5, fun x hx => ⟨Nat.le_trans hb (h6 x hx).1, (h6 x hx).2⟩, h7⟩
theorem OwnB.form (h : OwnB w base v f bk) : ∃ a c g, v = .slice a f.len c ∧ CopX w base f a c bk g := by
  obtain ⟨a, c, rfl, h8, h9, h10⟩ := h.own.form
  obtain ⟨xs, h1, h2, h3, h4, h5, h6, h7⟩ := h
  rcases h1.2 with ⟨e, h0⟩ | ⟨g, cap, cur, e, hb, hg, hc, hm, hcs, _⟩
  · refine ⟨a, c, 0, rfl, h8, h9, h10, ⟨h4, fun hn => absurd hn (by omega)⟩, ?_, ?_, h5⟩
    · unfold blksA; rw [if_pos (by omega)]; exact List.nodup_nil
    · unfold blksA; rw [if_pos (by omega)]; intro x hx; simp at hx
  · simp only [Value.slice.injEq] at e
    obtain ⟨rfl, -, rfl⟩ := e
    refine ⟨_, c, g, rfl, h8, h9, h10, ⟨h4, fun hn => ⟨rfl, ⟨cur, hg, by rw [hcs]; exact Nat.mul_le_mul_right _ hc⟩, rowB_sep h3 fun j u hu => ?_⟩⟩, ?_, ?_, h5⟩
    · have := World.ownsRow.cells h1 (g := g) rfl j u hu
      rw [add_none] at this
      rwa [show 0 * 3 + j = 0 + j from by omega]
    · unfold blksA
      by_cases h0 : bk.len = 0
      · rw [if_pos h0]; exact List.nodup_nil
      · rw [if_neg h0]; exact List.nodup_cons.2 ⟨fun hx => (h7 g hx).2.2 rfl, h6⟩
    · intro x hx
      unfold blksA at hx
      by_cases h0 : bk.len = 0
      · rw [if_pos h0] at hx; simp at hx
      · rw [if_neg h0] at hx
        rcases List.mem_cons.1 hx with rfl | hx
        · exact ⟨hb, blk_lt hg⟩
        · exact ⟨(h7 x hx).1, (h7 x hx).2.1⟩
end
/-- one more node -/
theorem wp_append_bk {w : World} {o : Oper} {a : Act} {K : Act → World → Prop} {Q : Exit → Act → World → Prop} (s x : Operand)
    (ho : o.op = .call { callee := .builtin .append, args := #[s, x], argTypes := #[57, 57] })
    (base : Nat) (v : Value) (f bk : Fo) (hs : a.eval s = v) (hown : OwnB w base v f bk) (g c1 : Nat) (hx : a.eval x = .slice (some ⟨g, 0, none⟩) 1 c1)
    (k : Int) (t : ByteArray) (ks : Fo) (ad : Option Addr) (c L1 : Nat) (bk1 : Fo) (g1 : Nat) {T : TypeId} (hbx : w.heap[g]? = some (.cells #[.int .i64 k, .string t, .slice ad ks.len c] T (0, 0))) (hc : ks.len ≤ c) (hk : KA w L1 w.heap.size ks ad ks.len) (hL : base ≤ L1) (hown1 : ∀ g, v.ownBlock = some g → g < L1) (hown2 : ∀ x ∈ bk.blks, x < L1)
    (hsep : SepA w bk1 g1 ad ks.len) (hnd : (blksA g1 bk1).Nodup) (hin : ∀ x ∈ blksA g1 bk1, L1 ≤ x ∧ x < w.heap.size) (hz : bk1.size = ks.size)
    (h63 : f.len ≤ 1000000000) (hbase : base ≤ w.heap.size)
    (h : ∀ g cap w', OwnB w' base (.slice (some ⟨g, 0, none⟩) (f.len + 1) cap) (f.snoc k t ks) (bk.snoc (g1 : Int) .empty bk1) → w.grownBy w' v.ownBlock → g < w'.heap.size → base ≤ g → K (a.put o.dst (.slice (some ⟨g, 0, none⟩) (f.len + 1) cap)) w') :
    Oper.wp Tryz.prog o a w K Q := by
  obtain ⟨i, hi, hz0, hz1, hz2⟩ := info_parts expr_info3
  obtain ⟨xs, h1, h2, h3, h4, h5, h6, h7⟩ := hown
  refine wp_append_at s x 57 ho base 59 i _ 3 48 exprs_under hi hz0 hz1 hz2 rfl (by decide) v f.len xs hs h1 ⟨g, 0, none⟩ 1 c1 [.int .i64 k, .string t, .slice ad ks.len c] hx rfl ?_ (by simp [Value.oneCell']) (by simp only [maxLen]; omega) (by omega) hbase fun v' w' h8 h9 h10 => ?_
  · intro j u hu
    rw [add_none, cell_of_row _ _ _ _ _ _ hbx]
    simpa using hu
  · have h11 : RowT w' base w'.heap.size v'.ownBlock (f.snoc k t ks) (xs ++ [.int .i64 k, .string t, .slice ad ks.len c]) := by
      refine rowT_keep (Nat.le_refl _) h9.size (fun g e => ?_) (fun p h4 h5 h6 => World.cell?_of_block (h9.block p.block h5 (fun e => h6 e.symm))) (rowT_snoc (k := k) (s := t) hc hk hL (Nat.le_refl _) (fun g hg => .inl (hown1 g hg)) h2)
      rcases h10 with ho | ho
      · exact .inl (ho ▸ e)
      · exact .inr (.inr (ho g e))
    have h12 : RowB w' (bk.snoc (g1 : Int) .empty bk1) (xs ++ [.int .i64 k, .string t, .slice ad ks.len c]) := by
      have h13 := rowB_snoc (x := .int .i64 k) (y := .string t) (c := c) (g := g1) (a := ad) (ks := bk1) (by rw [hsep.1]; exact hsep) h3
      rw [hsep.1] at h13
      refine rowB_keep (fun x hx hxs => h9.block x hxs (fun e => ?_)) h13
      rw [blks_snoc] at hx
      rcases List.mem_append.1 hx with hx | hx
      · exact (h7 x hx).2.2 e.symm
      · have := hin x hx; have := hown1 x e.symm; omega
    have h14 : w'.ownsRow base 59 3 v' (f.snoc k t ks).len (xs ++ [.int .i64 k, .string t, .slice ad ks.len c]) := by rw [Fo.snoc_len]; exact h8
    obtain ⟨g', cap', rfl, h15, h16⟩ := World.ownsRow.form h8 (by omega)
    refine h g' cap' w' ⟨_, h14, h11, h12, by rw [Fo.snoc_len, Fo.snoc_len, h4], by rw [Fo.snoc_size, Fo.snoc_size, h5, hz], ?_, fun x hx => ?_⟩ h9 h16 h15
    · rw [blks_snoc]
      exact List.nodup_append.2 ⟨h6, hnd, fun x hx y hy e => by have := hown2 x hx; have := hin y hy; omega⟩
    · rw [blks_snoc] at hx
      have hxs : base ≤ x ∧ x < w.heap.size ∧ v.ownBlock ≠ some x := by
        rcases List.mem_append.1 hx with hx | hx
        · exact h7 x hx
        · have h17 := hin x hx
          exact ⟨by omega, h17.2, fun e => by have := hown1 x e; omega⟩
      refine ⟨hxs.1, Nat.lt_of_lt_of_le hxs.2.1 h9.size, fun e => ?_⟩
      rcases h10 with ho | ho
      · exact hxs.2.2 (ho ▸ e)
      · have := ho x e; omega

theorem wpList_append_bk {w : World} {ops : Array Oper} {rest : List Oper} {o : Oper} {a : Act} {Q : Exit → Act → World → Prop} (hgd : o.guard = none) (s x : Operand)
    (ho : o.op = .call { callee := .builtin .append, args := #[s, x], argTypes := #[57, 57] })
    (base : Nat) (v : Value) (f bk : Fo) (hs : a.eval s = v) (hown : OwnB w base v f bk) (g c1 : Nat) (hx : a.eval x = .slice (some ⟨g, 0, none⟩) 1 c1)
    (k : Int) (t : ByteArray) (ks : Fo) (ad : Option Addr) (c L1 : Nat) (bk1 : Fo) (g1 : Nat) {T : TypeId} (hbx : w.heap[g]? = some (.cells #[.int .i64 k, .string t, .slice ad ks.len c] T (0, 0))) (hc : ks.len ≤ c) (hk : KA w L1 w.heap.size ks ad ks.len) (hL : base ≤ L1) (hown1 : ∀ g, v.ownBlock = some g → g < L1) (hown2 : ∀ x ∈ bk.blks, x < L1)
    (hsep : SepA w bk1 g1 ad ks.len) (hnd : (blksA g1 bk1).Nodup) (hin : ∀ x ∈ blksA g1 bk1, L1 ≤ x ∧ x < w.heap.size) (hz : bk1.size = ks.size)
    (h63 : f.len ≤ 1000000000) (hbase : base ≤ w.heap.size)
    (h : ∀ g cap w', OwnB w' base (.slice (some ⟨g, 0, none⟩) (f.len + 1) cap) (f.snoc k t ks) (bk.snoc (g1 : Int) .empty bk1) → w.grownBy w' v.ownBlock → g < w'.heap.size → base ≤ g → wpList Tryz.prog ops Q rest (a.put o.dst (.slice (some ⟨g, 0, none⟩) (f.len + 1) cap)) w') :
    wpList Tryz.prog ops Q (o :: rest) a w :=
  wpList_plain hgd fun _ hK => wp_append_bk s x ho base v f bk hs hown g c1 hx k t ks ad c L1 bk1 g1 hbx hc hk hL hown1 hown2 hsep hnd hin hz h63 hbase fun g cap w' h1 h2 h3 h4 => hK _ _ (h g cap w' h1 h2 h3 h4)
theorem bxE_three {w : World} {g : Nat} {k : Int} {s : ByteArray} {v : Value} {T : TypeId} (h : BxE w g k s v T) : w.cell? ⟨g, 0, none⟩ = some (.int .i64 k) ∧ w.cell? ⟨g, 1, none⟩ = some (.string s) ∧ w.cell? ⟨g, 2, none⟩ = some v := ⟨h.c0, h.c1, h.c2⟩
/-- what copyExpr leaves -/
def CopP (k : Int) (s : ByteArray) (ks : Fo) (w : World) (e : Ending) (w' : World) : Prop := ∃ a c bk g, e = .returned (.agg #[.int .i64 k, .string s, .slice a ks.len c]) ∧ CopX w' w.heap.size ks a c bk g ∧ Below w.heap.size w w'
/-- what copyList leaves -/
def CopL (ks : Fo) (w : World) (e : Ending) (w' : World) : Prop := ∃ a c bk g, e = .returned (.slice a ks.len c) ∧ CopX w' w.heap.size ks a c bk g ∧ Below w.heap.size w w'

end Go.Proofs.YtpmncjeccemgfaaGreat
