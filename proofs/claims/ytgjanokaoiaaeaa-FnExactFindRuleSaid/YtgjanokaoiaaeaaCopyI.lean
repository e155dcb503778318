/-
  The program's copyExpr: the copy lies in rows that share no block.
-/
import Derived.Test.YtgjanokaoiaaeaaOwnU
import Derived.Test.YtgjanokaoiaaeaaCopyS
import Derived.Test.YtgjanokaoiaaeaaBk
namespace Go.Proofs.Ytgjanokaoiaaeaa
set_option linter.unusedVariables false
set_option linter.unusedSimpArgs false
open Go.RowKit

/-- the cells of a row of nodes whose operands have rows of their own -/
def RowB (w : World) : Fo → List Value → Prop
  | .nil, xs => xs = []
  | .node k _ ks r, xs => ∃ x y a c ys, xs = x :: y :: .slice a ks.len c :: ys ∧ SepA w ks k.toNat a ks.len ∧ RowB w r ys
section
variable {w w' : World} {b g : Nat} {bk ks : Fo} {a : Option Addr}
theorem rowB_keep : ∀ {bk : Fo} {xs : List Value}, (∀ x, x ∈ bk.blks → x < w.heap.size → w'.heap[x]? = w.heap[x]?) → RowB w bk xs → RowB w' bk xs
  | .nil, _, _, h => h
  | .node k s ks r, _, hk, ⟨x, y, a, c, ys, e, h1, h2⟩ => ⟨x, y, a, c, ys, e, h1.keep fun x hx => hk x (List.mem_append_left _ hx), rowB_keep (fun x hx => hk x (List.mem_append_right _ hx)) h2⟩
theorem rowB_snoc {x y : Value} {c : Nat} (h1 : SepA w ks g a ks.len) : ∀ {bk : Fo} {xs : List Value}, RowB w bk xs → RowB w (bk.snoc (g : Int) .empty ks) (xs ++ [x, y, .slice a ks.len c])
  | .nil, _, h => by simp only [RowB] at h; subst h; exact ⟨x, y, a, c, [], rfl, by simpa using h1, rfl⟩
  | .node k s ks' r, _, ⟨x', y', a', c', ys, e, h2, h3⟩ => by subst e; exact ⟨x', y', a', c', _, rfl, h2, rowB_snoc h1 h3⟩
theorem rowB_sep : ∀ {bk : Fo} {xs : List Value} {j0 : Nat}, RowB w bk xs → (∀ j u, xs[j]? = some u → w.cell? ⟨b, j0 * 3 + j, none⟩ = some u) → Sep w bk b j0
  | .nil, _, _, _, _ => trivial
  | .node k s ks r, _, j0, ⟨x, y, a, c, ys, e, h1, h2⟩, hcell => by
    subst e
    refine ⟨⟨a, c, hcell 2 _ rfl, h1.2⟩, rowB_sep h2 fun j u hu => ?_⟩
    have := hcell (j + 3) u (by simpa using hu)
    rwa [show (j0 + 1) * 3 + j = j0 * 3 + (j + 3) from by omega]
theorem blks_snoc (g : Nat) (s : ByteArray) (ks : Fo) : ∀ bk : Fo, (bk.snoc (g : Int) s ks).blks = bk.blks ++ blksA g ks
  | .nil => by simp [Fo.snoc, Fo.blks, blksA]
  | .node k' s' ks' r => by simp only [Fo.snoc, Fo.blks, blks_snoc g s ks r, List.append_assoc]
end
/-- a list of expressions of one's own whose rows share no block -/
def OwnB (w : World) (base : Nat) (v : Value) (f bk : Fo) : Prop := ∃ xs, w.ownsRow base 37 3 v f.len xs ∧ RowT w base w.heap.size v.ownBlock f xs ∧ RowB w bk xs ∧ bk.len = f.len ∧ bk.size = f.size ∧ bk.blks.Nodup ∧ ∀ x ∈ bk.blks, base ≤ x ∧ x < w.heap.size ∧ v.ownBlock ≠ some x
section
variable {w w' : World} {base base' : Nat} {v v' : Value} {f bk : Fo} {r : Option Nat}
theorem OwnB.own (h : OwnB w base v f bk) : OwnT w base v f := by
  obtain ⟨xs, h1, h2, _⟩ := h
  exact ⟨xs, h1, h2⟩
theorem OwnB.nil (w : World) (base : Nat) : OwnB w base (.slice none 0 0) .nil .nil := ⟨[], World.ownsRow_nil _ _ _ _, rfl, rfl, rfl, rfl, List.nodup_nil, fun _ h => by simp [Fo.blks] at h⟩
theorem OwnB.grown (h : OwnB w base v f bk) (hg : w.grownBy w' r) (hr : ∀ g, r = some g → g < base ∨ w.heap.size ≤ g) : OwnB w' base v f bk := by
  obtain ⟨xs, h1, h2, h3, h4, h5, h6, h7⟩ := h
  refine ⟨xs, World.ownsRow.kept h1 hg ?_, rowT_keep (Nat.le_refl _) hg.size (fun g hg => .inl hg) (fun p h3 h4 _ => World.cell?_of_block (hg.block p.block h4 (fun e => by have := hr _ e.symm; omega))) h2,
    rowB_keep (fun x hx hxs => hg.block x hxs (fun e => by have := hr _ e.symm; have := h7 x hx; omega)) h3, h4, h5, h6, fun x hx => ⟨(h7 x hx).1, Nat.lt_of_lt_of_le (h7 x hx).2.1 hg.size, (h7 x hx).2.2⟩⟩
  cases hv : v.ownBlock with
  | none => exact .inl rfl
  | some g => exact .inr fun e => by have := World.ownsRow.lt h1 g hv; have := hr g e.symm; omega
theorem OwnB.alloc (h : OwnB w base v f bk) (o : Obj) : OwnB (w.alloc o) base v f bk := h.grown (World.grownBy_alloc w o none) fun g e => by cases e
theorem OwnB.below (h : OwnB w base v f bk) (hb : Below w.heap.size w w') : OwnB w' base v f bk := h.grown (r := none) ⟨hb.os, hb.tape, hb.output, hb.size, fun i hi _ => hb.block i hi⟩ fun g e => by cases e
theorem OwnB.setCell (h : OwnB w base v f bk) {g : Nat} (hg : g < base) (i : Nat) (u : Value) : OwnB (w.setCell ⟨g, i, none⟩ u) base v f bk :=
  h.grown (r := some g) (grown_set (World.grownBy.refl w _) (.inl rfl) u) fun j e => by injection e with e; omega
theorem OwnB.mono (h : OwnB w base v f bk) (hb : base' ≤ base) : OwnB w base' v f bk := by
  obtain ⟨xs, h1, h2, h3, h4, h5, h6, h7⟩ := h
  exact ⟨xs, World.ownsRow.mono h1 hb, rowT_keep hb (Nat.le_refl _) (fun g hg => .inl hg) (fun _ _ _ _ => rfl) h2, h3, h4, h5, h6, fun x hx => ⟨Nat.le_trans hb (h7 x hx).1, (h7 x hx).2⟩⟩
theorem OwnB.bound (h : OwnB w base v f bk) : ∀ x ∈ bk.blks, x < w.heap.size := by
  obtain ⟨xs, h1, h2, h3, h4, h5, h6, h7⟩ := h
  exact fun x hx => (h7 x hx).2.1
/-- what a copied list is told of -/
def CopX (w : World) (base : Nat) (f : Fo) (a : Option Addr) (c : Nat) (bk : Fo) (g : Nat) : Prop := f.len ≤ c ∧ c ≤ maxLen ∧ KA w base w.heap.size f a f.len ∧ SepA w bk g a f.len ∧ (blksA g bk).Nodup ∧ (∀ x ∈ blksA g bk, base ≤ x ∧ x < w.heap.size) ∧ bk.size = f.size
theorem CopX.setCell {w : World} {base c g g' : Nat} {f bk : Fo} {a : Option Addr} (h : CopX w base f a c bk g) (hg : g' < base) (i : Nat) (u : Value) : CopX (w.setCell ⟨g', i, none⟩ u) base f a c bk g := by
  obtain ⟨h1, h2, h3, h4, h5, h6, h7⟩ := h
  have hsz : (w.setCell ⟨g', i, none⟩ u).heap.size = w.heap.size := by simp [World.setCell]
  refine ⟨h1, h2, (h3.setCell (.inl hg) i u).more (Nat.le_refl _) (by omega), h4.keep fun x hx _ => Below.heap_setCell w _ _ x (by have := h6 x hx; show x ≠ g'; omega), h5, fun x hx => ⟨(h6 x hx).1, by rw [hsz]; exact (h6 x hx).2⟩, h7⟩
theorem CopX.mono {w : World} {base base' c g : Nat} {f bk : Fo} {a : Option Addr} (h : CopX w base f a c bk g) (hb : base' ≤ base) : CopX w base' f a c bk g := by
  obtain ⟨h1, h2, h3, h4, h5, h6, h7⟩ := h
  exact ⟨h1, h2, h3.more hb (Nat.le_refl _), h4, h5, fun x hx => ⟨Nat.le_trans hb (h6 x hx).1, (h6 x hx).2⟩, h7⟩
theorem OwnB.form (h : OwnB w base v f bk) : ∃ a c g, v = .slice a f.len c ∧ CopX w base f a c bk g := by
  obtain ⟨a, c, rfl, h8, h9, h10⟩ := h.own.form
  obtain ⟨xs, h1, h2, h3, h4, h5, h6, h7⟩ := h
  rcases h1.2 with ⟨e, h0⟩ | ⟨g, cap, cur, e, hb, hg, hc, hm, hcs, _⟩
  · refine ⟨a, c, 0, rfl, h8, h9, h10, ⟨h4, fun hn => absurd hn (by omega)⟩, ?_, ?_, h5⟩
    · unfold blksA; rw [if_pos (by omega)]; exact List.nodup_nil
    · unfold blksA; rw [if_pos (by omega)]; intro x hx; simp at hx
  · simp only [Value.slice.injEq] at e
    obtain ⟨rfl, -, rfl⟩ := e
    refine ⟨_, c, g, rfl, h8, h9, h10, ⟨h4, fun hn => ⟨rfl, ⟨cur, hg, by rw [hcs]; exact Nat.mul_le_mul_right _ hc⟩, rowB_sep h3 fun j u hu => ?_⟩⟩, ?_, ?_, h5⟩
    · have := World.ownsRow.cells h1 (g := g) rfl j u hu
      rw [add_none] at this
      rwa [show 0 * 3 + j = 0 + j from by omega]
    · unfold blksA
      by_cases h0 : bk.len = 0
      · rw [if_pos h0]; exact List.nodup_nil
      · rw [if_neg h0]; exact List.nodup_cons.2 ⟨fun hx => (h7 g hx).2.2 rfl, h6⟩
    · intro x hx
      unfold blksA at hx
      by_cases h0 : bk.len = 0
      · rw [if_pos h0] at hx; simp at hx
      · rw [if_neg h0] at hx
        rcases List.mem_cons.1 hx with rfl | hx
        · exact ⟨hb, blk_lt hg⟩
        · exact ⟨(h7 x hx).1, (h7 x hx).2.1⟩
end
/-- one more node -/
theorem wp_append_bk {w : World} {o : Oper} {a : Act} {K : Act → World → Prop} {Q : Exit → Act → World → Prop} (s x : Operand)
    (ho : o.op = .call { callee := .builtin .append, args := #[s, x], argTypes := #[35, 35] })
    (base : Nat) (v : Value) (f bk : Fo) (hs : a.eval s = v) (hown : OwnB w base v f bk) (g c1 : Nat) (hx : a.eval x = .slice (some ⟨g, 0, none⟩) 1 c1)
    (k : Int) (t : ByteArray) (ks : Fo) (ad : Option Addr) (c L1 : Nat) (bk1 : Fo) (g1 : Nat) {T : TypeId} (hbx : w.heap[g]? = some (.cells #[.int .i64 k, .string t, .slice ad ks.len c] T (0, 0))) (hc : ks.len ≤ c) (hk : KA w L1 w.heap.size ks ad ks.len) (hL : base ≤ L1) (hown1 : ∀ g, v.ownBlock = some g → g < L1) (hown2 : ∀ x ∈ bk.blks, x < L1)
    (hsep : SepA w bk1 g1 ad ks.len) (hnd : (blksA g1 bk1).Nodup) (hin : ∀ x ∈ blksA g1 bk1, L1 ≤ x ∧ x < w.heap.size) (hz : bk1.size = ks.size)
    (h63 : f.len ≤ 1000000000) (hbase : base ≤ w.heap.size)
    (h : ∀ g cap w', OwnB w' base (.slice (some ⟨g, 0, none⟩) (f.len + 1) cap) (f.snoc k t ks) (bk.snoc (g1 : Int) .empty bk1) → w.grownBy w' v.ownBlock → g < w'.heap.size → base ≤ g → K (a.put o.dst (.slice (some ⟨g, 0, none⟩) (f.len + 1) cap)) w') :
    Oper.wp Try.prog o a w K Q := by
  obtain ⟨i, hi, hz0, hz1, hz2⟩ := info_parts expr_info3
  obtain ⟨xs, h1, h2, h3, h4, h5, h6, h7⟩ := hown
  refine wp_append_at s x 35 ho base 37 i _ 3 48 exprs_under hi hz0 hz1 hz2 rfl (by decide) v f.len xs hs h1 ⟨g, 0, none⟩ 1 c1 [.int .i64 k, .string t, .slice ad ks.len c] hx rfl ?_ (by simp [Value.oneCell']) (by simp only [maxLen]; omega) (by omega) hbase fun v' w' h8 h9 h10 => ?_
  · intro j u hu
    rw [add_none, cell_of_row _ _ _ _ _ _ hbx]
    simpa using hu
  · have h11 : RowT w' base w'.heap.size v'.ownBlock (f.snoc k t ks) (xs ++ [.int .i64 k, .string t, .slice ad ks.len c]) := by
      refine rowT_keep (Nat.le_refl _) h9.size (fun g e => ?_) (fun p h4 h5 h6 => World.cell?_of_block (h9.block p.block h5 (fun e => h6 e.symm))) (rowT_snoc (k := k) (s := t) hc hk hL (Nat.le_refl _) (fun g hg => .inl (hown1 g hg)) h2)
      rcases h10 with ho | ho
      · exact .inl (ho ▸ e)
      · exact .inr (.inr (ho g e))
    have h12 : RowB w' (bk.snoc (g1 : Int) .empty bk1) (xs ++ [.int .i64 k, .string t, .slice ad ks.len c]) := by
      have h13 := rowB_snoc (x := .int .i64 k) (y := .string t) (c := c) (g := g1) (a := ad) (ks := bk1) (by rw [hsep.1]; exact hsep) h3
      rw [hsep.1] at h13
      refine rowB_keep (fun x hx hxs => h9.block x hxs (fun e => ?_)) h13
      rw [blks_snoc] at hx
      rcases List.mem_append.1 hx with hx | hx
      · exact (h7 x hx).2.2 e.symm
      · have := hin x hx; have := hown1 x e.symm; omega
    have h14 : w'.ownsRow base 37 3 v' (f.snoc k t ks).len (xs ++ [.int .i64 k, .string t, .slice ad ks.len c]) := by rw [Fo.snoc_len]; exact h8
    obtain ⟨g', cap', rfl, h15, h16⟩ := World.ownsRow.form h8 (by omega)
    refine h g' cap' w' ⟨_, h14, h11, h12, by rw [Fo.snoc_len, Fo.snoc_len, h4], by rw [Fo.snoc_size, Fo.snoc_size, h5, hz], ?_, fun x hx => ?_⟩ h9 h16 h15
    · rw [blks_snoc]
      exact List.nodup_append.2 ⟨h6, hnd, fun x hx y hy e => by have := hown2 x hx; have := hin y hy; omega⟩
    · rw [blks_snoc] at hx
      have hxs : base ≤ x ∧ x < w.heap.size ∧ v.ownBlock ≠ some x := by
        rcases List.mem_append.1 hx with hx | hx
        · exact h7 x hx
        · have h17 := hin x hx
          exact ⟨by omega, h17.2, fun e => by have := hown1 x e; omega⟩
      refine ⟨hxs.1, Nat.lt_of_lt_of_le hxs.2.1 h9.size, fun e => ?_⟩
      rcases h10 with ho | ho
      · exact hxs.2.2 (ho ▸ e)
      · have := ho x e; omega

theorem wpList_append_bk {w : World} {ops : Array Oper} {rest : List Oper} {o : Oper} {a : Act} {Q : Exit → Act → World → Prop} (hgd : o.guard = none) (s x : Operand)
    (ho : o.op = .call { callee := .builtin .append, args := #[s, x], argTypes := #[35, 35] })
    (base : Nat) (v : Value) (f bk : Fo) (hs : a.eval s = v) (hown : OwnB w base v f bk) (g c1 : Nat) (hx : a.eval x = .slice (some ⟨g, 0, none⟩) 1 c1)
    (k : Int) (t : ByteArray) (ks : Fo) (ad : Option Addr) (c L1 : Nat) (bk1 : Fo) (g1 : Nat) {T : TypeId} (hbx : w.heap[g]? = some (.cells #[.int .i64 k, .string t, .slice ad ks.len c] T (0, 0))) (hc : ks.len ≤ c) (hk : KA w L1 w.heap.size ks ad ks.len) (hL : base ≤ L1) (hown1 : ∀ g, v.ownBlock = some g → g < L1) (hown2 : ∀ x ∈ bk.blks, x < L1)
    (hsep : SepA w bk1 g1 ad ks.len) (hnd : (blksA g1 bk1).Nodup) (hin : ∀ x ∈ blksA g1 bk1, L1 ≤ x ∧ x < w.heap.size) (hz : bk1.size = ks.size)
    (h63 : f.len ≤ 1000000000) (hbase : base ≤ w.heap.size)
    (h : ∀ g cap w', OwnB w' base (.slice (some ⟨g, 0, none⟩) (f.len + 1) cap) (f.snoc k t ks) (bk.snoc (g1 : Int) .empty bk1) → w.grownBy w' v.ownBlock → g < w'.heap.size → base ≤ g → wpList Try.prog ops Q rest (a.put o.dst (.slice (some ⟨g, 0, none⟩) (f.len + 1) cap)) w') :
    wpList Try.prog ops Q (o :: rest) a w :=
  wpList_plain hgd fun _ hK => wp_append_bk s x ho base v f bk hs hown g c1 hx k t ks ad c L1 bk1 g1 hbx hc hk hL hown1 hown2 hsep hnd hin hz h63 hbase fun g cap w' h1 h2 h3 h4 => hK _ _ (h g cap w' h1 h2 h3 h4)
theorem bxE_three {w : World} {g : Nat} {k : Int} {s : ByteArray} {v : Value} {T : TypeId} (h : BxE w g k s v T) : w.cell? ⟨g, 0, none⟩ = some (.int .i64 k) ∧ w.cell? ⟨g, 1, none⟩ = some (.string s) ∧ w.cell? ⟨g, 2, none⟩ = some v := ⟨h.c0, h.c1, h.c2⟩
/-- what copyExpr leaves -/
def CopP (k : Int) (s : ByteArray) (ks : Fo) (w : World) (e : Ending) (w' : World) : Prop := ∃ a c bk g, e = .returned (.agg #[.int .i64 k, .string s, .slice a ks.len c]) ∧ CopX w' w.heap.size ks a c bk g ∧ Below w.heap.size w w'
/-- what copyList leaves -/
def CopL (ks : Fo) (w : World) (e : Ending) (w' : World) : Prop := ∃ a c bk g, e = .returned (.slice a ks.len c) ∧ CopX w' w.heap.size ks a c bk g ∧ Below w.heap.size w w'

set_option maxRecDepth 100000 in
set_option maxHeartbeats 4000000 in
theorem cpl_of (ks : Fo) (hN2 : ks.size ≤ 1048576) (ih : ∀ k' s' ks', Fo.size ks' < ks.size → ∀ (a : Option Addr) (n c : Nat) (w : World), KA w 0 w.heap.size ks' a n → n ≤ c → Calls Try.prog 35 #[.agg #[.int .i64 k', .string s', .slice a n c]] w (CopP k' s' ks' w))
    (a : Option Addr) (n c : Nat) (w : World) (hk : KA w 0 w.heap.size ks a n) (hnc : n ≤ c) (fv : Value) (hfv : fv = .func (.func 35) #[] #[]) :
    Calls Try.prog 57 #[.slice a n c, fv] w (CopL ks w) := by
  have hn : n ≤ 1048576 := by have := Fo.size_len ks; have := hk.1; omega
  go_enter Try.func57, Try.ntmps57
  subst hfv
  go_wp2_with fail
  go_loopw [5, 10] (fun v i wr => ∃ (j : Nat) (f bk : Fo), j ≤ n ∧ i = .int .i64 j ∧ f.len = j ∧ (∀ i, i < j → f.get i = ks.get i) ∧ OwnB wr w.heap.size v f bk ∧ Below w.heap.size w wr) (fun _ i _ => n - (intOf i).toNat)
  case atStart => exact ⟨0, .nil, .nil, Nat.zero_le _, rfl, rfl, fun i h => absurd h (by omega), OwnB.nil _ _, Below.refl _ _⟩
  case round =>
    obtain ⟨j, f, bk, hj, rfl, hfl, hget, hown, hB⟩ := hrel
    by_cases hlt : j < n
    · obtain ⟨b, off, k3, s3, ks3, a3, n3, c3, rfl, _, hb3, hg3, hc1, hc2, hc3, hcap3, hk3⟩ := (hk.below hB).get hlt
      have hjj : (j : Int) < (n : Int) := by omega
      have hj0 : (0 : Int) ≤ (j : Int) := by omega
      have hsz3 := Fo.get_size hg3
      have hn3 := hk3.1
      have Hown := Lib.hid hown
      have Hg3 := Lib.hid hg3
      have Hk3 := Lib.hid hk3
      have hbl : b < wr.heap.size := by have := hB.size; omega
      clear hown hg3 hk3
      go_wp2_with fail
      refine (ih k3 s3 ks3 (by omega) a3 n3 c3 _ ((Hk3.out.more (Nat.le_refl _) hB.size).alloc (Nat.le_refl _) _ |>.more (Nat.le_refl _) (by simp)) hcap3).mono ?_
      rintro e w4 ⟨a4, c4, bk4, g4, rfl, ⟨hl4, hm4, hk4, hs4, hnd4, hin4, hz4⟩, hB4⟩
      have hBx := (Below.refl wr.heap.size wr).alloc (Nat.le_refl _) (.cells #[.int .i64 k3, .string s3, .slice a3 n3 c3] 37)
      have B4 := hBx.trans (hB4.mono hBx.size)
      have hs4w := hB4.size
      simp only [World.size_alloc] at hk4 hin4 hs4w
      have Hown4 := Lib.hid (Hown.out.below B4)
      have hlo := Hown.out.own.lt
      have hin := Hown.out.bound
      subst hn3
      clear hc1 hc2 hc3
      go_wp2_with (at_builtin; refine wpList_append_bk rfl _ _ rfl w.heap.size _ f bk rfl (Hown4.out.alloc _) w4.heap.size 1 rfl k3 s3 ks3 a4 c4 (wr.heap.size + 1) bk4 g4 (heap_alloc_new w4 _) hl4 ((hk4.alloc (Nat.le_refl _) _).more (Nat.le_refl _) (by simp)) (by have := hB.size; omega) (fun g hg => by have := (hlo g hg).2; omega) (fun x hx => by have := hin x hx; omega) (hs4.keep fun x _ hx => Below.heap_alloc w4 _ x hx) hnd4 (fun x hx => ⟨(hin4 x hx).1, by have := (hin4 x hx).2; simp; omega⟩) hz4 (by omega) (by have := hB.size; simp; omega) ?_; intro g6 cap6 w6 hown6 hgrow6 hlt6 hbg6)
      have hB6 : Below w.heap.size w w6 := ((hB.trans (B4.mono hB.size)).alloc (by have := hB.size; omega) _).grown hgrow6 (by have := hB.size; simp; omega) (fun g' e => by have := (hlo _ e).1; omega)
      rw [hfl] at hown6
      exact ⟨⟨j + 1, _, _, by omega, by go_num, by rw [Fo.snoc_len]; omega, Fo.snoc_drop Hg3.out f hget hfl, hown6, hB6⟩, by simp [intOf]; omega⟩
    · obtain rfl : f = ks := Fo.ext fun i => by
        by_cases hi : i < j
        · exact hget i hi
        · have h1 : f.get i = none := by
            cases hh : f.get i with
            | none => rfl
            | some x => have := Fo.get_lt hh; omega
          have h2 : ks.get i = none := by
            cases hh : ks.get i with
            | none => rfl
            | some x => have := Fo.get_lt hh; have := hk.1; omega
          rw [h1, h2]
      obtain ⟨av, dv, gv, rfl, hcv⟩ := hown.form
      have hjj : ¬ (j : Int) < (n : Int) := by omega
      have Hcv := Lib.hid hcv
      clear hown hcv
      go_wp2_with fail
      go_ret
      exact ⟨av, dv, bk, gv, by rw [hfl]; rfl, Hcv.out, hB⟩

set_option maxHeartbeats 1000000 in
theorem cpx_of (k : Int) (s : ByteArray) (ks : Fo) (hN2 : ks.size ≤ 1048576) (ih : ∀ k' s' ks', Fo.size ks' < ks.size → ∀ (a : Option Addr) (n c : Nat) (w : World), KA w 0 w.heap.size ks' a n → n ≤ c → Calls Try.prog 35 #[.agg #[.int .i64 k', .string s', .slice a n c]] w (CopP k' s' ks' w))
    (a : Option Addr) (n c : Nat) (w : World) (hk : KA w 0 w.heap.size ks a n) (hnc : n ≤ c) :
    Calls Try.prog 35 #[.agg #[.int .i64 k, .string s, .slice a n c]] w (CopP k s ks w) := by
  have hB0 := ((Below.refl w.heap.size w).alloc (Nat.le_refl _) (.cells #[.int .i64 k, .string s, .slice a n c] 37)).alloc (by simp) (.cells #[.int .i64 0, .string .empty, .slice none 0 0] 37)
  have hP0 := (BxE.new w k s (.slice a n c) 37).alloc (.cells #[.int .i64 0, .string .empty, .slice none 0 0] 37)
  have hE0 := BxE.new (w.alloc (.cells #[.int .i64 k, .string s, .slice a n c] 37)) 0 .empty (.slice none 0 0) 37
  simp only [World.size_alloc] at hE0
  have hD := (Below.refl ((w.alloc (.cells #[.int .i64 k, .string s, .slice a n c] 37)).alloc (.cells #[.int .i64 0, .string .empty, .slice none 0 0] 37)).heap.size ((w.alloc (.cells #[.int .i64 k, .string s, .slice a n c] 37)).alloc (.cells #[.int .i64 0, .string .empty, .slice none 0 0] 37))).drew
  have hBD := hB0.trans (hD.mono hB0.size)
  have Hl := Lib.hid (cpl_of ks hN2 ih a n c _ (hk.next hBD) hnc _ rfl)
  have hPD := hP0.next hD
  have hED := hE0.next hD
  have HC0 := Lib.hid (And.intro hPD.c0 (And.intro hPD.c1 hPD.c2))
  clear ih hk
  go_enter Try.func35, Try.ntmps35
  go_wp2_with fail
  go_region_held3 (fun w' => w'.cell? ⟨w.heap.size, 0, none⟩ = some (.int .i64 k) ∧ w'.cell? ⟨w.heap.size, 1, none⟩ = some (.string s) ∧ w'.cell? ⟨w.heap.size, 2, none⟩ = some (.slice a n c)) (first | exact HC0.out | exact HC1.out | exact bxE_three (((hP1.other (by omega) 0 _).other (by omega) 1 _).other (by omega) 2 _))
    ((first
      | (go_at_call 57; refine Hl.out.mono ?_; rintro e v1 ⟨a4, c4, bk4, g4, rfl, hcx, hC1⟩; have hP1 := hPD.next hC1; have hE1 := hED.next hC1; have HC1 := Lib.hid (And.intro hP1.c0 (And.intro hP1.c1 hP1.c2)); obtain ⟨y0, y1, y2, z0, z1, z2, hel⟩ := hE1.facts)))
  all_goals go_wp2_with fail
  all_goals
    have hcx' := ((hcx.setCell (g' := w.heap.size + 1) (by simp) 0 (.int .i64 k)).setCell (g' := w.heap.size + 1) (by simp) 1 (.string s)).setCell (g' := w.heap.size + 1) (by simp) 2 (.slice a4 ks.len c4)
    have B1 := hBD.trans (hC1.mono hBD.size)
    refine bodyPost_ret (v := .agg #[.int .i64 k, .string s, .slice a4 ks.len c4]) (by simp [results, Try.results35, go_sem, *]) rfl ?_
    exact ⟨a4, c4, bk4, g4, rfl, hcx'.mono (by simp; omega), ((B1.setCell (Nat.le_succ _) _).setCell (Nat.le_succ _) _).setCell (Nat.le_succ _) _⟩
theorem cpx_all (N : Nat) (hN : N ≤ 1048576) : ∀ (k : Int) (s : ByteArray) (ks : Fo), ks.size ≤ N → ∀ (a : Option Addr) (n c : Nat) (w : World), KA w 0 w.heap.size ks a n → n ≤ c → Calls Try.prog 35 #[.agg #[.int .i64 k, .string s, .slice a n c]] w (CopP k s ks w) := by
  induction N with
  | zero => exact fun k s ks h => cpx_of k s ks (by omega) fun k' s' ks' h' => absurd h' (by omega)
  | succ N ih => exact fun k s ks h => cpx_of k s ks (by omega) fun k' s' ks' h' => ih (by omega) k' s' ks' (by omega)
end Go.Proofs.Ytgjanokaoiaaeaa
