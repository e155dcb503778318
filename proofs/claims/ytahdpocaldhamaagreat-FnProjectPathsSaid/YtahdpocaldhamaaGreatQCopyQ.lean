/-
  The program's copies of lists of rules and of projects: rows that share no block.
-/
import Derived.Test.YtahdpocaldhamaaGreatGone
namespace Go.Proofs.YtahdpocaldhamaaGreat
set_option linter.unusedVariables false
set_option linter.unusedSimpArgs false
open Go.RowKit

/-- the cells of a row of rules whose operands have rows of their own -/
def RowX (w : World) (L B : Nat) (og : Option Nat) : List Ru → List (Nat × Fo) → List Value → Prop
  | [], [], xs => xs = []
  | x :: rs, y :: bs, xs => (∃ a c ys, xs = .string x.1 :: .int .i64 x.2.1 :: .string x.2.2.1 :: .slice a x.2.2.2.len c :: ys ∧ x.2.2.2.len ≤ c ∧ (∃ L1 B1, KA w L1 B1 x.2.2.2 a x.2.2.2.len ∧ L ≤ L1 ∧ B1 ≤ B ∧ ∀ g, og = some g → g < L1 ∨ B1 ≤ g) ∧ SepA w y.2 y.1 a x.2.2.2.len ∧ y.2.size = x.2.2.2.size ∧ RowX w L B og rs bs ys)
  | _, _, _ => False
section
variable {w w' : World} {L L' B B' b : Nat} {og og' : Option Nat} {rs : List Ru} {bs : List (Nat × Fo)} {xs : List Value}
theorem rowX_len : ∀ {rs : List Ru} {bs : List (Nat × Fo)} {xs : List Value}, RowX w L B og rs bs xs → xs.length = rs.length * 4 ∧ bs.length = rs.length
  | [], [], _, h => by simp only [RowX] at h; subst h; exact ⟨rfl, rfl⟩
  | x :: rs, y :: bs, _, ⟨a, c, ys, e, _, _, _, _, h⟩ => by subst e; have := rowX_len h; simp only [List.length_cons, this.1, this.2]; exact ⟨by omega, trivial⟩
  | [], _ :: _, _, h => absurd h (by simp [RowX])
  | _ :: _, [], _, h => absurd h (by simp [RowX])
theorem rowX_keep (hL : L' ≤ L) (hB : B ≤ B') (ho : ∀ g, og' = some g → og = some g ∨ g < L ∨ B ≤ g) (hk : ∀ p : Addr, L ≤ p.block → p.block < B → og ≠ some p.block → w'.cell? p = w.cell? p) : ∀ {rs : List Ru} {bs : List (Nat × Fo)} {xs : List Value}, (∀ x ∈ rblks bs, x < w.heap.size → w'.heap[x]? = w.heap[x]?) → RowX w L B og rs bs xs → RowX w' L' B' og' rs bs xs
  | [], [], _, _, h => h
  | x :: rs, y :: bs, _, hs, ⟨a, c, ys, e, hc, ⟨L1, B1, h1, h2, h3, h4⟩, h5, h6, h⟩ =>
    ⟨a, c, ys, e, hc, ⟨L1, B1, h1.keep (Nat.le_refl _) (Nat.le_refl _) fun p h5 h6 => hk p (by omega) (by omega) (fun e => by have := h4 _ e; omega), by omega, by omega, fun g hg => by
      rcases ho g hg with h | h | h
      · exact h4 g h
      · exact .inl (by omega)
      · exact .inr (by omega)⟩, h5.keep fun z hz => hs z (List.mem_append_left _ hz), h6, rowX_keep hL hB ho hk (fun z hz => hs z (List.mem_append_right _ hz)) h⟩
  | [], _ :: _, _, _, h => absurd h (by simp [RowX])
  | _ :: _, [], _, _, h => absurd h (by simp [RowX])
theorem rowX_snoc {a : Option Addr} {c L1 B1 : Nat} {t s : ByteArray} {k : Int} {ks : Fo} {g : Nat} {bk : Fo} (hc : ks.len ≤ c) (h1 : KA w L1 B1 ks a ks.len) (h2 : L ≤ L1) (h3 : B1 ≤ B) (h4 : ∀ g, og = some g → g < L1 ∨ B1 ≤ g) (h5 : SepA w bk g a ks.len) (h6 : bk.size = ks.size) :
    ∀ {rs : List Ru} {bs : List (Nat × Fo)} {xs : List Value}, RowX w L B og rs bs xs → RowX w L B og (rs ++ [(t, k, s, ks)]) (bs ++ [(g, bk)]) (xs ++ [.string t, .int .i64 k, .string s, .slice a ks.len c])
  | [], [], _, h => by simp only [RowX] at h; subst h; exact ⟨a, c, [], rfl, hc, ⟨L1, B1, h1, h2, h3, h4⟩, h5, h6, rfl⟩
  | x :: rs, y :: bs, _, ⟨a', c', ys, e, hc', h7, h8, h9, h⟩ => by subst e; exact ⟨a', c', _, rfl, hc', h7, h8, h9, rowX_snoc hc h1 h2 h3 h4 h5 h6 h⟩
  | [], _ :: _, _, h => absurd h (by simp [RowX])
  | _ :: _, [], _, h => absurd h (by simp [RowX])
theorem rowX_get : ∀ {rs : List Ru} {bs : List (Nat × Fo)} {xs : List Value} {j : Nat} {x : Ru} {y : Nat × Fo}, RowX w L B og rs bs xs → rs[j]? = some x → bs[j]? = some y →
    ∃ a c, xs[j * 4]? = some (.string x.1) ∧ xs[j * 4 + 1]? = some (.int .i64 x.2.1) ∧ xs[j * 4 + 2]? = some (.string x.2.2.1) ∧ xs[j * 4 + 3]? = some (.slice a x.2.2.2.len c) ∧ x.2.2.2.len ≤ c ∧ KA w L B x.2.2.2 a x.2.2.2.len ∧ SepA w y.2 y.1 a x.2.2.2.len ∧ y.2.size = x.2.2.2.size
  | x :: rs, y :: bs, _, 0, _, _, ⟨a, c, ys, e, hc, ⟨L1, B1, h1, h2, h3, h4⟩, h5, h6, h⟩, hx, hy => by
    simp only [List.getElem?_cons_zero, Option.some.injEq] at hx hy
    subst hx hy e
    exact ⟨a, c, rfl, rfl, rfl, rfl, hc, h1.more h2 h3, h5, h6⟩
  | x :: rs, y :: bs, _, j + 1, _, _, ⟨a, c, ys, e, hc, _, h5, h6, h⟩, hx, hy => by
    subst e
    have := rowX_get (j := j) h (by simpa using hx) (by simpa using hy)
    simpa only [show (j + 1) * 4 = j * 4 + 4 from by omega, show j * 4 + 4 + 1 = (j * 4 + 1) + 4 from by omega, show j * 4 + 4 + 2 = (j * 4 + 2) + 4 from by omega, show j * 4 + 4 + 3 = (j * 4 + 3) + 4 from by omega, List.getElem?_cons_succ] using this
  | [], _, _, _, _, _, _, hx, _ => by simp at hx
  | _ :: _, [], _, _, _, _, h, _, _ => absurd h (by simp [RowX])
theorem rblks_snoc (g : Nat) (bk : Fo) (bs : List (Nat × Fo)) : rblks (bs ++ [(g, bk)]) = rblks bs ++ blksA g bk := by simp [rblks]
end
/-- a list of rules of one's own whose rows share no block -/
def OwnQ (w : World) (base : Nat) (v : Value) (rs : List Ru) (bs : List (Nat × Fo)) : Prop := ∃ xs, w.ownsRow base 57 4 v rs.length xs ∧ RowX w base w.heap.size v.ownBlock rs bs xs ∧ (rblks bs).Nodup ∧ ∀ x ∈ rblks bs, base ≤ x ∧ x < w.heap.size ∧ v.ownBlock ≠ some x
theorem rules_under : Tryz.prog.underlying 24 = some (.slice 57) := by kernel_rfl
section
variable {w w' : World} {base base' : Nat} {v v' : Value} {rs : List Ru} {bs : List (Nat × Fo)} {r : Option Nat}
theorem OwnQ.lt (h : OwnQ w base v rs bs) : ∀ g, v.ownBlock = some g → base ≤ g ∧ g < w.heap.size := by
  obtain ⟨xs, h1, _⟩ := h
  exact World.ownsRow.lt h1
theorem OwnQ.bound (h : OwnQ w base v rs bs) : ∀ x ∈ rblks bs, x < w.heap.size := by
  obtain ⟨xs, _, _, _, h7⟩ := h
  exact fun x hx => (h7 x hx).2.1
theorem OwnQ.nil (w : World) (base : Nat) : OwnQ w base (.slice none 0 0) [] [] := ⟨[], World.ownsRow_nil _ _ _ _, rfl, List.nodup_nil, fun x hx => by simp [rblks] at hx⟩
theorem OwnQ.grown (h : OwnQ w base v rs bs) (hg : w.grownBy w' r) (hr : ∀ g, r = some g → g < base ∨ w.heap.size ≤ g) : OwnQ w' base v rs bs := by
  obtain ⟨xs, h1, h2, h6, h7⟩ := h
  refine ⟨xs, World.ownsRow.kept h1 hg ?_, rowX_keep (Nat.le_refl _) hg.size (fun g hg => .inl hg) (fun p h3 h4 _ => World.cell?_of_block (hg.block p.block h4 (fun e => by have := hr _ e.symm; omega))) (fun x hx hxs => hg.block x hxs (fun e => by have := hr _ e.symm; have := h7 x hx; omega)) h2, h6, fun x hx => ⟨(h7 x hx).1, Nat.lt_of_lt_of_le (h7 x hx).2.1 hg.size, (h7 x hx).2.2⟩⟩
  cases hv : v.ownBlock with
  | none => exact .inl rfl
  | some g => exact .inr fun e => by have := World.ownsRow.lt h1 g hv; have := hr g e.symm; omega
theorem OwnQ.alloc (h : OwnQ w base v rs bs) (o : Obj) : OwnQ (w.alloc o) base v rs bs := h.grown (World.grownBy_alloc w o none) fun g e => by cases e
theorem OwnQ.below (h : OwnQ w base v rs bs) (hb : Below w.heap.size w w') : OwnQ w' base v rs bs := h.grown (r := none) ⟨hb.os, hb.tape, hb.output, hb.size, fun i hi _ => hb.block i hi⟩ fun g e => by cases e
theorem OwnQ.setCell (h : OwnQ w base v rs bs) {g : Nat} (hg : g < base) (i : Nat) (u : Value) : OwnQ (w.setCell ⟨g, i, none⟩ u) base v rs bs :=
  h.grown (r := some g) (grown_set (World.grownBy.refl w _) (.inl rfl) u) fun j e => by injection e with e; omega
theorem OwnQ.mono (h : OwnQ w base v rs bs) (hb : base' ≤ base) : OwnQ w base' v rs bs := by
  obtain ⟨xs, h1, h2, h6, h7⟩ := h
  exact ⟨xs, World.ownsRow.mono h1 hb, rowX_keep hb (Nat.le_refl _) (fun g hg => .inl hg) (fun _ _ _ _ => rfl) (fun _ _ _ => rfl) h2, h6, fun x hx => ⟨Nat.le_trans hb (h7 x hx).1, (h7 x hx).2⟩⟩
/-- what a copied list of rules is told of -/
def CopQ (w : World) (base : Nat) (rs : List Ru) (a : Option Addr) (c : Nat) (bs : List (Nat × Fo)) (g : Nat) : Prop := RuAt w base w.heap.size rs a rs.length ∧ SepRA w bs g a rs.length ∧ (rblksA g bs).Nodup ∧ (∀ x ∈ rblksA g bs, base ≤ x ∧ x < w.heap.size) ∧ bsz bs = ruMk rs
theorem rowX_mk {L B : Nat} {og : Option Nat} : ∀ {rs : List Ru} {bs : List (Nat × Fo)} {xs : List Value}, RowX w L B og rs bs xs → bsz bs = ruMk rs
  | [], [], _, _ => rfl
  | x :: rs, y :: bs, _, ⟨a, c, ys, e, _, _, _, h6, h⟩ => by simp only [bsz, ruMk, rowX_mk h, h6]
  | [], _ :: _, _, h => absurd h (by simp [RowX])
  | _ :: _, [], _, h => absurd h (by simp [RowX])
theorem OwnQ.form (h : OwnQ w base v rs bs) : ∃ a c g, v = .slice a rs.length c ∧ CopQ w base rs a c bs g := by
  obtain ⟨xs, h1, h2, h6, h7⟩ := h
  obtain ⟨hl1, hl2⟩ := rowX_len h2
  rcases h1.2 with ⟨rfl, h0⟩ | ⟨g, cap, cur, rfl, hb, hg, hc, hm, hcs, _⟩
  · refine ⟨none, 0, 0, by rw [h0], ⟨rfl, fun h => absurd h (by omega)⟩, ⟨hl2, fun hn => absurd hn (by omega)⟩, ?_, ?_, rowX_mk h2⟩
    · unfold rblksA; rw [if_pos (by omega)]; exact List.nodup_nil
    · unfold rblksA; rw [if_pos (by omega)]; intro x hx; simp at hx
  · have hcell : ∀ j u, xs[j]? = some u → w.cell? ⟨g, j, none⟩ = some u := fun j u hu => by
      have := World.ownsRow.cells h1 (g := g) rfl j u hu
      rwa [add_none, Nat.zero_add] at this
    refine ⟨_, cap, g, rfl, ⟨rfl, fun _ => ⟨g, 0, rfl, hb, blk_lt hg, fun j t k s ks hj => ?_⟩⟩, ⟨hl2, fun hn => ⟨rfl, ⟨cur, hg, by rw [hcs]; exact Nat.mul_le_mul_right _ hc⟩, fun i y hy => ?_⟩⟩, ?_, ?_, rowX_mk h2⟩
    · have hjl := (List.getElem?_eq_some_iff.1 hj).1
      obtain ⟨a, c, e0, e1, e2, e3, hc', hk, _, _⟩ := rowX_get h2 hj (List.getElem?_eq_getElem (by omega))
      rw [Nat.zero_add]
      exact ⟨hcell _ _ e0, hcell _ _ e1, hcell _ _ e2, a, _, c, hcell _ _ e3, hc', hk⟩
    · have hil := (List.getElem?_eq_some_iff.1 hy).1
      obtain ⟨a, c, _, _, _, e3, _, _, hs, _⟩ := rowX_get h2 (List.getElem?_eq_getElem (show i < rs.length by omega)) hy
      have := hs.1
      rw [← this] at e3 hs
      exact ⟨a, c, hcell _ _ e3, hs⟩
    · unfold rblksA
      by_cases h0 : bs.length = 0
      · rw [if_pos h0]; exact List.nodup_nil
      · rw [if_neg h0]; exact List.nodup_cons.2 ⟨fun hx => (h7 g hx).2.2 rfl, h6⟩
    · intro x hx
      unfold rblksA at hx
      by_cases h0 : bs.length = 0
      · rw [if_pos h0] at hx; simp at hx
      · rw [if_neg h0] at hx
        rcases List.mem_cons.1 hx with rfl | hx
        · exact ⟨hb, blk_lt hg⟩
        · exact ⟨(h7 x hx).1, (h7 x hx).2.1⟩
end
theorem rule_info4 : (Tryz.prog.info? 57).map (fun i => (i.zero, i.size, i.bytes)) = some (some (.agg #[.string .empty, .int .i64 0, .string .empty, .slice none 0 0]), 4, 64) := by kernel_rfl
/-- one more rule -/
theorem wp_append_rq {w : World} {o : Oper} {a : Act} {K : Act → World → Prop} {Q : Exit → Act → World → Prop} (s x : Operand)
    (ho : o.op = .call { callee := .builtin .append, args := #[s, x], argTypes := #[24, 24] })
    (base : Nat) (v : Value) (rs : List Ru) (bs : List (Nat × Fo)) (hs : a.eval s = v) (hown : OwnQ w base v rs bs) (g c1 : Nat) (hx : a.eval x = .slice (some ⟨g, 0, none⟩) 1 c1)
    (t : ByteArray) (k : Int) (y : ByteArray) (ks : Fo) (ad : Option Addr) (c L1 : Nat) (bk1 : Fo) (g1 : Nat) {T : TypeId} (hbx : w.heap[g]? = some (.cells #[.string t, .int .i64 k, .string y, .slice ad ks.len c] T (0, 0))) (hc : ks.len ≤ c) (hk : KA w L1 w.heap.size ks ad ks.len) (hL : base ≤ L1) (hown1 : ∀ g, v.ownBlock = some g → g < L1) (hown2 : ∀ x ∈ rblks bs, x < L1)
    (hsep : SepA w bk1 g1 ad ks.len) (hnd : (blksA g1 bk1).Nodup) (hin : ∀ x ∈ blksA g1 bk1, L1 ≤ x ∧ x < w.heap.size) (hz : bk1.size = ks.size)
    (h63 : rs.length ≤ 1000000000) (hbase : base ≤ w.heap.size)
    (h : ∀ g cap w', OwnQ w' base (.slice (some ⟨g, 0, none⟩) (rs.length + 1) cap) (rs ++ [(t, k, y, ks)]) (bs ++ [(g1, bk1)]) → w.grownBy w' v.ownBlock → g < w'.heap.size → base ≤ g → K (a.put o.dst (.slice (some ⟨g, 0, none⟩) (rs.length + 1) cap)) w') :
    Oper.wp Tryz.prog o a w K Q := by
  obtain ⟨i, hi, hz0, hz1, hz2⟩ := info_parts rule_info4
  obtain ⟨xs, h1, h2, h6, h7⟩ := hown
  refine wp_append_at s x 24 ho base 57 i _ 4 64 rules_under hi hz0 hz1 hz2 rfl (by decide) v rs.length xs hs h1 ⟨g, 0, none⟩ 1 c1 [.string t, .int .i64 k, .string y, .slice ad ks.len c] hx rfl ?_ (by simp [Value.oneCell']) (by simp only [maxLen]; omega) (by omega) hbase fun v' w' h8 h9 h10 => ?_
  · intro j u hu
    rw [add_none, cell_of_row _ _ _ _ _ _ hbx]
    simpa using hu
  · have h11 : RowX w base w.heap.size v.ownBlock (rs ++ [(t, k, y, ks)]) (bs ++ [(g1, bk1)]) (xs ++ [.string t, .int .i64 k, .string y, .slice ad ks.len c]) :=
      rowX_snoc hc hk hL (Nat.le_refl _) (fun g hg => .inl (hown1 g hg)) hsep hz h2
    have h12 : RowX w' base w'.heap.size v'.ownBlock (rs ++ [(t, k, y, ks)]) (bs ++ [(g1, bk1)]) (xs ++ [.string t, .int .i64 k, .string y, .slice ad ks.len c]) := by
      refine rowX_keep (Nat.le_refl _) h9.size (fun g e => ?_) (fun p h4 h5 h6 => World.cell?_of_block (h9.block p.block h5 (fun e => h6 e.symm))) (fun x hx hxs => h9.block x hxs (fun e => ?_)) h11
      · rcases h10 with ho | ho
        · exact .inl (ho ▸ e)
        · exact .inr (.inr (ho g e))
      · rw [rblks_snoc] at hx
        rcases List.mem_append.1 hx with hx | hx
        · exact (h7 x hx).2.2 e.symm
        · have := hin x hx; have := hown1 x e.symm; omega
    have h14 : w'.ownsRow base 57 4 v' (rs ++ [(t, k, y, ks)]).length (xs ++ [.string t, .int .i64 k, .string y, .slice ad ks.len c]) := by rw [List.length_append]; exact h8
    obtain ⟨g', cap', rfl, h15, h16⟩ := World.ownsRow.form h8 (by omega)
    refine h g' cap' w' ⟨_, h14, h12, ?_, fun x hx => ?_⟩ h9 h16 h15
    · rw [rblks_snoc]
      exact List.nodup_append.2 ⟨h6, hnd, fun x hx y hy e => by have := hown2 x hx; have := hin y hy; omega⟩
    · rw [rblks_snoc] at hx
      have hxs : base ≤ x ∧ x < w.heap.size ∧ v.ownBlock ≠ some x := by
        rcases List.mem_append.1 hx with hx | hx
        · exact h7 x hx
        · have h17 := hin x hx
          exact ⟨by omega, h17.2, fun e => by have := hown1 x e; omega⟩
      refine ⟨hxs.1, Nat.lt_of_lt_of_le hxs.2.1 h9.size, fun e => ?_⟩
      rcases h10 with ho | ho
      · exact hxs.2.2 (ho ▸ e)
      · have := ho x e; omega
theorem wpList_append_rq {w : World} {ops : Array Oper} {rest : List Oper} {o : Oper} {a : Act} {Q : Exit → Act → World → Prop} (hgd : o.guard = none) (s x : Operand)
    (ho : o.op = .call { callee := .builtin .append, args := #[s, x], argTypes := #[24, 24] })
    (base : Nat) (v : Value) (rs : List Ru) (bs : List (Nat × Fo)) (hs : a.eval s = v) (hown : OwnQ w base v rs bs) (g c1 : Nat) (hx : a.eval x = .slice (some ⟨g, 0, none⟩) 1 c1)
    (t : ByteArray) (k : Int) (y : ByteArray) (ks : Fo) (ad : Option Addr) (c L1 : Nat) (bk1 : Fo) (g1 : Nat) {T : TypeId} (hbx : w.heap[g]? = some (.cells #[.string t, .int .i64 k, .string y, .slice ad ks.len c] T (0, 0))) (hc : ks.len ≤ c) (hk : KA w L1 w.heap.size ks ad ks.len) (hL : base ≤ L1) (hown1 : ∀ g, v.ownBlock = some g → g < L1) (hown2 : ∀ x ∈ rblks bs, x < L1)
    (hsep : SepA w bk1 g1 ad ks.len) (hnd : (blksA g1 bk1).Nodup) (hin : ∀ x ∈ blksA g1 bk1, L1 ≤ x ∧ x < w.heap.size) (hz : bk1.size = ks.size)
    (h63 : rs.length ≤ 1000000000) (hbase : base ≤ w.heap.size)
    (h : ∀ g cap w', OwnQ w' base (.slice (some ⟨g, 0, none⟩) (rs.length + 1) cap) (rs ++ [(t, k, y, ks)]) (bs ++ [(g1, bk1)]) → w.grownBy w' v.ownBlock → g < w'.heap.size → base ≤ g → wpList Tryz.prog ops Q rest (a.put o.dst (.slice (some ⟨g, 0, none⟩) (rs.length + 1) cap)) w') :
    wpList Tryz.prog ops Q (o :: rest) a w :=
  wpList_plain hgd fun _ hK => wp_append_rq s x ho base v rs bs hs hown g c1 hx t k y ks ad c L1 bk1 g1 hbx hc hk hL hown1 hown2 hsep hnd hin hz h63 hbase fun g cap w' h1 h2 h3 h4 => hK _ _ (h g cap w' h1 h2 h3 h4)
/-- what copyList of rules leaves -/
def CopRL (rs : List Ru) (w : World) (e : Ending) (w' : World) : Prop := ∃ a c bs g, e = .returned (.slice a rs.length c) ∧ CopQ w' w.heap.size rs a c bs g ∧ Below w.heap.size w w'

/-- what copyProject leaves -/
def CopPr (fs : List Fl) (rs : List Ru) (w : World) (e : Ending) (w' : World) : Prop := ∃ v a c bs g, e = .returned (.agg #[v, .slice a rs.length c]) ∧ OwnsF w' w.heap.size v fs ∧ (∀ x ∈ rblksA g bs, v.ownBlock ≠ some x) ∧ CopQ w' w.heap.size rs a c bs g ∧ Below w.heap.size w w'
theorem CopQ.mono {w : World} {base base' c g : Nat} {rs : List Ru} {bs : List (Nat × Fo)} {a : Option Addr} (h : CopQ w base rs a c bs g) (hb : base' ≤ base) : CopQ w base' rs a c bs g := by
  obtain ⟨h3, h4, h5, h6, h7⟩ := h
  exact ⟨h3.more hb (Nat.le_refl _), h4, h5, fun x hx => ⟨Nat.le_trans hb (h6 x hx).1, (h6 x hx).2⟩, h7⟩
theorem CopQ.setCell {w : World} {base c g g' : Nat} {rs : List Ru} {bs : List (Nat × Fo)} {a : Option Addr} (h : CopQ w base rs a c bs g) (hg : g' < base) (i : Nat) (u : Value) : CopQ (w.setCell ⟨g', i, none⟩ u) base rs a c bs g := by
  obtain ⟨h3, h4, h5, h6, h7⟩ := h
  have hsz : (w.setCell ⟨g', i, none⟩ u).heap.size = w.heap.size := by simp [World.setCell]
  refine ⟨(h3.setCell (.inl hg) i u).more (Nat.le_refl _) (by omega), h4.keep fun x hx _ => Below.heap_setCell w _ _ x (by have := h6 x hx; show x ≠ g'; omega), h5, fun x hx => ⟨(h6 x hx).1, by rw [hsz]; exact (h6 x hx).2⟩, h7⟩
end Go.Proofs.YtahdpocaldhamaaGreat
