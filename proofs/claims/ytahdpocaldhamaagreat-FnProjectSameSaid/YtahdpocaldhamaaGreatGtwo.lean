/-
  The early texts of this proof in one: plain words, lists in memory, and the contracts of the small functions.
-/
import Derived.Test.YtahdpocaldhamaaGreatGone
import Derived.Deep.RegionHeld3
import Derived.Test.YtahdpocaldhamaaGreatProg
import Derived.LaidEqlPtr
import Derived.WideKeyRuns
import Derived.Maps.OwnSet
import Derived.Laws.StructEq
import Derived.Deep.LoopGhost
import Derived.BigQuiet
import Derived.Deep.Onto
import Derived.WideMake
import Derived.Deep.RegionLaw
import Derived.Shelf.Strings.BuilderK
import Derived.KernelRfl
import Derived.Shelf.Strings.OnBuilder
import Derived.Lib.ConvBytes
import Derived.Lib.FrozenHead2
import Derived.Lib.OthersKept
import Derived.Deep.Slices
import Derived.Deep.Fields
import Derived.ChangeSame
import Derived.OpenShut
import Derived.Lib.SmallJoins

namespace Go.Proofs.YtahdpocaldhamaaGreat
set_option linter.unusedVariables false
set_option linter.unusedSimpArgs false
open Go.RowKit

/-- the cells of a row of rules whose operands have rows of their own -/
def RowX (w : World) (L B : Nat) (og : Option Nat) : List Ru → List (Nat × Fo) → List Value → Prop
  | [], [], xs => xs = []
  | x :: rs, y :: bs, xs => (∃ a c ys, xs = .string x.1 :: .int .i64 x.2.1 :: .string x.2.2.1 :: .slice a x.2.2.2.len c :: ys ∧ x.2.2.2.len ≤ c ∧ (∃ L1 B1, KA w L1 B1 x.2.2.2 a x.2.2.2.len ∧ L ≤ L1 ∧ B1 ≤ B ∧ ∀ g, og = some g → g < L1 ∨ B1 ≤ g) ∧ SepA w y.2 y.1 a x.2.2.2.len ∧ y.2.size = x.2.2.2.size ∧ RowX w L B og rs bs ys)
  | _, _, _ => False
section
variable {w w' : World} {L L' B B' b : Nat} {og og' : Option Nat} {rs : List Ru} {bs : List (Nat × Fo)} {xs : List Value}
theorem rowX_len : ∀ {rs : List Ru} {bs : List (Nat × Fo)} {xs : List Value}, RowX w L B og rs bs xs → xs.length = rs.length * 4 ∧ bs.length = rs.length
  | [], [], _, h => by simp only [RowX] at h; subst h; exact ⟨rfl, rfl⟩
  | x :: rs, y :: bs, _, ⟨a, c, ys, e, _, _, _, _, h⟩ => by subst e; have := rowX_len h; simp only [List.length_cons, this.1, this.2]; exact ⟨by omega, trivial⟩
  | [], _ :: _, _, h => absurd h (by simp [RowX])
  | _ :: _, [], _, h => absurd h (by simp [RowX])
theorem rowX_keep (hL : L' ≤ L) (hB : B ≤ B') (ho : ∀ g, og' = some g → og = some g ∨ g < L ∨ B ≤ g) (hk : ∀ p : Addr, L ≤ p.block → p.block < B → og ≠ some p.block → w'.cell? p = w.cell? p) : ∀ {rs : List Ru} {bs : List (Nat × Fo)} {xs : List Value}, (∀ x ∈ rblks bs, x < w.heap.size → w'.heap[x]? = w.heap[x]?) → RowX w L B og rs bs xs → RowX w' L' B' og' rs bs xs
  | [], [], _, _, h => h
  | x :: rs, y :: bs, _, hs, ⟨a, c, ys, e, hc, ⟨L1, B1, h1, h2, h3, h4⟩, h5, h6, h⟩ =>
    ⟨a, c, ys, e, hc, ⟨L1, B1, h1.keep (Nat.le_refl _) (Nat.le_refl _) fun p h5 h6 => hk p (by omega) (by omega) (fun e => by have := h4 _ e; omega), by omega, by omega, fun g hg => by
      rcases ho g hg with h | h | h
      · exact h4 g h
      · exact .inl (by omega)
      · exact .inr (by omega)⟩, h5.keep fun z hz => hs z (List.mem_append_left _ hz), h6, rowX_keep hL hB ho hk (fun z hz => hs z (List.mem_append_right _ hz)) h⟩
  | [], _ :: _, _, _, h => absurd h (by simp [RowX])
  | _ :: _, [], _, _, h => absurd h (by simp [RowX])
theorem rowX_snoc {a : Option Addr} {c L1 B1 : Nat} {t s : ByteArray} {k : Int} {ks : Fo} {g : Nat} {bk : Fo} (hc : ks.len ≤ c) (h1 : KA w L1 B1 ks a ks.len) (h2 : L ≤ L1) (h3 : B1 ≤ B) (h4 : ∀ g, og = some g → g < L1 ∨ B1 ≤ g) (h5 : SepA w bk g a ks.len) (h6 : bk.size = ks.size) :
    ∀ {rs : List Ru} {bs : List (Nat × Fo)} {xs : List Value}, RowX w L B og rs bs xs → RowX w L B og (rs ++ [(t, k, s, ks)]) (bs ++ [(g, bk)]) (xs ++ [.string t, .int .i64 k, .string s, .slice a ks.len c])
  | [], [], _, h => by simp only [RowX] at h; subst h; exact ⟨a, c, [], rfl, hc, ⟨L1, B1, h1, h2, h3, h4⟩, h5, h6, rfl⟩
  | x :: rs, y :: bs, _, ⟨a', c', ys, e, hc', h7, h8, h9, h⟩ => by subst e; exact ⟨a', c', _, rfl, hc', h7, h8, h9, rowX_snoc hc h1 h2 h3 h4 h5 h6 h⟩
  | [], _ :: _, _, h => absurd h (by simp [RowX])
  | _ :: _, [], _, h => absurd h (by simp [RowX])
theorem rowX_get : ∀ {rs : List Ru} {bs : List (Nat × Fo)} {xs : List Value} {j : Nat} {x : Ru} {y : Nat × Fo}, RowX w L B og rs bs xs → rs[j]? = some x → bs[j]? = some y →
    ∃ a c, xs[j * 4]? = some (.string x.1) ∧ xs[j * 4 + 1]? = some (.int .i64 x.2.1) ∧ xs[j * 4 + 2]? = some (.string x.2.2.1) ∧ xs[j * 4 + 3]? = some (.slice a x.2.2.2.len c) ∧ x.2.2.2.len ≤ c ∧ KA w L B x.2.2.2 a x.2.2.2.len ∧ SepA w y.2 y.1 a x.2.2.2.len ∧ y.2.size = x.2.2.2.size
  | x :: rs, y :: bs, _, 0, _, _, ⟨a, c, ys, e, hc, ⟨L1, B1, h1, h2, h3, h4⟩, h5, h6, h⟩, hx, hy => by
    simp only [List.getElem?_cons_zero, Option.some.injEq] at hx hy
    subst hx hy e
    exact ⟨a, c, rfl, rfl, rfl, rfl, hc, h1.more h2 h3, h5, h6⟩
  | x :: rs, y :: bs, _, j + 1, _, _, ⟨a, c, ys, e, hc, _, h5, h6, h⟩, hx, hy => by
    subst e
    have := rowX_get (j := j) h (by simpa using hx) (by simpa using hy)
    simpa only [show (j + 1) * 4 = j * 4 + 4 from by omega, show j * 4 + 4 + 1 = (j * 4 + 1) + 4 from by omega, show j * 4 + 4 + 2 = (j * 4 + 2) + 4 from by omega, show j * 4 + 4 + 3 = (j * 4 + 3) + 4 from by omega, List.getElem?_cons_succ] using this
  | [], _, _, _, _, _, _, hx, _ => by simp at hx
  | _ :: _, [], _, _, _, _, h, _, _ => absurd h (by simp [RowX])
theorem rblks_snoc (g : Nat) (bk : Fo) (bs : List (Nat × Fo)) : rblks (bs ++ [(g, bk)]) = rblks bs ++ blksA g bk := by simp [rblks]
end
/-- a list of rules of one's own whose rows share no block -/
def OwnQ (w : World) (base : Nat) (v : Value) (rs : List Ru) (bs : List (Nat × Fo)) : Prop := ∃ xs, w.ownsRow base 57 4 v rs.length xs ∧ RowX w base w.heap.size v.ownBlock rs bs xs ∧ (rblks bs).Nodup ∧ ∀ x ∈ rblks bs, base ≤ x ∧ x < w.heap.size ∧ v.ownBlock ≠ some x
theorem rules_under : Tryz.prog.underlying 24 = some (.slice 57) := by kernel_rfl
section
variable {w w' : World} {base base' : Nat} {v v' : Value} {rs : List Ru} {bs : List (Nat × Fo)} {r : Option Nat}
theorem OwnQ.lt (h : OwnQ w base v rs bs) : ∀ g, v.ownBlock = some g → base ≤ g ∧ g < w.heap.size := by
  obtain ⟨xs, h1, _⟩ := h
  exact World.ownsRow.lt h1
theorem OwnQ.bound (h : OwnQ w base v rs bs) : ∀ x ∈ rblks bs, x < w.heap.size := by
  obtain ⟨xs, _, _, _, h7⟩ := h
  exact fun x hx => (h7 x hx).2.1
theorem OwnQ.nil (w : World) (base : Nat) : OwnQ w base (.slice none 0 0) [] [] := ⟨[], World.ownsRow_nil _ _ _ _, rfl, List.nodup_nil, fun x hx => by simp [rblks] at hx⟩
theorem OwnQ.grown (h : OwnQ w base v rs bs) (hg : w.grownBy w' r) (hr : ∀ g, r = some g → g < base ∨ w.heap.size ≤ g) : OwnQ w' base v rs bs := by
  obtain ⟨xs, h1, h2, h6, h7⟩ := h
  refine ⟨xs, World.ownsRow.kept h1 hg ?_, rowX_keep (Nat.le_refl _) hg.size (fun g hg => .inl hg) (fun p h3 h4 _ => World.cell?_of_block (hg.block p.block h4 (fun e => by have := hr _ e.symm; omega))) (fun x hx hxs => hg.block x hxs (fun e => by have := hr _ e.symm; have := h7 x hx; omega)) h2, h6, fun x hx => ⟨(h7 x hx).1, Nat.lt_of_lt_of_le (h7 x hx).2.1 hg.size, (h7 x hx).2.2⟩⟩
  cases hv : v.ownBlock with
  | none => exact .inl rfl
  | some g => exact .inr fun e => by have := World.ownsRow.lt h1 g hv; have := hr g e.symm; omega
theorem OwnQ.alloc (h : OwnQ w base v rs bs) (o : Obj) : OwnQ (w.alloc o) base v rs bs := h.grown (World.grownBy_alloc w o none) fun g e => by cases e
theorem OwnQ.below (h : OwnQ w base v rs bs) (hb : Below w.heap.size w w') : OwnQ w' base v rs bs := h.grown (r := none) ⟨hb.os, hb.tape, hb.output, hb.size, fun i hi _ => hb.block i hi⟩ fun g e => by cases e
theorem OwnQ.setCell (h : OwnQ w base v rs bs) {g : Nat} (hg : g < base) (i : Nat) (u : Value) : OwnQ (w.setCell ⟨g, i, none⟩ u) base v rs bs :=
  h.grown (r := some g) (grown_set (World.grownBy.refl w _) (.inl rfl) u) fun j e => by injection e with e; omega
theorem OwnQ.mono (h : OwnQ w base v rs bs) (hb : base' ≤ base) : OwnQ w base' v rs bs := by
  obtain ⟨xs, h1, h2, h6, h7⟩ := h
  exact ⟨xs, World.ownsRow.mono h1 hb, rowX_keep hb (Nat.le_refl _) (fun g hg => .inl hg) (fun _ _ _ _ => rfl) (fun _ _ _ => rfl) h2, h6, fun x hx => ⟨Nat.le_trans hb (h7 x hx).1, (h7 x hx).2⟩⟩
/-- what a copied list of rules is told of -/
def CopQ (w : World) (base : Nat) (rs : List Ru) (a : Option Addr) (c : Nat) (bs : List (Nat × Fo)) (g : Nat) : Prop := RuAt w base w.heap.size rs a rs.length ∧ SepRA w bs g a rs.length ∧ (rblksA g bs).Nodup ∧ (∀ x ∈ rblksA g bs, base ≤ x ∧ x < w.heap.size) ∧ bsz bs = ruMk rs
theorem rowX_mk {L B : Nat} {og : Option Nat} : ∀ {rs : List Ru} {bs : List (Nat × Fo)} {xs : List Value}, RowX w L B og rs bs xs → bsz bs = ruMk rs
  | [], [], _, _ => rfl
  | x :: rs, y :: bs, _, ⟨a, c, ys, e, _, _, _, h6, h⟩ => by simp only [bsz, ruMk, rowX_mk h, h6]
  | [], _ :: _, _, h => absurd h (by simp [RowX])
  | _ :: _, [], _, h => absurd h (by simp [RowX])
theorem OwnQ.form (h : OwnQ w base v rs bs) : ∃ a c g, v = .slice a rs.length c ∧ CopQ w base rs a c bs g := by
  obtain ⟨xs, h1, h2, h6, h7⟩ := h
  obtain ⟨hl1, hl2⟩ := rowX_len h2
  rcases h1.2 with ⟨rfl, h0⟩ | ⟨g, cap, cur, rfl, hb, hg, hc, hm, hcs, _⟩
  · refine ⟨none, 0, 0, by rw [h0], ⟨rfl, fun h => absurd h (by omega)⟩, ⟨hl2, fun hn => absurd hn (by omega)⟩, ?_, ?_, rowX_mk h2⟩
    · unfold rblksA; rw [if_pos (by omega)]; exact List.nodup_nil
    · unfold rblksA; rw [if_pos (by omega)]; intro x hx; simp at hx
  · have hcell : ∀ j u, xs[j]? = some u → w.cell? ⟨g, j, none⟩ = some u := fun j u hu => by
      have := World.ownsRow.cells h1 (g := g) rfl j u hu
      rwa [add_none, Nat.zero_add] at this
    refine ⟨_, cap, g, rfl, ⟨rfl, fun _ => ⟨g, 0, rfl, hb, blk_lt hg, fun j t k s ks hj => ?_⟩⟩, ⟨hl2, fun hn => ⟨rfl, ⟨cur, hg, by rw [hcs]; exact Nat.mul_le_mul_right _ hc⟩, fun i y hy => ?_⟩⟩, ?_, ?_, rowX_mk h2⟩
    · have hjl := (List.getElem?_eq_some_iff.1 hj).1
      obtain ⟨a, c, e0, e1, e2, e3, hc', hk, _, _⟩ := rowX_get h2 hj (List.getElem?_eq_getElem (by omega))
      rw [Nat.zero_add]
      exact ⟨hcell _ _ e0, hcell _ _ e1, hcell _ _ e2, a, _, c, hcell _ _ e3, hc', hk⟩
    · have hil := (List.getElem?_eq_some_iff.1 hy).1
      obtain ⟨a, c, _, _, _, e3, _, _, hs, _⟩ := rowX_get h2 (List.getElem?_eq_getElem (show i < rs.length by omega)) hy
      have := hs.1
      rw [← this] at e3 hs
      exact ⟨a, c, hcell _ _ e3, hs⟩
    · unfold rblksA
      by_cases h0 : bs.length = 0
      · rw [if_pos h0]; exact List.nodup_nil
      · rw [if_neg h0]; exact List.nodup_cons.2 ⟨fun hx => (h7 g hx).2.2 rfl, h6⟩
    · intro x hx
      unfold rblksA at hx
      by_cases h0 : bs.length = 0
      · rw [if_pos h0] at hx; simp at hx
      · rw [if_neg h0] at hx
        rcases List.mem_cons.1 hx with rfl | hx
        · exact ⟨hb, blk_lt hg⟩
        · exact ⟨(h7 x hx).1, (h7 x hx).2.1⟩
end
theorem rule_info4 : (Tryz.prog.info? 57).map (fun i => (i.zero, i.size, i.bytes)) = some (some (.agg #[.string .empty, .int .i64 0, .string .empty, .slice none 0 0]), 4, 64) := by kernel_rfl
/-- one more rule -/
theorem wp_append_rq {w : World} {o : Oper} {a : Act} {K : Act → World → Prop} {Q : Exit → Act → World → Prop} (s x : Operand)
    (ho : o.op = .call { callee := .builtin .append, args := #[s, x], argTypes := #[24, 24] })
    (base : Nat) (v : Value) (rs : List Ru) (bs : List (Nat × Fo)) (hs : a.eval s = v) (hown : OwnQ w base v rs bs) (g c1 : Nat) (hx : a.eval x = .slice (some ⟨g, 0, none⟩) 1 c1)
    (t : ByteArray) (k : Int) (y : ByteArray) (ks : Fo) (ad : Option Addr) (c L1 : Nat) (bk1 : Fo) (g1 : Nat) {T : TypeId} (hbx : w.heap[g]? = some (.cells #[.string t, .int .i64 k, .string y, .slice ad ks.len c] T (0, 0))) (hc : ks.len ≤ c) (hk : KA w L1 w.heap.size ks ad ks.len) (hL : base ≤ L1) (hown1 : ∀ g, v.ownBlock = some g → g < L1) (hown2 : ∀ x ∈ rblks bs, x < L1)
    (hsep : SepA w bk1 g1 ad ks.len) (hnd : (blksA g1 bk1).Nodup) (hin : ∀ x ∈ blksA g1 bk1, L1 ≤ x ∧ x < w.heap.size) (hz : bk1.size = ks.size)
    (h63 : rs.length ≤ 1000000000) (hbase : base ≤ w.heap.size)
    (h : ∀ g cap w', OwnQ w' base (.slice (some ⟨g, 0, none⟩) (rs.length + 1) cap) (rs ++ [(t, k, y, ks)]) (bs ++ [(g1, bk1)]) → w.grownBy w' v.ownBlock → g < w'.heap.size → base ≤ g → K (a.put o.dst (.slice (some ⟨g, 0, none⟩) (rs.length + 1) cap)) w') :
    Oper.wp Tryz.prog o a w K Q := by
  obtain ⟨i, hi, hz0, hz1, hz2⟩ := info_parts rule_info4
  obtain ⟨xs, h1, h2, h6, h7⟩ := hown
  refine wp_append_at s x 24 ho base 57 i _ 4 64 rules_under hi hz0 hz1 hz2 rfl (by decide) v rs.length xs hs h1 ⟨g, 0, none⟩ 1 c1 [.string t, .int .i64 k, .string y, .slice ad ks.len c] hx rfl ?_ (by simp [Value.oneCell']) (by simp only [maxLen]; omega) (by omega) hbase fun v' w' h8 h9 h10 => ?_
  · intro j u hu
    rw [add_none, cell_of_row _ _ _ _ _ _ hbx]
    simpa using hu
  · have h11 : RowX w base w.heap.size v.ownBlock (rs ++ [(t, k, y, ks)]) (bs ++ [(g1, bk1)]) (xs ++ [.string t, .int .i64 k, .string y, .slice ad ks.len c]) :=
      rowX_snoc hc hk hL (Nat.le_refl _) (fun g hg => .inl (hown1 g hg)) hsep hz h2
    have h12 : RowX w' base w'.heap.size v'.ownBlock (rs ++ [(t, k, y, ks)]) (bs ++ [(g1, bk1)]) (xs ++ [.string t, .int .i64 k, .string y, .slice ad ks.len c]) := by
      refine rowX_keep (Nat.le_refl _) h9.size (fun g e => ?_) (fun p h4 h5 h6 => World.cell?_of_block (h9.block p.block h5 (fun e => h6 e.symm))) (fun x hx hxs => h9.block x hxs (fun e => ?_)) h11
      · rcases h10 with ho | ho
        · exact .inl (ho ▸ e)
        · exact .inr (.inr (ho g e))
      · rw [rblks_snoc] at hx
        rcases List.mem_append.1 hx with hx | hx
        · exact (h7 x hx).2.2 e.symm
        · have := hin x hx; have := hown1 x e.symm; omega
    have h14 : w'.ownsRow base 57 4 v' (rs ++ [(t, k, y, ks)]).length (xs ++ [.string t, .int .i64 k, .string y, .slice ad ks.len c]) := by rw [List.length_append]; exact h8
    obtain ⟨g', cap', rfl, h15, h16⟩ := World.ownsRow.form h8 (by omega)
    refine h g' cap' w' ⟨_, h14, h12, ?_, fun x hx => ?_⟩ h9 h16 h15
    · rw [rblks_snoc]
      exact List.nodup_append.2 ⟨h6, hnd, fun x hx y hy e => by have := hown2 x hx; have := hin y hy; omega⟩
    · rw [rblks_snoc] at hx
      have hxs : base ≤ x ∧ x < w.heap.size ∧ v.ownBlock ≠ some x := by
        rcases List.mem_append.1 hx with hx | hx
        · exact h7 x hx
        · have h17 := hin x hx
          exact ⟨by omega, h17.2, fun e => by have := hown1 x e; omega⟩
      refine ⟨hxs.1, Nat.lt_of_lt_of_le hxs.2.1 h9.size, fun e => ?_⟩
      rcases h10 with ho | ho
      · exact hxs.2.2 (ho ▸ e)
      · have := ho x e; omega
theorem wpList_append_rq {w : World} {ops : Array Oper} {rest : List Oper} {o : Oper} {a : Act} {Q : Exit → Act → World → Prop} (hgd : o.guard = none) (s x : Operand)
    (ho : o.op = .call { callee := .builtin .append, args := #[s, x], argTypes := #[24, 24] })
    (base : Nat) (v : Value) (rs : List Ru) (bs : List (Nat × Fo)) (hs : a.eval s = v) (hown : OwnQ w base v rs bs) (g c1 : Nat) (hx : a.eval x = .slice (some ⟨g, 0, none⟩) 1 c1)
    (t : ByteArray) (k : Int) (y : ByteArray) (ks : Fo) (ad : Option Addr) (c L1 : Nat) (bk1 : Fo) (g1 : Nat) {T : TypeId} (hbx : w.heap[g]? = some (.cells #[.string t, .int .i64 k, .string y, .slice ad ks.len c] T (0, 0))) (hc : ks.len ≤ c) (hk : KA w L1 w.heap.size ks ad ks.len) (hL : base ≤ L1) (hown1 : ∀ g, v.ownBlock = some g → g < L1) (hown2 : ∀ x ∈ rblks bs, x < L1)
    (hsep : SepA w bk1 g1 ad ks.len) (hnd : (blksA g1 bk1).Nodup) (hin : ∀ x ∈ blksA g1 bk1, L1 ≤ x ∧ x < w.heap.size) (hz : bk1.size = ks.size)
    (h63 : rs.length ≤ 1000000000) (hbase : base ≤ w.heap.size)
    (h : ∀ g cap w', OwnQ w' base (.slice (some ⟨g, 0, none⟩) (rs.length + 1) cap) (rs ++ [(t, k, y, ks)]) (bs ++ [(g1, bk1)]) → w.grownBy w' v.ownBlock → g < w'.heap.size → base ≤ g → wpList Tryz.prog ops Q rest (a.put o.dst (.slice (some ⟨g, 0, none⟩) (rs.length + 1) cap)) w') :
    wpList Tryz.prog ops Q (o :: rest) a w :=
  wpList_plain hgd fun _ hK => wp_append_rq s x ho base v rs bs hs hown g c1 hx t k y ks ad c L1 bk1 g1 hbx hc hk hL hown1 hown2 hsep hnd hin hz h63 hbase fun g cap w' h1 h2 h3 h4 => hK _ _ (h g cap w' h1 h2 h3 h4)
/-- what copyList of rules leaves -/
def CopRL (rs : List Ru) (w : World) (e : Ending) (w' : World) : Prop := ∃ a c bs g, e = .returned (.slice a rs.length c) ∧ CopQ w' w.heap.size rs a c bs g ∧ Below w.heap.size w w'

/-- what copyProject leaves -/
def CopPr (fs : List Fl) (rs : List Ru) (w : World) (e : Ending) (w' : World) : Prop := ∃ v a c bs g, e = .returned (.agg #[v, .slice a rs.length c]) ∧ OwnsF w' w.heap.size v fs ∧ (∀ x ∈ rblksA g bs, v.ownBlock ≠ some x) ∧ CopQ w' w.heap.size rs a c bs g ∧ Below w.heap.size w w'
theorem CopQ.mono {w : World} {base base' c g : Nat} {rs : List Ru} {bs : List (Nat × Fo)} {a : Option Addr} (h : CopQ w base rs a c bs g) (hb : base' ≤ base) : CopQ w base' rs a c bs g := by
  obtain ⟨h3, h4, h5, h6, h7⟩ := h
  exact ⟨h3.more hb (Nat.le_refl _), h4, h5, fun x hx => ⟨Nat.le_trans hb (h6 x hx).1, (h6 x hx).2⟩, h7⟩
theorem CopQ.setCell {w : World} {base c g g' : Nat} {rs : List Ru} {bs : List (Nat × Fo)} {a : Option Addr} (h : CopQ w base rs a c bs g) (hg : g' < base) (i : Nat) (u : Value) : CopQ (w.setCell ⟨g', i, none⟩ u) base rs a c bs g := by
  obtain ⟨h3, h4, h5, h6, h7⟩ := h
  have hsz : (w.setCell ⟨g', i, none⟩ u).heap.size = w.heap.size := by simp [World.setCell]
  refine ⟨(h3.setCell (.inl hg) i u).more (Nat.le_refl _) (by omega), h4.keep fun x hx _ => Below.heap_setCell w _ _ x (by have := h6 x hx; show x ≠ g'; omega), h5, fun x hx => ⟨(h6 x hx).1, by rw [hsz]; exact (h6 x hx).2⟩, h7⟩
end Go.Proofs.YtahdpocaldhamaaGreat

namespace Go.Proofs.YtahdpocaldhamaaGreat
set_option linter.unusedVariables false
set_option linter.unusedSimpArgs false
open Go.RowKit

theorem bxP_two {w : World} {g : Nat} {u v : Value} {T : TypeId} (h : BxP w g u v T) : w.cell? ⟨g, 0, none⟩ = some u ∧ w.cell? ⟨g, 1, none⟩ = some v := ⟨h.facts.1, h.facts.2.1⟩
theorem OwnsF.set {w : World} {base g : Nat} {v : Value} {fs : List Fl} (h : OwnsF w base v fs) (hg : g < base) (i : Nat) (u : Value) : OwnsF (w.setCell ⟨g, i, none⟩ u) base v fs :=
  World.ownsRow.kept (row := some g) h (grown_set (p := ⟨g, i, none⟩) (World.grownBy.refl w _) (.inl rfl) u) (by
    cases hv : v.ownBlock with
    | none => exact .inl rfl
    | some b => exact .inr fun e => by injection e with e; have := World.ownsRow.lt h b hv; omega)
theorem OwnsF.lt {w : World} {base : Nat} {v : Value} {fs : List Fl} (h : OwnsF w base v fs) : ∀ g, v.ownBlock = some g → base ≤ g ∧ g < w.heap.size := fun g hg => World.ownsRow.lt h g hg
/-- the copy's facts, whichever of its lists was copied first -/
theorem copPr_mk {w : World} {n0 base : Nat} {fs : List Fl} {rs : List Ru} {v : Value} {a : Option Addr} {c g : Nat} {bs : List (Nat × Fo)} (hf : OwnsF w base v fs) (hq : CopQ w base rs a c bs g) (hd : ∀ x ∈ rblksA g bs, v.ownBlock ≠ some x) (hb : n0 ≤ base) (i : Nat) (hi : i < base) (x y : Value) :
    OwnsF ((w.setCell ⟨i, 0, none⟩ x).setCell ⟨i, 1, none⟩ y) n0 v fs ∧ (∀ x ∈ rblksA g bs, v.ownBlock ≠ some x) ∧ CopQ ((w.setCell ⟨i, 0, none⟩ x).setCell ⟨i, 1, none⟩ y) n0 rs a c bs g :=
  ⟨World.ownsRow.mono ((OwnsF.set (OwnsF.set hf hi 0 x) hi 1 y)) hb, hd, ((hq.setCell hi 0 x).setCell hi 1 y).mono hb⟩
theorem CopQ.below {w w' : World} {base c g : Nat} {rs : List Ru} {bs : List (Nat × Fo)} {a : Option Addr} (h : CopQ w base rs a c bs g) (hb : Below w.heap.size w w') : CopQ w' base rs a c bs g := by
  obtain ⟨h3, h4, h5, h6, h7⟩ := h
  exact ⟨h3.next hb, h4.keep fun x hx hxs => hb.block x hxs, h5, fun x hx => ⟨(h6 x hx).1, Nat.lt_of_lt_of_le (h6 x hx).2 hb.size⟩, h7⟩

end Go.Proofs.YtahdpocaldhamaaGreat

namespace Go.Proofs.YtahdpocaldhamaaGreat
set_option linter.unusedVariables false
open Go.RowKit

/-- a box with an expression -/
def ExB (V : World) (g : Nat) (k : Int) (s : ByteArray) (ks : Fo) (a : Option Addr) (n c : Nat) (T : TypeId) : Prop := BxE V g k s (.slice a n c) T ∧ KA V 0 V.heap.size ks a n
/-- .. of a law's copy -/
def ExQ (V : World) (g : Nat) (k : Int) (s : ByteArray) (ks : Fo) (a : Option Addr) (n c : Nat) (T : TypeId) : Prop := ExB V g k s ks a n c T ∧ RdA V ks a n
section
variable {V V' : World} {g g' : Nat} {k k' : Int} {s s' : ByteArray} {ks ks' : Fo} {a a' : Option Addr} {n n' c c' : Nat} {T T' : TypeId}
theorem ExB.next (h : ExB V g k s ks a n c T) (hB : Below V.heap.size V V') : ExB V' g k s ks a n c T := ⟨h.1.next hB, h.2.next hB⟩
theorem ExQ.next (h : ExQ V g k s ks a n c T) (hB : Below V.heap.size V V') : ExQ V' g k s ks a n c T := ⟨h.1.next hB, h.2.keep fun b hb => hB.block b hb⟩
theorem ExB.three (h : ExB V g k s ks a n c T) : V.cell? ⟨g, 0, none⟩ = some (.int .i64 k) ∧ V.cell? ⟨g, 1, none⟩ = some (.string s) ∧ V.cell? ⟨g, 2, none⟩ = some (.slice a n c) := ⟨h.1.c0, h.1.c1, h.1.c2⟩
theorem and6 {a b c d e f : Prop} (H : (a ∧ b ∧ c) ∧ (d ∧ e ∧ f)) : a ∧ b ∧ c ∧ d ∧ e ∧ f := ⟨H.1.1, H.1.2.1, H.1.2.2, H.2⟩
end
/-- two drawn expressions in their boxes -/
def PrE (V : World) (g g' : Nat) (k : Int) (s : ByteArray) (ks : Fo) (a : Option Addr) (c : Nat) (k' : Int) (s' : ByteArray) (ls : Fo) (b : Option Addr) (d : Nat) : Prop := ExQ V g k s ks a ks.len c 41 ∧ ExQ V g' k' s' ls b ls.len d 41
theorem PrE.next {V V' : World} {g g' : Nat} {k k' : Int} {s s' : ByteArray} {ks ls : Fo} {a b : Option Addr} {c d : Nat} (h : PrE V g g' k s ks a c k' s' ls b d) (hB : Below V.heap.size V V') : PrE V' g g' k s ks a c k' s' ls b d := ⟨h.1.next hB, h.2.next hB⟩
end Go.Proofs.YtahdpocaldhamaaGreat

namespace Go.Proofs.YtahdpocaldhamaaGreat
set_option linter.unusedVariables false
open Go.RowKit

/-- all nodes are right -/
def good : Fo → Bool
  | .nil => true
  | .node k s ks r => nodeB k s ks.len && good ks && good r
theorem good_of : ∀ {f : Fo} {d : Nat}, shape f d = true → good f = true
  | .nil, _, _ => rfl
  | .node k s ks r, d, h => by
    simp only [shape, Bool.and_eq_true] at h
    simp only [good, Bool.and_eq_true]
    exact ⟨⟨h.1.1.2, good_of h.1.2⟩, good_of h.2⟩
theorem good_get : ∀ {f : Fo} {j : Nat} {k : Int} {s : ByteArray} {ks : Fo}, good f = true → f.get j = some (k, s, ks) → nodeB k s ks.len = true ∧ good ks = true
  | .nil, _, _, _, _, _, h => by simp [Fo.get] at h
  | .node k s ks r, 0, _, _, _, hf, h => by
    simp only [Fo.get, Option.some.injEq, Prod.mk.injEq] at h
    obtain ⟨rfl, rfl, rfl⟩ := h
    simp only [good, Bool.and_eq_true] at hf
    exact hf.1
  | .node k s ks r, j + 1, _, _, _, hf, h => by
    simp only [good, Bool.and_eq_true] at hf
    exact good_get (f := r) (j := j) hf.2 h
theorem valid_good {k : Int} {s : ByteArray} {ks : Fo} (h : validE k s ks = true) : nodeB k s ks.len = true ∧ good ks = true ∧ ks.size + 1 ≤ 20 := by
  unfold validE at h
  simp only [Bool.and_eq_true, decide_eq_true_eq] at h
  have := good_of h.1
  simp only [good, Bool.and_eq_true] at this
  exact ⟨this.1.1, this.1.2, h.2⟩
/-- the kinds -/
theorem node_kinds {k : Int} {s : ByteArray} {n : Nat} (h : nodeB k s n = true) :
    (k = 1 ∧ n = 0 ∧ plainB s = true) ∨ (k = 3 ∧ n ≤ 4 ∧ s = .empty) ∨ (k = 4 ∧ n = 4 ∧ s = .empty) ∨ ((k = 2 ∨ k = 5 ∨ k = 6 ∨ k = 7) ∧ n = 1 ∧ s = .empty) := by
  unfold nodeB kidsB at h
  simp only [Bool.and_eq_true, Bool.or_eq_true, decide_eq_true_eq] at h
  obtain ⟨⟨h1, h2⟩, h3⟩ := h
  rcases h1 with ((⟨h1, h4⟩ | ⟨h1, h4⟩) | ⟨h1, h4⟩) | ⟨h1, h4⟩
  · exact .inl ⟨h1, h4, h2⟩
  · exact .inr (.inl ⟨h1, h4, h3.resolve_left (by omega)⟩)
  · exact .inr (.inr (.inl ⟨h1, h4, h3.resolve_left (by omega)⟩))
  · exact .inr (.inr (.inr ⟨by rcases h1 with ((h1 | h1) | h1) | h1 <;> simp [h1], h4, h3.resolve_left (by omega)⟩))
theorem plain_size {s : ByteArray} (h : plainB s = true) : s.size ≤ 60 := by
  unfold plainB at h
  simp only [Bool.and_eq_true] at h
  exact ((textB_iff s).1 h.2).1
theorem node_size {k : Int} {s : ByteArray} {n : Nat} (h : nodeB k s n = true) : s.size ≤ 60 := by
  unfold nodeB at h
  simp only [Bool.and_eq_true] at h
  exact plain_size h.1.2
theorem len_one {ks : Fo} (h : ks.len = 1) : ∃ k s f, ks = .node k s f .nil := by
  match ks, h with
  | .node k s f .nil, _ => exact ⟨k, s, f, rfl⟩
  | .node k s f (.node ..), h => simp [Fo.len] at h
theorem len_zero {ks : Fo} (h : ks.len = 0) : ks = .nil := by
  match ks, h with
  | .nil, _ => rfl
  | .node .., h => simp [Fo.len] at h
/-- the byte that a node with one operand begins with -/
def chrB (k : Int) : UInt8 := if k = 2 then 64 else if k = 5 then 60 else if k = 6 then 62 else 35
/-- the texts of nodes, each with what stands behind it -/
def fmS : Fo → List (List UInt8) → List UInt8
  | .nil, _ => []
  | .node k s ks r, seps => (if k = 1 then [39] ++ s.data.toList ++ [39] else if k = 3 then [40] ++ fmS ks [] ++ [41] else if k = 4 then [91] ++ fmS ks [[61], [63], [58], [93]] else [chrB k] ++ fmS ks []) ++ seps.headD [] ++ fmS r seps.tail
/-- the text of a node -/
def fm1 (k : Int) (s : ByteArray) (ks : Fo) : List UInt8 :=
  if k = 1 then [39] ++ s.data.toList ++ [39] else if k = 3 then [40] ++ fmS ks [] ++ [41] else if k = 4 then [91] ++ fmS ks [[61], [63], [58], [93]] else [chrB k] ++ fmS ks []
theorem fmS_node (k : Int) (s : ByteArray) (ks r : Fo) (seps : List (List UInt8)) : fmS (.node k s ks r) seps = fm1 k s ks ++ seps.headD [] ++ fmS r seps.tail := rfl
theorem fmS_one (k : Int) (s : ByteArray) (ks : Fo) : fmS (.node k s ks .nil) [] = fm1 k s ks := by rw [fmS_node]; simp [fmS]
theorem fmS_len : ∀ {f : Fo} (seps : List (List UInt8)), good f = true → (∀ x ∈ seps, x.length ≤ 1) → (fmS f seps).length ≤ 63 * f.size
  | .nil, _, _, _ => Nat.le_refl _
  | .node k s ks r, seps, hg, hs => by
    simp only [good, Bool.and_eq_true] at hg
    have h1 := fmS_len (f := ks) [] hg.1.2 (by simp)
    have h2 := fmS_len (f := ks) [[61], [63], [58], [93]] hg.1.2 (by simp)
    have h3 := fmS_len (f := r) seps.tail hg.2 (fun x hx => hs x (List.mem_of_mem_tail hx))
    have h4 : (seps.headD []).length ≤ 1 := by
      cases seps with
      | nil => simp
      | cons a l => exact hs a (by simp)
    have h5 := node_size hg.1.1
    have h6 : s.data.toList.length ≤ 60 := by rw [Array.length_toList]; exact h5
    rw [fmS_node, List.length_append, List.length_append]
    simp only [Fo.size]
    have h7 : (fm1 k s ks).length ≤ 62 + 63 * ks.size := by
      unfold fm1
      split
      · simp only [List.length_append, List.length_cons, List.length_nil]; omega
      · split
        · simp only [List.length_append, List.length_cons, List.length_nil]; omega
        · split
          · simp only [List.length_append, List.length_cons, List.length_nil]; omega
          · simp only [List.length_append, List.length_cons, List.length_nil]; omega
    omega
theorem fm1_len {k : Int} {s : ByteArray} {ks : Fo} (hn : nodeB k s ks.len = true) (hg : good ks = true) : (fm1 k s ks).length ≤ 63 * (ks.size + 1) := by
  have := fmS_len (f := .node k s ks .nil) [] (by simp only [good, hn, hg, Bool.and_true]) (by simp)
  rw [fmS_one] at this
  simpa [Fo.size] using this
/-- the text of an expression, if it is valid -/
def fmtE (k : Int) (s : ByteArray) (ks : Fo) : ByteArray := if validE k s ks = true then ⟨(fm1 k s ks).toArray⟩ else .empty
end Go.Proofs.YtahdpocaldhamaaGreat

namespace Go.Proofs.YtahdpocaldhamaaGreat
set_option linter.unusedVariables false
open Go.RowKit

/-- the line of a source -/
def lineS (f : Fl) : List UInt8 := [115, 111, 117, 114, 99, 101, 32] ++ (f.1.data.toList ++ ([32] ++ (f.2.data.toList ++ [10])))
/-- the line of a rule -/
def lineR (x : Ru) : List UInt8 := [114, 117, 108, 101, 32] ++ (x.1.data.toList ++ ([32] ++ ((fmtE x.2.1 x.2.2.1 x.2.2.2).data.toList ++ [10])))
/-- the lines -/
def linesP (fs : List Fl) (rs : List Ru) : List UInt8 := [112, 114, 111, 106, 101, 99, 116, 10] ++ (fs.flatMap lineS ++ rs.flatMap lineR)
/-- what FormatProject answers -/
def fmtP (fs : List Fl) (rs : List Ru) : ByteArray := if projB fs rs = true then ⟨(linesP fs rs).toArray⟩ else .empty
theorem flat_take {α : Type} (g : α → List UInt8) {l : List α} {j : Nat} {x : α} (h : l[j]? = some x) : (l.take (j + 1)).flatMap g = (l.take j).flatMap g ++ g x := by
  rw [List.take_add_one, h, List.flatMap_append]
  simp
theorem allTo_get {p : Nat → Bool} {n j : Nat} (h : allTo p n = true) (hj : j < n) : p j = true := by
  unfold allTo at h
  rw [List.all_eq_true] at h
  exact h j (List.mem_range.2 hj)
theorem flat_len {α : Type} (g : α → List UInt8) (m : Nat) : ∀ (l : List α), (∀ x ∈ l, (g x).length ≤ m) → (l.flatMap g).length ≤ m * l.length
  | [], _ => by simp
  | x :: l, h => by
    have h1 := h x (List.mem_cons_self ..)
    have h2 := flat_len g m l fun y hy => h y (List.mem_cons_of_mem _ hy)
    simp only [List.flatMap_cons, List.length_append, List.length_cons, Nat.mul_add, Nat.mul_one]
    omega
theorem fmtE_len {k : Int} {s : ByteArray} {ks : Fo} (h : validE k s ks = true) : (fmtE k s ks).data.toList.length ≤ 1260 := by
  unfold fmtE
  rw [if_pos h]
  obtain ⟨h1, h2, h3⟩ := valid_good h
  have := fm1_len h1 h2
  show (fm1 k s ks).toArray.toList.length ≤ _
  simp
  omega
/-- what a valid project's parts measure -/
theorem proj_sizes {fs : List Fl} {rs : List Ru} (h : projB fs rs = true) : fs.length ≤ 12 ∧ rs.length ≤ 10 ∧ (∀ f ∈ fs, (lineS f).length ≤ 80) ∧ (∀ x ∈ rs, (lineR x).length ≤ 1300 ∧ x.1.size ≤ 8 ∧ validE x.2.1 x.2.2.1 x.2.2.2 = true) := by
  rw [projB_each] at h
  simp only [Bool.and_eq_true, decide_eq_true_eq] at h
  obtain ⟨⟨hv, hl⟩, ha⟩ := h
  have hfl : fs.length ≤ 12 := by unfold validB at hv; simp only [Bool.and_eq_true, decide_eq_true_eq] at hv; exact hv.1
  refine ⟨hfl, hl, fun f hf => ?_, fun x hx => ?_⟩
  · obtain ⟨j, hj⟩ := List.getElem?_of_mem hf
    obtain ⟨p, t⟩ := f
    have := valid_sizes hv hj
    simp only [lineS, List.length_append, Array.length_toList, List.length_cons, List.length_nil]
    have h1 : p.data.size = p.size := rfl
    have h2 : t.data.size = t.size := rfl
    omega
  · obtain ⟨j, hj⟩ := List.getElem?_of_mem hx
    obtain ⟨t, k, s, ks⟩ := x
    have hjl : j < rs.length := (List.getElem?_eq_some_iff.1 hj).1
    have h1 := allTo_get ha hjl
    simp only [Bool.and_eq_true] at h1
    have h2 := h1.1.2
    unfold bodyAt at h2
    rw [ruGet_of hj] at h2
    simp only [Bool.and_eq_true] at h2
    have h3 : t.size ≤ 8 := by have := h2.1; unfold pathB at this; simp only [Bool.and_eq_true, decide_eq_true_eq] at this; exact this.1.2
    have h4 := fmtE_len h2.2
    refine ⟨?_, h3, h2.2⟩
    simp only [lineR, List.length_append, List.length_cons, List.length_nil]
    have h5 : t.data.toList.length = t.size := by simp
    omega
end Go.Proofs.YtahdpocaldhamaaGreat

namespace Go.Proofs.YtahdpocaldhamaaGreat
set_option linter.unusedVariables false
open Go.RowKit

theorem ba_ext {a b : ByteArray} (h : a.data.toList = b.data.toList) : a = b := by
  cases a; cases b; simp at h; simp [h]
/-- a node whose text can be read back, but for its operands -/
def TxN (k : Int) (s : ByteArray) (n : Nat) : Prop :=
  (k = 1 ∧ n = 0 ∧ (39 : UInt8) ∉ s.data.toList) ∨ (k = 3 ∧ s = .empty) ∨ (k = 4 ∧ n = 4 ∧ s = .empty) ∨ ((k = 2 ∨ k = 5 ∨ k = 6 ∨ k = 7) ∧ n = 1 ∧ s = .empty)
def Tx : Fo → Prop
  | .nil => True
  | .node k s ks r => TxN k s ks.len ∧ Tx ks ∧ Tx r
/-- the byte that a node's text begins with -/
def hdB (k : Int) : UInt8 := if k = 1 then 39 else if k = 3 then 40 else if k = 4 then 91 else chrB k
/-- the rest of its text -/
def tlB (k : Int) (s : ByteArray) (ks : Fo) : List UInt8 := if k = 1 then s.data.toList ++ [39] else if k = 3 then fmS ks [] ++ [41] else if k = 4 then fmS ks [[61], [63], [58], [93]] else fmS ks []
theorem fm1_hd (k : Int) (s : ByteArray) (ks : Fo) : fm1 k s ks = hdB k :: tlB k s ks := by
  unfold fm1 hdB tlB
  by_cases h1 : k = 1
  · simp [h1]
  · by_cases h3 : k = 3
    · simp [h3]
    · by_cases h4 : k = 4
      · simp [h4]
      · simp [h1, h3, h4]
theorem txN_kind {k : Int} {s : ByteArray} {n : Nat} (h : TxN k s n) : k = 1 ∨ k = 2 ∨ k = 3 ∨ k = 4 ∨ k = 5 ∨ k = 6 ∨ k = 7 := by
  rcases h with h | h | h | h <;> omega
theorem hd_inj {k k' : Int} (h : k = 1 ∨ k = 2 ∨ k = 3 ∨ k = 4 ∨ k = 5 ∨ k = 6 ∨ k = 7) (h' : k' = 1 ∨ k' = 2 ∨ k' = 3 ∨ k' = 4 ∨ k' = 5 ∨ k' = 6 ∨ k' = 7) (e : hdB k = hdB k') : k = k' := by
  rcases h with rfl | rfl | rfl | rfl | rfl | rfl | rfl <;> rcases h' with rfl | rfl | rfl | rfl | rfl | rfl | rfl <;> first | rfl | (exact absurd e (by decide))
theorem hd_not {k : Int} (h : k = 1 ∨ k = 2 ∨ k = 3 ∨ k = 4 ∨ k = 5 ∨ k = 6 ∨ k = 7) : hdB k ≠ 41 := by
  rcases h with rfl | rfl | rfl | rfl | rfl | rfl | rfl <;> decide
theorem quote_uniq : ∀ {x y t t' : List UInt8}, (39 : UInt8) ∉ x → (39 : UInt8) ∉ y → x ++ 39 :: t = y ++ 39 :: t' → x = y ∧ t = t'
  | [], [], _, _, _, _, h => ⟨rfl, by simpa using h⟩
  | [], b :: y, _, _, _, hy, h => by simp at h hy; exact absurd h.1 hy.1
  | a :: x, [], _, _, hx, _, h => by simp at h hx; exact absurd h.1.symm hx.1
  | a :: x, b :: y, _, _, hx, hy, h => by
    simp at h hx hy
    obtain ⟨h1, h2⟩ := quote_uniq hx.2 hy.2 h.2
    exact ⟨by rw [h.1, h1], h2⟩
/-- with as many nodes, or before a closing bracket, a list has one reading -/
def UnP (f : Fo) : Prop := ∀ g seps t t', Tx f → Tx g → f.len = g.len → fmS f seps ++ t = fmS g seps ++ t' → f = g ∧ t = t'
def UnJ (f : Fo) : Prop := ∀ g t t', Tx f → Tx g → fmS f [] ++ 41 :: t = fmS g [] ++ 41 :: t' → f = g ∧ t = t'
theorem u1_of {k k' : Int} {s s' : ByteArray} {ks ks' : Fo} {t t' : List UInt8} (ih : UnP ks ∧ UnJ ks) (h : TxN k s ks.len) (hk : Tx ks) (h' : TxN k' s' ks'.len) (hk' : Tx ks') (e : fm1 k s ks ++ t = fm1 k' s' ks' ++ t') : k = k' ∧ s = s' ∧ ks = ks' ∧ t = t' := by
  rw [fm1_hd, fm1_hd, List.cons_append, List.cons_append] at e
  injection e with e1 e2
  obtain rfl := hd_inj (txN_kind h) (txN_kind h') e1
  rcases h with ⟨rfl, h0, hq⟩ | ⟨rfl, hs⟩ | ⟨rfl, h0, hs⟩ | ⟨hk7, h0, hs⟩
  · obtain ⟨h0', hq'⟩ : ks'.len = 0 ∧ (39 : UInt8) ∉ s'.data.toList := by
      rcases h' with ⟨_, h1, h2⟩ | ⟨h', _⟩ | ⟨h', _⟩ | ⟨h', _⟩
      · exact ⟨h1, h2⟩
      all_goals omega
    simp only [tlB, if_true, List.append_assoc, List.singleton_append] at e2
    obtain ⟨h1, h2⟩ := quote_uniq hq hq' e2
    exact ⟨rfl, ba_ext h1, by rw [len_zero h0, len_zero h0'], h2⟩
  · have hs' : s' = .empty := by
      rcases h' with ⟨h', _⟩ | ⟨_, h1⟩ | ⟨h', _⟩ | ⟨h', _⟩
      · omega
      · exact h1
      all_goals omega
    simp only [tlB, if_true, show ¬ ((3 : Int) = 1) from by decide, if_false, List.append_assoc, List.singleton_append] at e2
    obtain ⟨h1, h2⟩ := ih.2 _ _ _ hk hk' e2
    exact ⟨rfl, hs.trans hs'.symm, h1, h2⟩
  · obtain ⟨h0', hs'⟩ : ks'.len = 4 ∧ s' = .empty := by
      rcases h' with ⟨h', _⟩ | ⟨h', _⟩ | ⟨_, h1, h2⟩ | ⟨h', _⟩
      · omega
      · omega
      · exact ⟨h1, h2⟩
      · omega
    simp only [tlB, if_true, show ¬ ((4 : Int) = 1) from by decide, show ¬ ((4 : Int) = 3) from by decide, if_false] at e2
    obtain ⟨h1, h2⟩ := ih.1 _ _ _ _ hk hk' (h0.trans h0'.symm) e2
    exact ⟨rfl, hs.trans hs'.symm, h1, h2⟩
  · obtain ⟨h0', hs'⟩ : ks'.len = 1 ∧ s' = .empty := by
      rcases h' with ⟨h', _⟩ | ⟨h', _⟩ | ⟨h', _⟩ | ⟨_, h1, h2⟩
      · omega
      · omega
      · omega
      · exact ⟨h1, h2⟩
    unfold tlB at e2
    rw [if_neg (by omega), if_neg (by omega), if_neg (by omega), if_neg (by omega), if_neg (by omega), if_neg (by omega)] at e2
    obtain ⟨h1, h2⟩ := ih.1 _ _ _ _ hk hk' (h0.trans h0'.symm) e2
    exact ⟨rfl, hs.trans hs'.symm, h1, h2⟩
theorem un_all : ∀ f : Fo, UnP f ∧ UnJ f
  | .nil => by
    refine ⟨fun g seps t t' _ _ hl e => ?_, fun g t t' _ hg e => ?_⟩
    · obtain rfl := len_zero (ks := g) hl.symm
      exact ⟨rfl, by simpa [fmS] using e⟩
    · match g, hg, e with
      | .nil, _, e => exact ⟨rfl, by simpa [fmS] using e⟩
      | .node k s ks r, hg, e =>
        rw [fmS_node, fm1_hd] at e
        simp only [fmS, List.nil_append, List.cons_append] at e
        injection e with e1 _
        exact absurd e1.symm (hd_not (txN_kind hg.1))
  | .node k s ks r => by
    have ihk := un_all ks
    have ihr := un_all r
    refine ⟨fun g seps t t' hf hg hl e => ?_, fun g t t' hf hg e => ?_⟩
    · match g, hg, hl, e with
      | .nil, _, hl, _ => simp [Fo.len] at hl
      | .node k' s' ks' r', hg, hl, e =>
        rw [fmS_node, fmS_node, List.append_assoc, List.append_assoc, List.append_assoc, List.append_assoc] at e
        obtain ⟨rfl, rfl, rfl, e2⟩ := u1_of ihk hf.1 hf.2.1 hg.1 hg.2.1 e
        have e3 := List.append_cancel_left e2
        obtain ⟨rfl, h2⟩ := ihr.1 r' seps.tail t t' hf.2.2 hg.2.2 (by simp only [Fo.len] at hl; omega) e3
        exact ⟨rfl, h2⟩
    · match g, hg, e with
      | .nil, _, e =>
        rw [fmS_node, fm1_hd] at e
        simp only [fmS, List.nil_append, List.cons_append] at e
        injection e with e1 _
        exact absurd e1 (hd_not (txN_kind hf.1))
      | .node k' s' ks' r', hg, e =>
        rw [fmS_node, fmS_node, List.append_assoc, List.append_assoc, List.append_assoc, List.append_assoc] at e
        obtain ⟨rfl, rfl, rfl, e2⟩ := u1_of ihk hf.1 hf.2.1 hg.1 hg.2.1 e
        simp only [List.headD_nil, List.tail_nil, List.nil_append] at e2
        obtain ⟨rfl, h2⟩ := ihr.2 r' t t' hf.2.2 hg.2.2 e2
        exact ⟨rfl, h2⟩
theorem u1 {k k' : Int} {s s' : ByteArray} {ks ks' : Fo} {t t' : List UInt8} (h : TxN k s ks.len) (hk : Tx ks) (h' : TxN k' s' ks'.len) (hk' : Tx ks') (e : fm1 k s ks ++ t = fm1 k' s' ks' ++ t') : k = k' ∧ s = s' ∧ ks = ks' ∧ t = t' := u1_of (un_all ks) h hk h' hk' e

namespace Fo
/-- two lists, one behind the other -/
def app : Fo → Fo → Fo
  | .nil, g => g
  | .node k s ks r, g => .node k s ks (r.app g)
theorem app_size : ∀ f g : Fo, (f.app g).size = f.size + g.size
  | .nil, g => by simp [app, size]
  | .node k s ks r, g => by simp only [app, size, app_size r]; omega
theorem app_len : ∀ f g : Fo, (f.app g).len = f.len + g.len
  | .nil, g => by simp [app, len]
  | .node k s ks r, g => by simp only [app, len, app_len r]; omega
theorem app_nil : ∀ f : Fo, f.app .nil = f
  | .nil => rfl
  | .node k s ks r => by simp only [app, app_nil r]
end Fo
theorem tx_app : ∀ {f g : Fo}, Tx (f.app g) → Tx g
  | .nil, _, h => h
  | .node k s ks r, _, h => tx_app (f := r) h.2.2
/-- what stands behind the nodes that were read is the text of the others -/
theorem read_on : ∀ {f ks : Fo} {seps : List (List UInt8)} {cur tail : List UInt8}, Tx f → Tx ks → f.len ≤ ks.len → fmS f seps ++ cur = fmS ks seps ++ tail → ∃ g, ks = f.app g ∧ cur = fmS g (seps.drop f.len) ++ tail
  | .nil, ks, seps, cur, tail, _, _, _, e => ⟨ks, rfl, by simpa [fmS, Fo.len] using e⟩
  | .node k s k1 r, .nil, _, _, _, _, _, hl, _ => absurd hl (by simp [Fo.len])
  | .node k s k1 r, .node k' s' k1' r', seps, cur, tail, hf, hg, hl, e => by
    rw [fmS_node, fmS_node, List.append_assoc, List.append_assoc, List.append_assoc, List.append_assoc] at e
    obtain ⟨rfl, rfl, rfl, e2⟩ := u1 hf.1 hf.2.1 hg.1 hg.2.1 e
    obtain ⟨g, rfl, h2⟩ := read_on (f := r) (ks := r') hf.2.2 hg.2.2 (by simp only [Fo.len] at hl; omega) (List.append_cancel_left e2)
    refine ⟨g, rfl, ?_⟩
    rw [h2]
    cases seps with
    | nil => simp [Fo.len]
    | cons a l => simp [Fo.len]
theorem read_join : ∀ {f ks : Fo} {cur tail : List UInt8}, Tx f → Tx ks → fmS f [] ++ cur = fmS ks [] ++ 41 :: tail → ∃ g, ks = f.app g ∧ cur = fmS g [] ++ 41 :: tail
  | .nil, ks, cur, tail, _, _, e => ⟨ks, rfl, by simpa [fmS] using e⟩
  | .node k s k1 r, .nil, cur, tail, hf, _, e => by
    rw [fmS_node, fm1_hd] at e
    simp only [fmS, List.nil_append, List.cons_append] at e
    injection e with e1 _
    exact absurd e1 (hd_not (txN_kind hf.1))
  | .node k s k1 r, .node k' s' k1' r', cur, tail, hf, hg, e => by
    rw [fmS_node, fmS_node, List.append_assoc, List.append_assoc, List.append_assoc, List.append_assoc] at e
    obtain ⟨rfl, rfl, rfl, e2⟩ := u1 hf.1 hf.2.1 hg.1 hg.2.1 e
    simp only [List.headD_nil, List.tail_nil, List.nil_append] at e2
    obtain ⟨g, rfl, h2⟩ := read_join (f := r) (ks := r') hf.2.2 hg.2.2 e2
    exact ⟨g, rfl, h2⟩

/-- no node of at most this size can be read off the text -/
def NoRead (l : List UInt8) (n : Nat) : Prop := ∀ (k : Int) (s : ByteArray) (ks : Fo) (tail : List UInt8), TxN k s ks.len → Tx ks → l = fm1 k s ks ++ tail → n < ks.size + 1
/-- a node is read off the text -/
def Reads1 (l : List UInt8) (n : Nat) (k : Int) (s : ByteArray) (ks : Fo) (tail : List UInt8) : Prop := TxN k s ks.len ∧ Tx ks ∧ l = fm1 k s ks ++ tail ∧ ks.size + 1 ≤ n
theorem noRead_zero (l : List UInt8) : NoRead l 0 := fun _ _ _ _ _ _ _ => Nat.succ_pos _
theorem noRead_nil (n : Nat) : NoRead [] n := fun k s ks tail _ _ e => by rw [fm1_hd] at e; simp at e
theorem noRead_hd {c : UInt8} {l : List UInt8} {n : Nat} (h : ∀ k : Int, (k = 1 ∨ k = 2 ∨ k = 3 ∨ k = 4 ∨ k = 5 ∨ k = 6 ∨ k = 7) → hdB k ≠ c) : NoRead (c :: l) n := fun k s ks tail h1 _ e => by
  rw [fm1_hd, List.cons_append] at e
  injection e with e1 _
  exact absurd e1.symm (h k (txN_kind h1))
/-- a list of nodes that is read off the text: so far -/
def ReadsS (l : List UInt8) (n : Nat) (seps : List (List UInt8)) (f : Fo) (cur : List UInt8) : Prop := Tx f ∧ l = fmS f seps ++ cur ∧ f.size ≤ n
def NoJoin (l : List UInt8) (n : Nat) : Prop := ∀ (ks : Fo) (tail : List UInt8), Tx ks → l = fmS ks [] ++ 41 :: tail → n < ks.size
def NoSeps (l : List UInt8) (n : Nat) (seps : List (List UInt8)) : Prop := ∀ (ks : Fo) (tail : List UInt8), Tx ks → ks.len = seps.length → l = fmS ks seps ++ tail → n < ks.size
theorem noJoin_of {l : List UInt8} {n : Nat} {f : Fo} {cur : List UInt8} (h : ReadsS l n [] f cur) (h1 : ∀ t, cur ≠ 41 :: t) (h2 : NoRead cur (n - f.size)) : NoJoin l n := by
  intro ks tail hk e
  obtain ⟨hf, hl, hz⟩ := h
  obtain ⟨g, rfl, hc⟩ := read_join hf hk (hl.symm.trans e)
  match g, hk, hc with
  | .nil, _, hc => exact absurd (by simpa [fmS] using hc) (h1 tail)
  | .node k s k1 r, hk, hc =>
    have hg := tx_app hk
    rw [fmS_node, List.append_assoc, List.append_assoc] at hc
    have := h2 k s k1 _ hg.1 hg.2.1 hc
    rw [Fo.app_size]
    simp only [Fo.size]
    omega
theorem noSeps_expr {l : List UInt8} {n : Nat} {seps : List (List UInt8)} {f : Fo} {cur : List UInt8} (h : ReadsS l n seps f cur) (hj : f.len < seps.length) (h2 : NoRead cur (n - f.size)) : NoSeps l n seps := by
  intro ks tail hk hlen e
  obtain ⟨hf, hl, hz⟩ := h
  obtain ⟨g, rfl, hc⟩ := read_on hf hk (by omega) (hl.symm.trans e)
  rw [Fo.app_len] at hlen
  match g, hk, hc with
  | .nil, _, _ => simp only [Fo.len] at hlen; omega
  | .node k s k1 r, hk, hc =>
    have hg := tx_app hk
    rw [fmS_node, List.append_assoc, List.append_assoc] at hc
    have := h2 k s k1 _ hg.1 hg.2.1 hc
    rw [Fo.app_size]
    simp only [Fo.size]
    omega
theorem noSeps_mark {l : List UInt8} {n : Nat} {seps : List (List UInt8)} {f : Fo} {cur cur2 : List UInt8} {k : Int} {s : ByteArray} {ks1 : Fo} {m : List UInt8} (h : ReadsS l n seps f cur) (hj : seps[f.len]? = some m) (h2 : Reads1 cur (n - f.size) k s ks1 cur2) (h3 : ∀ t, cur2 ≠ m ++ t) : NoSeps l n seps := by
  intro ks tail hk hlen e
  obtain ⟨hf, hl, hz⟩ := h
  have hjl := (List.getElem?_eq_some_iff.1 hj).1
  obtain ⟨g, rfl, hc⟩ := read_on hf hk (by omega) (hl.symm.trans e)
  rw [Fo.app_len] at hlen
  match g, hk, hc with
  | .nil, _, _ => simp only [Fo.len] at hlen; omega
  | .node k' s' k1 r, hk, hc =>
    have hg := tx_app hk
    rw [fmS_node, List.append_assoc, List.append_assoc, h2.2.2.1] at hc
    obtain ⟨rfl, rfl, rfl, e2⟩ := u1 h2.1 h2.2.1 hg.1 hg.2.1 hc
    have hd : seps.drop f.len = m :: seps.drop (f.len + 1) := by
      obtain ⟨h5, h6⟩ := List.getElem?_eq_some_iff.1 hj
      rw [List.drop_eq_getElem_cons h5, h6]
    rw [hd] at e2
    exact absurd (by simpa using e2) (h3 _)
end Go.Proofs.YtahdpocaldhamaaGreat

namespace Go.Proofs.YtahdpocaldhamaaGreat
set_option linter.unusedVariables false
open Go.RowKit

theorem nodeB_txN {k : Int} {s : ByteArray} {n : Nat} (h : nodeB k s n = true) : TxN k s n := by
  rcases node_kinds h with ⟨h1, h2, h3⟩ | ⟨h1, h2, h3⟩ | ⟨h1, h2, h3⟩ | ⟨h1, h2, h3⟩
  · refine .inl ⟨h1, h2, fun h4 => ?_⟩
    unfold plainB noQ at h3
    simp only [Bool.and_eq_true, List.all_eq_true, decide_eq_true_eq] at h3
    exact h3.1 39 h4 rfl
  · exact .inr (.inl ⟨h1, h3⟩)
  · exact .inr (.inr (.inl ⟨h1, h2, h3⟩))
  · exact .inr (.inr (.inr ⟨h1, h2, h3⟩))
theorem shape_tx : ∀ {f : Fo} {d : Nat}, shape f d = true → Tx f
  | .nil, _, _ => trivial
  | .node k s ks r, d, h => by
    simp only [shape, Bool.and_eq_true] at h
    exact ⟨nodeB_txN h.1.1.2, shape_tx h.1.2, shape_tx h.2⟩
theorem shape_one {k : Int} {s : ByteArray} {ks : Fo} {d : Nat} (h : shape (.node k s ks .nil) d = true) : 1 ≤ d ∧ nodeB k s ks.len = true ∧ shape ks (d - 1) = true := by
  simp only [shape, Bool.and_eq_true, decide_eq_true_eq, and_true] at h
  exact ⟨h.1.1, h.1.2, h.2⟩
theorem shape_app : ∀ {f g : Fo} {d : Nat}, shape (f.app g) d = true → shape g d = true
  | .nil, _, _, h => h
  | .node k s ks r, _, d, h => by simp only [Fo.app, shape, Bool.and_eq_true] at h; exact shape_app (f := r) h.2
theorem app_snoc (k : Int) (s : ByteArray) (ks g : Fo) (sn : Fo → Int → ByteArray → Fo → Fo) (hn : ∀ k s ks, sn .nil k s ks = .node k s ks .nil) (hc : ∀ k' s' ks' r k s ks, sn (.node k' s' ks' r) k s ks = .node k' s' ks' (sn r k s ks)) : ∀ f : Fo, f.app (.node k s ks g) = (sn f k s ks).app g
  | .nil => by rw [hn]; rfl
  | .node k' s' ks' r => by rw [hc]; simp only [Fo.app, app_snoc k s ks g sn hn hc r]
/-- how large a node may be at a depth -/
def Bd : Nat → Nat
  | 0 => 1
  | d + 1 => 1 + 5 * Bd d
theorem Bd_pos : ∀ d, 1 ≤ Bd d
  | 0 => Nat.le_refl _
  | d + 1 => by simp only [Bd]; omega
theorem Bd_mono : ∀ d, Bd d ≤ Bd (d + 1)
  | d => by have := Bd_pos d; simp only [Bd]; omega
/-- what the reference hands back is of a bounded size -/
def NOk (d : Nat) (k : Int) (s : ByteArray) (ks : Fo) : Prop := ks.size + 1 ≤ Bd d ∧ s.size ≤ 1048576 ∧ ks.Fits ∧ ks.len ≤ 5
theorem nok_zero (d : Nat) (k : Int) : NOk d k ⟨#[]⟩ .nil := ⟨by have := Bd_pos d; simp only [Fo.size]; omega, Nat.zero_le _, trivial, Nat.zero_le _⟩
/-- if the text at this place begins with a node of this depth, that is it -/
def Want (t : List UInt8) (d : Nat) (at_ : Nat) (k : Int) (s : ByteArray) (ks : Fo) (next : Int) : Prop := ∀ k' s' ks' tail, shape (.node k' s' ks' .nil) d = true → t = fm1 k' s' ks' ++ tail → k = k' ∧ s = s' ∧ ks = ks' ∧ next = at_ + (fm1 k' s' ks').length
def sp4 : List (List UInt8) := [[61], [63], [58], [93]]
def Want4 (r : List UInt8) (d : Nat) (at_ : Nat) (k : Int) (s : ByteArray) (ks : Fo) (next : Int) : Prop := ∀ ks' tail, shape ks' d = true → ks'.len = 4 → r = fmS ks' sp4 ++ tail → k = 4 ∧ s = .empty ∧ ks = ks' ∧ next = at_ + (fmS ks' sp4).length
def Want3 (r : List UInt8) (d : Nat) (at_ : Nat) (k : Int) (s : ByteArray) (ks : Fo) (next : Int) : Prop := ∀ ks' tail, shape ks' d = true → ks'.len ≤ 4 → r = fmS ks' [] ++ 41 :: tail → k = 3 ∧ s = .empty ∧ ks = ks' ∧ next = at_ + (fmS ks' []).length + 1
section
variable {t r : List UInt8} {d at_ : Nat} {k K : Int} {s : ByteArray} {ks : Fo} {next : Int}
theorem want_zero : Want t 0 at_ k s ks next := fun k' s' ks' tail h => absurd (shape_one h).1 (by omega)
theorem want_nil : Want [] d at_ k s ks next := fun k' s' ks' tail _ e => by rw [fm1_hd] at e; simp at e
theorem want_other {c : UInt8} (h : ∀ k : Int, (k = 1 ∨ k = 2 ∨ k = 3 ∨ k = 4 ∨ k = 5 ∨ k = 6 ∨ k = 7) → hdB k ≠ c) : Want (c :: r) d at_ k s ks next := fun k' s' ks' tail h1 e => by
  rw [fm1_hd, List.cons_append] at e
  injection e with e1 _
  exact absurd e1.symm (h k' (txN_kind (nodeB_txN (shape_one h1).2.1)))
theorem want_text {x y : List UInt8} (hx : (39 : UInt8) ∉ x) : Want (39 :: (x ++ 39 :: y)) d at_ 1 ⟨x.toArray⟩ .nil ((at_ : Int) + 1 + x.length + 1) := fun k' s' ks' tail h1 e => by
  have ht := nodeB_txN (shape_one h1).2.1
  have hz : TxN 1 (⟨x.toArray⟩ : ByteArray) Fo.nil.len := .inl ⟨rfl, rfl, by simpa using hx⟩
  have e2 : fm1 1 ⟨x.toArray⟩ .nil ++ y = fm1 k' s' ks' ++ tail := by rw [← e, fm1_hd]; simp [hdB, tlB]
  obtain ⟨rfl, rfl, rfl, rfl⟩ := u1 hz trivial ht (shape_tx (shape_one h1).2.2) e2
  refine ⟨rfl, rfl, rfl, ?_⟩
  rw [fm1_hd]; simp [tlB]; omega
theorem want_noquote (h : (39 : UInt8) ∉ r) : Want (39 :: r) d at_ k s ks next := fun k' s' ks' tail h1 e => by
  rw [fm1_hd, List.cons_append] at e
  injection e with e1 e2
  obtain rfl := hd_inj (txN_kind (nodeB_txN (shape_one h1).2.1)) (.inl rfl : (1 : Int) = 1 ∨ _) e1.symm
  exact absurd (by rw [e2]; simp [tlB]) h
theorem want_four (h : Want4 r d (at_ + 1) k s ks next) : Want (91 :: r) (d + 1) at_ k s ks next := fun k' s' ks' tail h1 e => by
  obtain ⟨_, h2, h3⟩ := shape_one h1
  have ht := nodeB_txN h2
  rw [fm1_hd, List.cons_append] at e
  injection e with e1 e2
  obtain rfl := hd_inj (txN_kind ht) (by omega : (4 : Int) = 1 ∨ _) e1.symm
  obtain ⟨hl, he⟩ : ks'.len = 4 ∧ s' = .empty := by
    rcases ht with ⟨h, _⟩ | ⟨h, _⟩ | ⟨_, h5, h6⟩ | ⟨h, _⟩
    · omega
    · omega
    · exact ⟨h5, h6⟩
    · omega
  have e3 : r = fmS ks' sp4 ++ tail := by simpa [tlB, sp4] using e2
  obtain ⟨h4, h5, h6, h7⟩ := h ks' tail (by simpa using h3) hl e3
  refine ⟨h4, h5.trans he.symm, h6, ?_⟩
  rw [h7, fm1_hd]; simp [tlB, sp4]; omega
theorem want_join (h : Want3 r d (at_ + 1) k s ks next) : Want (40 :: r) (d + 1) at_ k s ks next := fun k' s' ks' tail h1 e => by
  obtain ⟨_, h2, h3⟩ := shape_one h1
  have ht := nodeB_txN h2
  rw [fm1_hd, List.cons_append] at e
  injection e with e1 e2
  obtain rfl := hd_inj (txN_kind ht) (by omega : (3 : Int) = 1 ∨ _) e1.symm
  obtain ⟨hl, he⟩ : ks'.len ≤ 4 ∧ s' = .empty := by
    rcases node_kinds h2 with ⟨h, _⟩ | ⟨_, h5, h6⟩ | ⟨h, _⟩ | ⟨h, _⟩
    · omega
    · exact ⟨h5, h6⟩
    · omega
    · omega
  have e3 : r = fmS ks' [] ++ 41 :: tail := by simpa [tlB] using e2
  obtain ⟨h4, h5, h6, h7⟩ := h ks' tail (by simpa using h3) hl e3
  refine ⟨h4, h5.trans he.symm, h6, ?_⟩
  rw [h7, fm1_hd]; simp [tlB]; omega
theorem want_op (hK : K = 2 ∨ K = 5 ∨ K = 6 ∨ K = 7) (h : Want r d (at_ + 1) k s ks next) : Want (hdB K :: r) (d + 1) at_ K .empty (.node k s ks .nil) next := fun k' s' ks' tail h1 e => by
  obtain ⟨_, h2, h3⟩ := shape_one h1
  have ht := nodeB_txN h2
  rw [fm1_hd, List.cons_append] at e
  injection e with e1 e2
  obtain rfl := hd_inj (txN_kind ht) (by omega : K = 1 ∨ _) e1.symm
  obtain ⟨hl, he⟩ : ks'.len = 1 ∧ s' = .empty := by
    rcases ht with ⟨h, _⟩ | ⟨h, _⟩ | ⟨h, _⟩ | ⟨_, h5, h6⟩
    · omega
    · omega
    · omega
    · exact ⟨h5, h6⟩
  obtain ⟨k2, s2, f2, rfl⟩ := len_one hl
  have e3 : tlB k' s' (.node k2 s2 f2 .nil) = fm1 k2 s2 f2 := by
    unfold tlB
    rw [if_neg (by omega), if_neg (by omega), if_neg (by omega), fmS_one]
  rw [e3] at e2
  obtain ⟨rfl, rfl, rfl, h7⟩ := h k2 s2 f2 tail (by simpa using h3) e2
  refine ⟨rfl, he.symm, rfl, ?_⟩
  rw [h7, fm1_hd k', e3]; simp; omega
end
/-- what a list of operands that was read so far says of the rest: a comparison's -/
def R4 (l : List UInt8) (at0 d : Nat) (f : Fo) (at_ : Nat) : Prop := ∀ ks' tail, shape ks' d = true → ks'.len = 4 → l.drop at0 = fmS ks' sp4 ++ tail → ∃ g, ks' = f.app g ∧ l.drop at_ = fmS g (sp4.drop f.len) ++ tail ∧ at_ = at0 + (fmS f sp4).length
/-- .. a concatenation's -/
def R3 (l : List UInt8) (at0 d : Nat) (f : Fo) (at_ : Int) : Prop := ∀ ks' tail, shape ks' d = true → ks'.len ≤ 4 → l.drop at0 = fmS ks' [] ++ 41 :: tail → 0 ≤ at_ ∧ ∃ g, ks' = f.app g ∧ l.drop at_.toNat = fmS g [] ++ 41 :: tail ∧ at_ = at0 + (fmS f []).length
section
variable {l : List UInt8} {at0 d at_ : Nat} {f : Fo} {k : Int} {s : ByteArray} {ks : Fo} {next : Int} {sn : Fo → Int → ByteArray → Fo → Fo}
theorem r4_start : R4 l at0 d .nil at0 := fun ks' tail _ _ e => ⟨ks', rfl, by simpa [Fo.len] using e, by simp [fmS]⟩
theorem r3_start : R3 l at0 d .nil (at0 : Int) := fun ks' tail _ _ e => ⟨by omega, ks', rfl, by simpa using e, by simp [fmS]⟩
theorem fmS_snoc' (hn : ∀ k s ks, sn .nil k s ks = .node k s ks .nil) (hc : ∀ k' s' ks' r k s ks, sn (.node k' s' ks' r) k s ks = .node k' s' ks' (sn r k s ks)) (k : Int) (s : ByteArray) (ks : Fo) : ∀ (f : Fo) (sp : List (List UInt8)), fmS (sn f k s ks) sp = fmS f sp ++ fm1 k s ks ++ (sp.drop f.len).headD [] ∧ (sn f k s ks).len = f.len + 1
  | .nil, sp => by
    refine ⟨?_, by rw [hn]; rfl⟩
    rw [hn, fmS_node]
    show fm1 k s ks ++ sp.headD [] ++ [] = [] ++ fm1 k s ks ++ (sp.drop 0).headD []
    simp
  | .node k' s' ks' r, sp => by
    obtain ⟨h1, h2⟩ := fmS_snoc' hn hc k s ks r sp.tail
    rw [hc]
    simp only [fmS_node, Fo.len, h1, h2, and_true]
    cases sp with
    | nil => simp
    | cons a sp => simp
theorem drop_more {l a b : List UInt8} {n m : Nat} (h : l.drop n = a ++ b) (hm : m = n + a.length) : l.drop m = b := by
  subst hm
  rw [← List.drop_drop, h, List.drop_left]
theorem r4_next (hr : R4 l at0 d f at_) (hf : f.len < 4) (hw : Want (l.drop at_) d at_ k s ks next) {ks' : Fo} {tail : List UInt8} (h1 : shape ks' d = true) (h2 : ks'.len = 4) (h3 : l.drop at0 = fmS ks' sp4 ++ tail) :
    ∃ g m, ks' = f.app (.node k s ks g) ∧ sp4[f.len]? = some m ∧ next = at_ + (fm1 k s ks).length ∧ l.drop (at_ + (fm1 k s ks).length) = m ++ (fmS g (sp4.drop (f.len + 1)) ++ tail) ∧ at_ = at0 + (fmS f sp4).length := by
  obtain ⟨g, rfl, h4, h5⟩ := hr ks' tail h1 h2 h3
  rw [Fo.app_len] at h2
  match g, h1, h2, h4 with
  | .nil, _, h2, _ => simp only [Fo.len] at h2; omega
  | .node k' s' k1 g, h1, h2, h4 =>
    have hg := shape_app h1
    simp only [shape, Bool.and_eq_true] at hg
    have hlt : f.len < sp4.length := by show f.len < 4; exact hf
    have hd : sp4.drop f.len = sp4[f.len] :: sp4.drop (f.len + 1) := List.drop_eq_getElem_cons hlt
    rw [fmS_node, hd, List.append_assoc, List.append_assoc] at h4
    simp only [List.headD_cons, List.tail_cons] at h4
    obtain ⟨rfl, rfl, rfl, h7⟩ := hw k' s' k1 _ (by simp only [shape, Bool.and_eq_true, and_true]; exact hg.1) h4
    exact ⟨g, _, rfl, List.getElem?_eq_getElem hlt, h7, drop_more h4 rfl, h5⟩
theorem r4_step (hn : ∀ k s ks, sn .nil k s ks = .node k s ks .nil) (hc : ∀ k' s' ks' r k s ks, sn (.node k' s' ks' r) k s ks = .node k' s' ks' (sn r k s ks)) (hr : R4 l at0 d f at_) (hf : f.len < 4) {nx : Nat} (hw : Want (l.drop at_) d at_ k s ks (nx : Int)) : R4 l at0 d (sn f k s ks) (nx + 1) := fun ks' tail h1 h2 h3 => by
  obtain ⟨g, m, rfl, hm, h4, h5, h6⟩ := r4_next hr hf hw h1 h2 h3
  obtain ⟨h7, h8⟩ := fmS_snoc' hn hc k s ks f sp4
  have hml : m.length = 1 := by
    have : ∀ i (h : i < 4), (sp4[i]?.getD []).length = 1 := by decide
    have h9 := this f.len hf
    rw [hm] at h9
    exact h9
  refine ⟨g, app_snoc k s ks g sn hn hc f, ?_, ?_⟩
  · rw [h8]; exact drop_more h5 (by omega)
  · have h9 : (sp4.drop f.len).headD [] = m := by rw [List.headD_eq_head?_getD, List.head?_drop, hm]; rfl
    rw [h7, h9]; simp only [List.length_append]; omega
theorem r4_fail {k2 : Int} {s2 : ByteArray} {ks2 : Fo} {next2 : Int} (hr : R4 l at0 d f at_) (hf : f.len < 4) (hw : Want (l.drop at_) d at_ k s ks next) (hno : ∀ (nx : Nat) (m : List UInt8) (t : List UInt8), next = nx → sp4[f.len]? = some m → l.drop nx ≠ m ++ t) : Want4 (l.drop at0) d at0 k2 s2 ks2 next2 := fun ks' tail h1 h2 h3 => by
  obtain ⟨g, m, rfl, hm, h4, h5, h6⟩ := r4_next hr hf hw h1 h2 h3
  exact absurd h5 (hno _ m _ (by rw [h4]; omega) hm)
theorem r4_done (hr : R4 l at0 d f at_) (hf : f.len = 4) : Want4 (l.drop at0) d at0 4 .empty f at_ := fun ks' tail h1 h2 h3 => by
  obtain ⟨g, rfl, h4, h5⟩ := hr ks' tail h1 h2 h3
  rw [Fo.app_len] at h2
  obtain rfl := len_zero (ks := g) (by omega)
  rw [Fo.app_nil]
  exact ⟨rfl, rfl, rfl, by omega⟩
theorem r3_next (hr : R3 l at0 d f (at_ : Int)) (hw : Want (l.drop at_) d at_ k s ks next) (hc : ∀ t, l.drop at_ ≠ 41 :: t) {ks' : Fo} {tail : List UInt8} (h1 : shape ks' d = true) (h2 : ks'.len ≤ 4) (h3 : l.drop at0 = fmS ks' [] ++ 41 :: tail) :
    ∃ g, ks' = f.app (.node k s ks g) ∧ next = at_ + (fm1 k s ks).length ∧ l.drop (at_ + (fm1 k s ks).length) = fmS g [] ++ 41 :: tail ∧ at_ = at0 + (fmS f []).length := by
  obtain ⟨_, g, rfl, h4, h5⟩ := hr ks' tail h1 h2 h3
  simp only [Int.toNat_natCast] at h4
  match g, h1, h2, h4 with
  | .nil, _, _, h4 => exact absurd (by simpa [fmS] using h4) (hc tail)
  | .node k' s' k1 g, h1, h2, h4 =>
    have hg := shape_app h1
    simp only [shape, Bool.and_eq_true] at hg
    rw [fmS_node, List.append_assoc, List.append_assoc] at h4
    simp only [List.headD_nil, List.tail_nil, List.nil_append] at h4
    obtain ⟨rfl, rfl, rfl, h7⟩ := hw k' s' k1 _ (by simp only [shape, Bool.and_eq_true, and_true]; exact hg.1) h4
    exact ⟨g, rfl, h7, drop_more h4 rfl, by omega⟩
theorem r3_step (hn : ∀ k s ks, sn .nil k s ks = .node k s ks .nil) (hc : ∀ k' s' ks' r k s ks, sn (.node k' s' ks' r) k s ks = .node k' s' ks' (sn r k s ks)) (hr : R3 l at0 d f (at_ : Int)) (hw : Want (l.drop at_) d at_ k s ks next) (hno : ∀ t, l.drop at_ ≠ 41 :: t) : R3 l at0 d (sn f k s ks) next := fun ks' tail h1 h2 h3 => by
  obtain ⟨g, rfl, h4, h5, h6⟩ := r3_next hr hw hno h1 h2 h3
  obtain ⟨h7, h8⟩ := fmS_snoc' hn hc k s ks f []
  refine ⟨by omega, g, app_snoc k s ks g sn hn hc f, ?_, ?_⟩
  · rw [h4, show ((at_ : Int) + ((fm1 k s ks).length : Nat)).toNat = at_ + (fm1 k s ks).length from by omega]; exact h5
  · rw [h7]; simp only [List.drop_nil, List.headD_nil, List.append_nil, List.length_append]; omega
theorem r3_long {k2 : Int} {s2 : ByteArray} {ks2 : Fo} {next2 next : Int} (hr : R3 l at0 d f next) (hf : 4 < f.len) : Want3 (l.drop at0) d at0 k2 s2 ks2 next2 := fun ks' tail h1 h2 h3 => by
  obtain ⟨_, g, rfl, _⟩ := hr ks' tail h1 h2 h3
  rw [Fo.app_len] at h2
  omega
theorem r3_bad {k2 : Int} {s2 : ByteArray} {ks2 : Fo} {next2 next : Int} (hr : R3 l at0 d f next) (hf : next < 0 ∨ (l.length : Int) ≤ next) : Want3 (l.drop at0) d at0 k2 s2 ks2 next2 := fun ks' tail h1 h2 h3 => by
  obtain ⟨h4, g, rfl, h5, _⟩ := hr ks' tail h1 h2 h3
  have h6 : l.length ≤ next.toNat := by omega
  rw [List.drop_of_length_le h6] at h5
  exact absurd h5 (by simp)
theorem r3_done {t : List UInt8} (hr : R3 l at0 d f (at_ : Int)) (ht : l.drop at_ = 41 :: t) : Want3 (l.drop at0) d at0 3 .empty f ((at_ : Int) + 1) := fun ks' tail h1 h2 h3 => by
  obtain ⟨_, g, rfl, h4, h5⟩ := hr ks' tail h1 h2 h3
  simp only [Int.toNat_natCast] at h4
  rw [ht] at h4
  match g, h1, h4 with
  | .nil, _, _ => rw [Fo.app_nil]; exact ⟨rfl, rfl, rfl, by omega⟩
  | .node k' s' k1 g, h1, h4 =>
    have hg := shape_app h1
    simp only [shape, Bool.and_eq_true] at hg
    rw [fmS_node, fm1_hd] at h4
    simp only [List.cons_append] at h4
    injection h4 with h4 _
    exact absurd h4.symm (hd_not (txN_kind (nodeB_txN hg.1.1.2)))
end
end Go.Proofs.YtahdpocaldhamaaGreat

namespace Go.Proofs.YtahdpocaldhamaaGreat
set_option linter.unusedVariables false
open Go.RowKit

theorem validE_tx {k : Int} {s : ByteArray} {ks : Fo} (h : validE k s ks = true) : TxN k s ks.len ∧ Tx ks := by
  unfold validE at h
  rw [Bool.and_eq_true] at h
  have h1 := shape_tx h.1
  exact ⟨h1.1, h1.2.1⟩
theorem fmtE_law {r : Bool} {k k' : Int} {s s' : ByteArray} {ks ks' : Fo} (hr : r = true ↔ k = k' ∧ s = s' ∧ ks = ks') :
    fmtE k s ks = .empty ∨ fmtE k' s' ks' = .empty ∨ r = decide (fmtE k s ks = fmtE k' s' ks') := by
  by_cases h : validE k s ks = true
  · by_cases h' : validE k' s' ks' = true
    · refine .inr (.inr ?_)
      rw [Bool.eq_iff_iff, decide_eq_true_iff, hr]
      constructor
      · rintro ⟨rfl, rfl, rfl⟩
        rfl
      · intro e
        unfold fmtE at e
        rw [if_pos h, if_pos h'] at e
        have e1 : fm1 k s ks = fm1 k' s' ks' := by simpa using congrArg (fun x : ByteArray => x.data.toList) e
        obtain ⟨h1, h2⟩ := validE_tx h
        obtain ⟨h3, h4⟩ := validE_tx h'
        obtain ⟨e2, e3, e4, _⟩ := u1 (t := []) (t' := []) h1 h2 h3 h4 (by rw [e1])
        exact ⟨e2, e3, e4⟩
    · exact .inr (.inl (if_neg h'))
  · exact .inl (if_neg h)
end Go.Proofs.YtahdpocaldhamaaGreat

namespace Go.Proofs.YtahdpocaldhamaaGreat
set_option linter.unusedVariables false
open Go.RowKit

theorem sep_uniq {c : UInt8} : ∀ {x y t t' : List UInt8}, c ∉ x → c ∉ y → x ++ c :: t = y ++ c :: t' → x = y ∧ t = t'
  | [], [], _, _, _, _, h => ⟨rfl, by simpa using h⟩
  | [], b :: y, _, _, _, hy, h => by simp at h hy; exact absurd h.1 hy.1
  | a :: x, [], _, _, hx, _, h => by simp at h hx; exact absurd h.1.symm hx.1
  | a :: x, b :: y, _, _, hx, hy, h => by
    simp at h hx hy
    obtain ⟨h1, h2⟩ := sep_uniq hx.2 hy.2 h.2
    exact ⟨by rw [h.1, h1], h2⟩
theorem path_no {s : ByteArray} (h : pathB s = true) : (32 : UInt8) ∉ s.data.toList := fun hm => by
  have h1 := ((pathB_iff s).1 h).2.2
  unfold btw at h1
  rw [List.all_eq_true] at h1
  have := h1 _ hm
  revert this
  decide
theorem text_no {s : ByteArray} (h : textB s = true) : (10 : UInt8) ∉ s.data.toList := fun hm => by
  have h1 := ((textB_iff s).1 h).2
  unfold btw at h1
  rw [List.all_eq_true] at h1
  have := h1 _ hm
  revert this
  decide
/-- what is asked of the rules' part -/
def OkR (x : Ru) : Prop := pathB x.1 = true ∧ validE x.2.1 x.2.2.1 x.2.2.2 = true
def OkF (f : Fl) : Prop := pathB f.1 = true ∧ textB f.2 = true
theorem fmtE_fm1 {k : Int} {s : ByteArray} {ks : Fo} (h : validE k s ks = true) : (fmtE k s ks).data.toList = fm1 k s ks := by
  unfold fmtE
  rw [if_pos h]
theorem linesR_uniq : ∀ {rs qs : List Ru}, (∀ x ∈ rs, OkR x) → (∀ x ∈ qs, OkR x) → rs.flatMap lineR = qs.flatMap lineR → rs = qs
  | [], [], _, _, _ => rfl
  | [], y :: qs, _, _, h => by simp [lineR] at h
  | x :: rs, [], _, _, h => by simp [lineR] at h
  | x :: rs, y :: qs, h1, h2, h => by
    obtain ⟨t, k, s, ks⟩ := x
    obtain ⟨t', k', s', ks'⟩ := y
    obtain ⟨p1, v1⟩ := h1 _ (List.mem_cons_self ..)
    obtain ⟨p2, v2⟩ := h2 _ (List.mem_cons_self ..)
    simp only at p1 v1 p2 v2
    simp only [List.flatMap_cons, lineR, List.append_assoc] at h
    rw [fmtE_fm1 v1, fmtE_fm1 v2] at h
    have h3 := List.append_cancel_left h
    obtain ⟨e1, h4⟩ := sep_uniq (c := 32) (path_no p1) (path_no p2) (by simpa using h3)
    obtain ⟨a1, a2⟩ := validE_tx v1
    obtain ⟨b1, b2⟩ := validE_tx v2
    obtain ⟨rfl, rfl, rfl, h5⟩ := u1 a1 a2 b1 b2 h4
    have h6 : rs.flatMap lineR = qs.flatMap lineR := by simpa [lineR] using h5
    rw [linesR_uniq (fun x hx => h1 x (List.mem_cons_of_mem _ hx)) (fun x hx => h2 x (List.mem_cons_of_mem _ hx)) h6, ba_ext e1]
theorem linesP_uniq : ∀ {fs gs : List Fl} {rs qs : List Ru}, (∀ f ∈ fs, OkF f) → (∀ f ∈ gs, OkF f) → (∀ x ∈ rs, OkR x) → (∀ x ∈ qs, OkR x) → fs.flatMap lineS ++ rs.flatMap lineR = gs.flatMap lineS ++ qs.flatMap lineR → fs = gs ∧ rs = qs
  | [], [], rs, qs, _, _, h3, h4, h => ⟨rfl, linesR_uniq h3 h4 (by simpa using h)⟩
  | [], g :: gs, [], qs, _, _, _, _, h => by simp [lineS] at h
  | [], g :: gs, x :: rs, qs, _, _, _, _, h => by simp [lineS, lineR] at h
  | f :: fs, [], rs, [], _, _, _, _, h => by simp [lineS] at h
  | f :: fs, [], rs, x :: qs, _, _, _, _, h => by simp [lineS, lineR] at h
  | f :: fs, g :: gs, rs, qs, h1, h2, h3, h4, h => by
    obtain ⟨p, t⟩ := f
    obtain ⟨p', t'⟩ := g
    obtain ⟨c1, c2⟩ := h1 _ (List.mem_cons_self ..)
    obtain ⟨d1, d2⟩ := h2 _ (List.mem_cons_self ..)
    simp only at c1 c2 d1 d2
    simp only [List.flatMap_cons, lineS, List.append_assoc] at h
    have h5 := List.append_cancel_left h
    obtain ⟨e1, h6⟩ := sep_uniq (c := 32) (path_no c1) (path_no d1) (by simpa using h5)
    obtain ⟨e2, h7⟩ := sep_uniq (c := 10) (text_no c2) (text_no d2) (by simpa using h6)
    obtain ⟨r1, r2⟩ := linesP_uniq (fun x hx => h1 x (List.mem_cons_of_mem _ hx)) (fun x hx => h2 x (List.mem_cons_of_mem _ hx)) h3 h4 (by simpa [lineS] using h7)
    exact ⟨by rw [r1, ba_ext e1, ba_ext e2], r2⟩
theorem proj_ok {fs : List Fl} {rs : List Ru} (h : projB fs rs = true) : (∀ f ∈ fs, OkF f) ∧ ∀ x ∈ rs, OkR x := by
  have h0 := h
  unfold projB at h
  simp only [Bool.and_eq_true] at h
  refine ⟨fun f hf => (validB_iff.1 h.1.1).2.1 f hf, fun x hx => ?_⟩
  rw [projB_each] at h0
  simp only [Bool.and_eq_true, decide_eq_true_eq] at h0
  obtain ⟨j, hj⟩ := List.getElem?_of_mem hx
  have h1 := allTo_get h0.2 (List.getElem?_eq_some_iff.1 hj).1
  simp only [Bool.and_eq_true] at h1
  have h2 := h1.1.2
  unfold bodyAt at h2
  rw [ruGet_of hj] at h2
  simp only [Bool.and_eq_true] at h2
  exact h2
/-- equal texts, equal projects -/
theorem fmtP_uniq {fs gs : List Fl} {rs qs : List Ru} (h : projB fs rs = true) (h' : projB gs qs = true) (e : fmtP fs rs = fmtP gs qs) : fs = gs ∧ rs = qs := by
  unfold fmtP at e
  rw [if_pos h, if_pos h'] at e
  have e1 : linesP fs rs = linesP gs qs := by simpa using congrArg (fun x : ByteArray => x.data.toList) e
  exact linesP_uniq (proj_ok h).1 (proj_ok h').1 (proj_ok h).2 (proj_ok h').2 (by simpa [linesP] using e1)
theorem fmtP_law {r : Bool} {fs gs : List Fl} {rs qs : List Ru} (hr : r = true ↔ fs = gs ∧ rs = qs) :
    fmtP fs rs = .empty ∨ fmtP gs qs = .empty ∨ r = decide (fmtP fs rs = fmtP gs qs) := by
  by_cases h : projB fs rs = true
  · by_cases h' : projB gs qs = true
    · refine .inr (.inr ?_)
      rw [Bool.eq_iff_iff, decide_eq_true_iff, hr]
      exact ⟨fun ⟨h1, h2⟩ => by rw [h1, h2], fun e => fmtP_uniq h h' e⟩
    · exact .inr (.inl (if_neg h'))
  · exact .inl (if_neg h)
end Go.Proofs.YtahdpocaldhamaaGreat

namespace Go.Proofs.YtahdpocaldhamaaGreat
set_option linter.unusedVariables false
set_option linter.unusedSimpArgs false
open Go.RowKit

/-- a pair of addresses -/
abbrev Pr := (Nat × Nat) × (Nat × Nat)
def Pr.val (m : Pr) : Value := .agg #[.pointer (some ⟨m.1.1, m.1.2, none⟩), .pointer (some ⟨m.2.1, m.2.2, none⟩)]
def PPln (w : World) (m : Pr) : Prop := Pln w m.1.1 ∧ Pln w m.2.1
theorem expr_infoE : (Tryz.prog.info? 41).map (fun i => (i.zero, i.size, i.bytes)) = some (some (.agg #[.int .i64 0, .string .empty, .slice none 0 0]), 3, 48) := by kernel_rfl

theorem run_eq_ptr (w : World) (d : Nat) (p q : Nat × Nat) (hp : Pln w p.1) (hq : Pln w q.1) : (Op.equalIn (d + 1) 76 (.pointer (some ⟨p.1, p.2, none⟩)) (.pointer (some ⟨q.1, q.2, none⟩))).run Tryz.prog w = .ok (decide (p = q)) w := by
  obtain ⟨i, hi, hz0, hz1, hz2⟩ := info_parts expr_infoE
  have hu := Tryz.underlying76
  have hs : i.size ≠ 0 := by rw [hz1]; decide
  by_cases e : p = q
  · subst e
    simp [Op.equalIn, run_underlying hu, sizeOf, typeInfo, hi, hz1, run_sameAddr_same]
  · obtain ⟨c1, t1, h1⟩ := hp
    obtain ⟨c2, t2, h2⟩ := hq
    have hne : (⟨p.1, p.2, none⟩ : Addr) ≠ ⟨q.1, q.2, none⟩ := by
      intro h
      simp only [Addr.mk.injEq, and_true] at h
      exact e (Prod.ext h.1 h.2)
    simp [Op.equalIn, run_underlying hu, sizeOf, typeInfo, hi, hz1, run_sameAddr_other w hne h1 h2, e]

theorem run_eq_pair (w : World) (m m' : Pr) (h : PPln w m) (h' : PPln w m') : (Op.equal 78 m.val m'.val).run Tryz.prog w = .ok (decide (m = m')) w := by
  have hu := Tryz.underlying78
  have e1 := run_eq_ptr w 9998 m.1 m'.1 h.1 h'.1
  have e2 := run_eq_ptr w 9998 m.2 m'.2 h.2 h'.2
  rw [show 9998 + 1 = 9999 from rfl] at e1 e2
  unfold Op.equal Op.maxDepth Pr.val
  rw [show (10000 : Nat) = 9998 + 1 + 1 from rfl, run_equalIn_agg w (9998 + 1) 78 _ _ (by kernel_rfl) (by kernel_rfl)]
  simp only [Program.fieldsOf, hu, Op.eqFields]
  have hp0 := fun (a b : Value) => show (part 76 #[a, b] 0).run Tryz.prog w = .ok a w by
    simp [part, isAgg, run_underlying Tryz.underlying76]
  have hp1 := fun (a b : Value) => show (part 76 #[a, b] 1).run Tryz.prog w = .ok b w by
    simp [part, isAgg, run_underlying Tryz.underlying76]
  simp only [ne_eq, String.reduceEq, not_false_eq_true, if_true, Sem.run_bind, hp0, hp1, Result.andThen_ok, Nat.reduceAdd, e1, e2, Sem.run_ite, Sem.run_pure]
  by_cases h1 : m.1 = m'.1 <;> by_cases h2 : m.2 = m'.2 <;> simp [h1, h2, Prod.ext_iff]

/-- block b is the set of these pairs -/
def MapP (w : World) (b : Nat) (M : List Pr) : Prop := ∃ es clock, w.heap[b]? = some (.map es clock) ∧ es.toList.map (fun e => e.key) = M.map Pr.val ∧ ∀ e ∈ es.toList, e.val = .bool true
theorem MapP.lt {w : World} {b : Nat} {M : List Pr} (h : MapP w b M) : b < w.heap.size := let ⟨_, _, h, _⟩ := h; blk_lt h
theorem MapP.block {w w' : World} {b : Nat} {M : List Pr} (h : MapP w b M) (e : w'.heap[b]? = w.heap[b]?) : MapP w' b M := let ⟨es, c, h1, h2⟩ := h; ⟨es, c, e.trans h1, h2⟩

theorem run_find (w : World) (m : Pr) (hm : PPln w m) : ∀ (es : List MapEntry) (M : List Pr) (i : Nat), es.map (fun e => e.key) = M.map Pr.val → (∀ e ∈ es, e.val = .bool true) → (∀ x ∈ M, PPln w x) →
    if m ∈ M then ∃ j, (Instr.findAsking 78 m.val es i).run Tryz.prog w = .ok (some (j, .bool true)) w else (Instr.findAsking 78 m.val es i).run Tryz.prog w = .ok none w
  | [], [], i, _, _, _ => by simp [Instr.findAsking]
  | [], _ :: _, i, h, _, _ => by simp at h
  | _ :: _, [], i, h, _, _ => by simp at h
  | e :: es, x :: M, i, h, hv, hp => by
    simp only [List.map_cons, List.cons.injEq] at h
    obtain ⟨h1, h2⟩ := h
    have hr := run_eq_pair w m x hm (hp x (by simp))
    have ih := run_find w m hm es M (i + 1) h2 (fun e he => hv e (by simp [he])) (fun y hy => hp y (by simp [hy]))
    unfold Instr.findAsking
    rw [h1]
    by_cases hx : m = x
    · subst hx
      rw [if_pos (by simp)]
      refine ⟨i, ?_⟩
      simp [hr, hv e (by simp)]
    · by_cases hM : m ∈ M
      · rw [if_pos hM] at ih
        rw [if_pos (by simp [hM])]
        simpa [hr, hx] using ih
      · rw [if_neg hM] at ih
        rw [if_neg (by simp [hx, hM])]
        simpa [hr, hx] using ih

theorem run_checkPair (w : World) (em : Bool) (m : Pr) : (Instr.checkKey em 10000 78 m.val).run Tryz.prog w = .ok () w := by
  have hu := Tryz.underlying78
  have hp0 := fun (a b : Value) => show (part 76 #[a, b] 0).run Tryz.prog w = .ok a w by
    simp [part, isAgg, run_underlying Tryz.underlying76]
  have hp1 := fun (a b : Value) => show (part 76 #[a, b] 1).run Tryz.prog w = .ok b w by
    simp [part, isAgg, run_underlying Tryz.underlying76]
  have hc := fun (d : Nat) (a : Option Addr) => show (Instr.checkKey em (d + 1) 76 (.pointer a)).run Tryz.prog w = .ok () w by
    simp [Instr.checkKey, run_underlying Tryz.underlying76]
  have hc1 := hc 9998
  rw [show 9998 + 1 = 9999 from rfl] at hc1
  unfold Pr.val
  rw [show (10000 : Nat) = 9999 + 1 from rfl, Instr.checkKey]
  simp [run_underlying hu, hp0, hp1, hc1]

theorem run_look (w : World) (m : Pr) (hm : PPln w m) (b : Nat) (M : List Pr) (h : MapP w b M) (hp : ∀ x ∈ M, PPln w x) :
    (Instr.lookup 75 (.map (some b)) m.val false).run Tryz.prog w = .ok (.bool (decide (m ∈ M))) w := by
  obtain ⟨es, clock, h1, h2, h3⟩ := h
  have hf := run_find w m hm es.toList M 0 h2 h3 hp
  have hk := run_findKey_eq (P := Tryz.prog) w (k := 78) (by rw [Tryz.underlying78]) m.val es.toList
  have hz : (zeroValue 4).run Tryz.prog w = .ok (.bool false) w := by kernel_rfl
  have hu := run_underlying (P := Tryz.prog) (w := w) Tryz.underlying75
  have hc := run_checkPair w es.isEmpty m
  by_cases hx : m ∈ M
  · rw [if_pos hx] at hf
    obtain ⟨j, hf⟩ := hf
    simp [Instr.lookup, hu, MapKept.run_getObj_map h1, hc, hk, hf, hx]
  · rw [if_neg hx] at hf
    simp [Instr.lookup, hu, MapKept.run_getObj_map h1, hc, hk, hf, hx, hz]

theorem run_put (w : World) (m : Pr) (hm : PPln w m) (b : Nat) (M : List Pr) (h : MapP w b M) (hp : ∀ x ∈ M, PPln w x) (hx : m ∉ M) :
    ∃ w', (Instr.mapUpdate 75 (.map (some b)) m.val (.bool true)).run Tryz.prog w = .ok () w' ∧ MapP w' b (M ++ [m]) ∧ w.grownBy w' (some b) := by
  obtain ⟨es, clock, h1, h2, h3⟩ := h
  have hf := run_find w m hm es.toList M 0 h2 h3 hp
  have hk := run_findKey_eq (P := Tryz.prog) w (k := 78) (by rw [Tryz.underlying78]) m.val es.toList
  have hu := run_underlying (P := Tryz.prog) (w := w) Tryz.underlying75
  have hc := run_checkPair w false m
  rw [if_neg hx] at hf
  have hbl := blk_lt h1
  refine ⟨_, by simp [Instr.mapUpdate, hu, MapKept.run_getObj_map h1, hc, hk, hf, MapKept.run_setObj_map _ h1, Result.andThen]; rfl, ⟨es.push { key := m.val, val := .bool true, born := clock }, clock + 1, ?_, ?_, ?_⟩, ?_⟩
  · simp [hbl]
  · simp [h2]
  · intro e he
    simp only [Array.toList_push, List.mem_append, List.mem_singleton] at he
    rcases he with he | rfl
    · exact h3 e he
    · rfl
  · refine ⟨rfl, rfl, rfl, by simp, fun k hk hne => ?_⟩
    have : k ≠ b := fun e => hne (by rw [e])
    simp [Array.getElem?_setIfInBounds, this.symm]
end Go.Proofs.YtahdpocaldhamaaGreat

namespace Go.Proofs.YtahdpocaldhamaaGreat
set_option linter.unusedVariables false
set_option linter.unusedSimpArgs false
open Go.RowKit

section
variable {w w' : World}
/-- two nodes that agree but for their operands, the pairs of which are in M -/
def LocP (w : World) (M : Pr → Prop) (m : Pr) : Prop := ∃ k s ks ks' a a' n c c', RdN w k s ks m.1 ∧ RdN w k s ks' m.2 ∧ w.cell? ⟨m.1.1, m.1.2 + 2, none⟩ = some (.slice a n c) ∧ w.cell? ⟨m.2.1, m.2.2 + 2, none⟩ = some (.slice a' n c') ∧ ∀ i, i < n → M (kid a i, kid a' i)
theorem LocP.more {M M' : Pr → Prop} {m : Pr} (h : LocP w M m) (hM : ∀ x, M x → M' x) : LocP w M' m :=
  let ⟨k, s, ks, ks', a, a', n, c, c', h1, h2, h3, h4, h5⟩ := h
  ⟨k, s, ks, ks', a, a', n, c, c', h1, h2, h3, h4, fun i hi => hM _ (h5 i hi)⟩
/-- in a closed set stand pairs of equal trees only -/
theorem closed_eq {M : Pr → Prop} (hM : ∀ m, M m → LocP w M m) (N : Nat) : ∀ {k k' : Int} {s s' : ByteArray} {ks ks' : Fo} {m : Pr}, ks.size ≤ N → RdN w k s ks m.1 → RdN w k' s' ks' m.2 → M m → k = k' ∧ s = s' ∧ ks = ks' := by
  induction N with
  | zero =>
    intro k k' s s' ks ks' m hN h h' hm
    obtain ⟨k1, s1, f, f', a, a', n, c, c', h1, h2, h3, h4, h5⟩ := hM m hm
    obtain ⟨rfl, rfl, rfl⟩ := h.inj h1
    obtain ⟨rfl, rfl, rfl⟩ := h'.inj h2
    refine ⟨rfl, rfl, ?_⟩
    obtain ⟨_, _, _, a1, n1, c1, e1, _, e2⟩ := h
    obtain ⟨_, _, _, a2, n2, c2, e3, _, e4⟩ := h'
    rw [h3] at e1
    rw [h4] at e3
    cases e1
    cases e3
    have := ks.len_size
    have h0 : n = 0 := by rw [← e2.1]; omega
    refine Fo.ext fun j => ?_
    rw [fo_none (by rw [e2.1]; omega), fo_none (by rw [e4.1]; omega)]
  | succ N ih =>
    intro k k' s s' ks ks' m hN h h' hm
    obtain ⟨k1, s1, f, f', a, a', n, c, c', h1, h2, h3, h4, h5⟩ := hM m hm
    obtain ⟨rfl, rfl, rfl⟩ := h.inj h1
    obtain ⟨rfl, rfl, rfl⟩ := h'.inj h2
    refine ⟨rfl, rfl, ?_⟩
    obtain ⟨_, _, _, a1, n1, c1, e1, _, e2⟩ := h
    obtain ⟨_, _, _, a2, n2, c2, e3, _, e4⟩ := h'
    rw [h3] at e1
    rw [h4] at e3
    cases e1
    cases e3
    refine Fo.ext fun j => ?_
    by_cases hj : j < n
    · obtain ⟨kj, sj, fj, hg, hr⟩ := e2.get hj
      obtain ⟨kj', sj', fj', hg', hr'⟩ := e4.get hj
      obtain ⟨rfl, rfl, rfl⟩ := ih (m := (kid a j, kid a' j)) (by have := Fo.get_size hg; omega) hr hr' (h5 j hj)
      rw [hg, hg']
    · rw [fo_none (by rw [e2.1]; omega), fo_none (by rw [e4.1]; omega)]
/-- how many nodes the left trees of these pairs have -/
def SumS (w : World) : List Pr → Nat → Prop
  | [], N => N = 0
  | m :: W, N => ∃ k s ks N', RdN w k s ks m.1 ∧ SumS w W N' ∧ N = ks.size + 1 + N'
theorem SumS.len : ∀ {W : List Pr} {N : Nat}, SumS w W N → W.length ≤ N
  | [], _, _ => Nat.zero_le _
  | m :: W, N, ⟨k, s, ks, N', _, h, e⟩ => by have := SumS.len h; simp only [List.length_cons]; omega
theorem SumS.push {k : Int} {s : ByteArray} {ks : Fo} {m : Pr} (hr : RdN w k s ks m.1) : ∀ {W : List Pr} {N : Nat}, SumS w W N → SumS w (W ++ [m]) (N + (ks.size + 1))
  | [], N, h => ⟨k, s, ks, 0, hr, rfl, by simp only [SumS] at h; omega⟩
  | x :: W, N, ⟨k', s', ks', N', h1, h2, e⟩ => ⟨k', s', ks', _, h1, SumS.push hr h2, by omega⟩
theorem SumS.pop {k : Int} {s : ByteArray} {ks : Fo} {m : Pr} (hr : RdN w k s ks m.1) : ∀ {W : List Pr} {N : Nat}, SumS w (W ++ [m]) N → ∃ N', SumS w W N' ∧ N = N' + (ks.size + 1)
  | [], N, ⟨k', s', ks', N', h1, h2, e⟩ => by
    obtain ⟨_, _, rfl⟩ := hr.inj h1
    simp only [SumS] at h2
    exact ⟨0, rfl, by omega⟩
  | x :: W, N, ⟨k', s', ks', N', h1, h2, e⟩ => by
    obtain ⟨N2, h3, h4⟩ := SumS.pop hr h2
    exact ⟨_, ⟨k', s', ks', N2, h1, h3, rfl⟩, by omega⟩
/-- where the comparison stands: M has been compared, W is still to be -/
structure EqI (w : World) (root : Pr) (req : Prop) (M W : List Pr) : Prop where
  rd : ∀ m ∈ W, ∃ k s ks k' s' ks', RdN w k s ks m.1 ∧ RdN w k' s' ks' m.2 ∧ (req → k = k' ∧ s = s' ∧ ks = ks')
  loc : ∀ m ∈ M, LocP w (fun x => x ∈ M ∨ x ∈ W) m
  rt : root ∈ M ∨ root ∈ W
  pl : ∀ m ∈ M, PPln w m
section
variable {root m : Pr} {req : Prop} {M W : List Pr}
theorem EqI.start {k k' : Int} {s s' : ByteArray} {ks ks' : Fo} (h : RdN w k s ks root.1) (h' : RdN w k' s' ks' root.2) : EqI w root (k = k' ∧ s = s' ∧ ks = ks') [] [root] :=
  ⟨fun m hm => by obtain rfl : m = root := by simpa using hm
                  exact ⟨k, s, ks, k', s', ks', h, h', id⟩, fun m hm => by simp at hm, .inr (by simp), fun m hm => by simp at hm⟩
/-- a pair that has been compared goes -/
theorem EqI.drop (h : EqI w root req M (W ++ [m])) (hm : m ∈ M) : EqI w root req M W := by
  have hx : ∀ x, x ∈ M ∨ x ∈ W ++ [m] → x ∈ M ∨ x ∈ W := by
    rintro x (h | h)
    · exact .inl h
    · rcases List.mem_append.1 h with h | h
      · exact .inr h
      · obtain rfl : x = m := by simpa using h
        exact .inl hm
  exact ⟨fun y hy => h.rd y (List.mem_append_left _ hy), fun y hy => (h.loc y hy).more hx, hx _ h.rt, h.pl⟩
/-- a pair is compared, its operands are still to be -/
theorem EqI.next {k : Int} {s : ByteArray} {ks ks' : Fo} {a a' : Option Addr} {n c c' : Nat} (h : EqI w root req M (W ++ [m])) (h1 : RdN w k s ks m.1) (h2 : RdN w k s ks' m.2) (h3 : w.cell? ⟨m.1.1, m.1.2 + 2, none⟩ = some (.slice a n c)) (h4 : w.cell? ⟨m.2.1, m.2.2 + 2, none⟩ = some (.slice a' n c')) :
    EqI w root req (M ++ [m]) (W ++ (List.range n).map fun i => (kid a i, kid a' i)) := by
  have hx : ∀ x, x ∈ M ∨ x ∈ W ++ [m] → x ∈ M ++ [m] ∨ x ∈ W ++ (List.range n).map fun i => (kid a i, kid a' i) := by
    rintro x (h | h)
    · exact .inl (List.mem_append_left _ h)
    · rcases List.mem_append.1 h with h | h
      · exact .inr (List.mem_append_left _ h)
      · exact .inl (List.mem_append_right _ h)
  obtain ⟨k1, s1, f1, k2, s2, f2, r1, r2, hq⟩ := h.rd m (by simp)
  obtain ⟨rfl, rfl, rfl⟩ := r1.inj h1
  obtain ⟨rfl, rfl, rfl⟩ := r2.inj h2
  refine ⟨fun y hy => ?_, fun y hy => ?_, hx _ h.rt, fun y hy => ?_⟩
  · rcases List.mem_append.1 hy with hy | hy
    · exact h.rd y (List.mem_append_left _ hy)
    · obtain ⟨i, hi, rfl⟩ := List.mem_map.1 hy
      have hi := List.mem_range.1 hi
      obtain ⟨_, _, _, a1, n1, c1, e1, _, e2⟩ := h1
      obtain ⟨_, _, _, a2, n2, c2, e3, _, e4⟩ := h2
      rw [h3] at e1
      rw [h4] at e3
      cases e1
      cases e3
      obtain ⟨kj, sj, fj, hg, hr⟩ := e2.get hi
      obtain ⟨kj', sj', fj', hg', hr'⟩ := e4.get hi
      refine ⟨kj, sj, fj, kj', sj', fj', hr, hr', fun hr => ?_⟩
      have := (hq hr).2.2
      rw [this, hg'] at hg
      simp only [Option.some.injEq, Prod.mk.injEq] at hg
      exact ⟨hg.1.symm, hg.2.1.symm, hg.2.2.symm⟩
  · rcases List.mem_append.1 hy with hy | hy
    · exact (h.loc y hy).more hx
    · obtain rfl : y = m := by simpa using hy
      exact ⟨_, _, _, _, a, a', n, c, c', h1, h2, h3, h4, fun i hi => .inr (List.mem_append_right _ (List.mem_map.2 ⟨i, List.mem_range.2 hi, rfl⟩))⟩
  · rcases List.mem_append.1 hy with hy | hy
    · exact h.pl y hy
    · obtain rfl : y = m := by simpa using hy
      exact ⟨h1.1, h2.1⟩
/-- nothing is left: the trees are equal -/
theorem EqI.done {k k' : Int} {s s' : ByteArray} {ks ks' : Fo} (h : EqI w root req M []) (h1 : RdN w k s ks root.1) (h2 : RdN w k' s' ks' root.2) : k = k' ∧ s = s' ∧ ks = ks' := by
  refine closed_eq (M := fun x => x ∈ M) (fun m hm => (h.loc m hm).more fun x hx => ?_) ks.size (Nat.le_refl _) h1 h2 ?_
  · rcases hx with hx | hx
    · exact hx
    · simp at hx
  · rcases h.rt with hx | hx
    · exact hx
    · simp at hx
end
/-- the sizes of a node's operands -/
theorem SumS.kids {ks : Fo} {a a' : Option Addr} {n : Nat} (h : RdA w ks a n) : ∀ {W : List Pr} {N : Nat} (j : Nat), j ≤ n → SumS w W N → ∃ N', SumS w (W ++ (List.range j).map fun i => (kid a i, kid a' i)) N' ∧ N' + (ks.drop j).size = N + ks.size
  | W, N, 0, _, hs => ⟨N, by simpa using hs, by rw [Fo.drop_zero]⟩
  | W, N, j + 1, hj, hs => by
    obtain ⟨N', h1, h2⟩ := SumS.kids (a' := a') h j (by omega) hs
    obtain ⟨k, s, f, hg, hr⟩ := h.get (show j < n by omega)
    refine ⟨N' + (f.size + 1), ?_, ?_⟩
    · rw [List.range_succ, List.map_append, ← List.append_assoc]
      exact SumS.push (m := (kid a j, kid a' j)) hr h1
    · rw [Fo.drop_get hg] at h2
      simp only [Fo.size] at h2
      omega
end
end Go.Proofs.YtahdpocaldhamaaGreat

namespace Go.Proofs.YtahdpocaldhamaaGreat
set_option linter.unusedVariables false
set_option linter.unusedSimpArgs false
open Go.RowKit

def prcells : List Pr → List Value
  | [] => []
  | m :: W => .pointer (some ⟨m.1.1, m.1.2, none⟩) :: .pointer (some ⟨m.2.1, m.2.2, none⟩) :: prcells W
theorem prcells_len : ∀ W : List Pr, (prcells W).length = W.length * 2
  | [] => rfl
  | m :: W => by simp only [prcells, List.length_cons, prcells_len W]; omega
theorem prcells_app : ∀ W V : List Pr, prcells (W ++ V) = prcells W ++ prcells V
  | [], V => rfl
  | m :: W, V => by simp only [List.cons_append, prcells, prcells_app W V]
/-- a list of pairs of one's own -/
def OwnPr (w : World) (base : Nat) (v : Value) (W : List Pr) : Prop := w.ownsRow base 78 2 v W.length (prcells W)
theorem pairs_under : Tryz.prog.underlying 79 = some (.slice 78) := by kernel_rfl
theorem pair_info : (Tryz.prog.info? 78).map (fun i => (i.zero, i.size, i.bytes)) = some (some (.agg #[.pointer none, .pointer none]), 2, 16) := by kernel_rfl
section
variable {w w' : World} {base g cap : Nat} {v : Value} {W : List Pr} {m : Pr}
theorem OwnPr.one (w : World) (m : Pr) (hb : base ≤ w.heap.size) : OwnPr (w.alloc (.cells #[.pointer (some ⟨m.1.1, m.1.2, none⟩), .pointer (some ⟨m.2.1, m.2.2, none⟩)] 78)) base (.slice (some ⟨w.heap.size, 0, none⟩) 1 1) [m] :=
  ⟨rfl, .inr ⟨w.heap.size, 1, _, rfl, hb, heap_alloc_new w _, Nat.le_refl _, by simp [maxLen], rfl, rfl⟩⟩
theorem OwnPr.cells (h : OwnPr w base (.slice (some ⟨g, 0, none⟩) (W.length + 1) cap) (W ++ [m])) : w.cell? ⟨g, W.length * 2, none⟩ = some (.pointer (some ⟨m.1.1, m.1.2, none⟩)) ∧ w.cell? ⟨g, W.length * 2 + 1, none⟩ = some (.pointer (some ⟨m.2.1, m.2.2, none⟩)) := by
  have hc : ∀ j u, (prcells (W ++ [m]))[j]? = some u → w.cell? ⟨g, j, none⟩ = some u := fun j u hu => by
    have := World.ownsRow.cells h (g := g) rfl j u hu
    rwa [add_none, Nat.zero_add] at this
  have hl := prcells_len W
  constructor
  · refine hc _ _ ?_
    rw [prcells_app, List.getElem?_append_right (by omega), hl, Nat.sub_self]
    rfl
  · refine hc _ _ ?_
    rw [prcells_app, List.getElem?_append_right (by omega), hl, show W.length * 2 + 1 - W.length * 2 = 1 from by omega]
    rfl
theorem OwnPr.room (h : OwnPr w base (.slice (some ⟨g, 0, none⟩) (W.length + 1) cap) (W ++ [m])) : W.length + 1 ≤ cap := by
  rcases h.2 with ⟨h1, _⟩ | ⟨g', cap', cur, e, h1, h2, h3, h4, h5, h6⟩
  · cases h1
  · simp only [Value.slice.injEq, Option.some.injEq, Addr.mk.injEq] at e
    obtain ⟨⟨rfl, _⟩, _, rfl⟩ := e
    simpa using h3
/-- the last pair goes -/
theorem OwnPr.cut (h : OwnPr w base (.slice (some ⟨g, 0, none⟩) (W.length + 1) cap) (W ++ [m])) : OwnPr w base (.slice (some ⟨g, 0, none⟩) W.length cap) W := by
  refine ⟨prcells_len W, .inr ?_⟩
  rcases h.2 with ⟨h1, _⟩ | ⟨g', cap', cur, e, h1, h2, h3, h4, h5, h6⟩
  · cases h1
  · simp only [Value.slice.injEq, Option.some.injEq, Addr.mk.injEq] at e
    obtain ⟨⟨rfl, _⟩, _, rfl⟩ := e
    refine ⟨g, cap, cur, rfl, h1, h2, by omega, h4, h5, ?_⟩
    have := congrArg (List.take (W.length * 2)) h6
    rw [List.take_take, prcells_app, Nat.min_eq_left (by simp; omega), List.take_append_of_le_length (by rw [prcells_len]; omega)] at this
    exact this.trans (List.take_of_length_le (by rw [prcells_len]; omega))
theorem OwnPr.kept {r : Option Nat} (h : OwnPr w base v W) (hg : w.grownBy w' r) (hr : ∀ k, r = some k → k < base ∨ w.heap.size ≤ k) : OwnPr w' base v W :=
  World.ownsRow.kept h hg (by
    cases hv : v.ownBlock with
    | none => exact .inl rfl
    | some b => exact .inr fun e => by have := World.ownsRow.lt h b hv; have := hr b e.symm; omega)
theorem OwnPr.alloc (h : OwnPr w base v W) (o : Obj) : OwnPr (w.alloc o) base v W := World.ownsRow.alloc h o
theorem OwnPr.lt (h : OwnPr w base v W) : ∀ k, v.ownBlock = some k → base ≤ k ∧ k < w.heap.size := World.ownsRow.lt h
end
section
variable {w : World} {ops : Array Oper} {rest : List Oper} {o : Oper} {a : Act} {Q : Exit → Act → World → Prop}
theorem wpList_look_pair (hg : o.guard = none) (x y : Operand) (hop : o.op = Op.lookup 75 x y false) (b : Nat) (M : List Pr) (hm : a.eval x = .map (some b)) (hmap : MapP w b M) (m : Pr) (hx : a.eval y = m.val) (hk : PPln w m) (hp : ∀ x ∈ M, PPln w x) (r : Bool) (hr : decide (m ∈ M) = r)
    (hK : wpList Tryz.prog ops Q rest (a.put o.dst (.bool r)) w) : wpList Tryz.prog ops Q (o :: rest) a w := by
  refine wpList_plain hg fun K' hK' => ?_
  have hrun := run_look w m hk b M hmap hp
  rw [hr] at hrun
  unfold Oper.wp
  simp [execOp, hop, hm, hx, hrun, Result.andThen]
  exact hK' _ _ hK
theorem wpList_put_pair (hg : o.guard = none) (x y z : Operand) (hop : o.op = Op.mapUpdate 75 x y z) (b : Nat) (M : List Pr) (hm : a.eval x = .map (some b)) (hmap : MapP w b M) (m : Pr) (hx : a.eval y = m.val) (hv : a.eval z = .bool true) (hk : PPln w m) (hp : ∀ x ∈ M, PPln w x) (hn : m ∉ M)
    (hK : ∀ w', MapP w' b (M ++ [m]) → w.grownBy w' (some b) → wpList Tryz.prog ops Q rest (a.put o.dst undef) w') : wpList Tryz.prog ops Q (o :: rest) a w := by
  refine wpList_plain hg fun K' hK' => ?_
  obtain ⟨w', hrun, r1, r2⟩ := run_put w m hk b M hmap hp hn
  unfold Oper.wp
  simp [execOp, hop, hm, hx, hv, hrun, Result.andThen]
  exact hK' _ _ (hK w' r1 r2)
end
/-- one more pair, at a step of a region that draws -/
theorem step_append_pair {w : World} {ops : Array Oper} {o : Oper} {a : Act} {K : Act → World → Prop} {Q : Exit → Act → World → Prop} {E : Prop} (hgd : o.guard = none) (s x : Operand)
    (ho : o.op = .call { callee := .builtin .append, args := #[s, x], argTypes := #[79, 79] })
    (base : Nat) (v : Value) (W : List Pr) (hs : a.eval s = v) (hown : OwnPr w base v W) (g c1 : Nat) (hx : a.eval x = .slice (some ⟨g, 0, none⟩) 1 c1) (m : Pr) {T : TypeId}
    (hbx : w.heap[g]? = some (.cells #[.pointer (some ⟨m.1.1, m.1.2, none⟩), .pointer (some ⟨m.2.1, m.2.2, none⟩)] T (0, 0))) (n : Nat) (hn : W.length = n) (h63 : n ≤ 1000000000) (hbase : base ≤ w.heap.size)
    (h : ∀ g cap w', OwnPr w' base (.slice (some ⟨g, 0, none⟩) (n + 1) cap) (W ++ [m]) → w.grownBy w' v.ownBlock → g < w'.heap.size → (v.ownBlock = some g ∨ w.heap.size ≤ g) → K (a.put o.dst (.slice (some ⟨g, 0, none⟩) (n + 1) cap)) w') :
    if Region.wanted o (yielded ops a.tmps) = true then Oper.wp Tryz.prog o a w K Q else E := by
  subst hn
  have hw : Region.wanted o (yielded ops a.tmps) = true := by simp [Region.wanted, hgd]
  rw [if_pos hw]
  obtain ⟨i, hi, hz0, hz1, hz2⟩ := info_parts pair_info
  refine wp_append_at s x 79 ho base 78 i _ 2 16 pairs_under hi hz0 hz1 hz2 rfl (by decide) v W.length _ hs hown ⟨g, 0, none⟩ 1 c1 (prcells [m]) hx rfl ?_ (by simp [prcells, Value.oneCell']) (by simp only [maxLen]; omega) (by omega) hbase fun v' w' h3 h4 h5 => ?_
  · intro j u hu
    rw [add_none, cell_of_row _ _ _ _ _ _ hbx, Nat.zero_add]
    simpa [prcells] using hu
  · have h6 : OwnPr w' base v' (W ++ [m]) := by
      unfold OwnPr
      rw [prcells_app]
      simpa using h3
    obtain ⟨g', cap', rfl, h7, h8⟩ := World.ownsRow.form h6 (by simp)
    rw [show (W ++ [m]).length = W.length + 1 from by simp] at h6 ⊢
    refine h g' cap' w' h6 h4 h8 ?_
    rcases h5 with h5 | h5
    · exact .inl h5.symm
    · exact .inr (h5 g' rfl)
end Go.Proofs.YtahdpocaldhamaaGreat

namespace Go.Proofs.YtahdpocaldhamaaGreat
set_option linter.unusedVariables false
set_option linter.unusedSimpArgs false
open Go.RowKit

/-- a box with a pair -/
def PrBx (w : World) (g : Nat) (m : Pr) : Prop := w.heap[g]? = some (.cells #[.pointer (some ⟨m.1.1, m.1.2, none⟩), .pointer (some ⟨m.2.1, m.2.2, none⟩)] 78 (0, 0))
theorem PrBx.cells {w : World} {g : Nat} {m : Pr} (h : PrBx w g m) : w.cell? ⟨g, 0, none⟩ = some (.pointer (some ⟨m.1.1, m.1.2, none⟩)) ∧ w.cell? ⟨g, 1, none⟩ = some (.pointer (some ⟨m.2.1, m.2.2, none⟩)) := ⟨by rw [cell_of_row _ _ _ _ _ _ h]; rfl, by rw [cell_of_row _ _ _ _ _ _ h]; rfl⟩
theorem PrBx.frozen {w : World} {g : Nat} {m : Pr} (h : PrBx w g m) (i : Nat) : w.frozen? ⟨g, i, none⟩ = false := blk_frozen h i
theorem RdN.box (w : World) (k : Int) (s : ByteArray) (ks : Fo) (a : Option Addr) (n c : Nat) (hk : RdA w ks a n) (hc : n ≤ c) : RdN (w.alloc (.cells #[.int .i64 k, .string s, .slice a n c] 41)) k s ks (w.heap.size, 0) := by
  have h := heap_alloc_new w (.cells #[.int .i64 k, .string s, .slice a n c] 41)
  exact ⟨⟨_, _, h⟩, by rw [cell_of_row _ _ _ _ _ _ h]; rfl, by rw [cell_of_row _ _ _ _ _ _ h]; rfl, a, n, c, by rw [cell_of_row _ _ _ _ _ _ h]; rfl, hc, hk.keep fun b hb => Below.heap_alloc w _ b hb⟩

theorem eq_step {wr w7 w2 : World} {o : Obj} {g6 bm R : Nat} {M : List Pr} {m : Pr} (hg : ((wr.alloc o).drew).grownBy w7 (some g6)) (hm : MapP wr bm M) (hb : PrBx wr R m) (hB : Below w2.heap.size w2 wr) (h1 : bm < g6) (h2 : g6 ≠ R) (h3 : w2.heap.size ≤ g6) :
    MapP w7 bm M ∧ PrBx w7 R m ∧ Below w2.heap.size w2 w7 ∧ R < w7.heap.size := by
  have hR : R < wr.heap.size := blk_lt hb
  have hbm := hm.lt
  have hk : ∀ x, x < wr.heap.size → x ≠ g6 → w7.heap[x]? = wr.heap[x]? := fun x hx hne => (hg.block x (by show x < (wr.alloc o).heap.size; simp; omega) (by simpa using hne)).trans (Below.heap_alloc wr o x hx)
  have hsz : (wr.alloc o).heap.size ≤ w7.heap.size := hg.size
  simp only [World.size_alloc] at hsz
  exact ⟨hm.block (hk _ hbm (by omega)), (hk _ hR (by omega)).trans hb, ((hB.alloc hB.size o).drew).grown hg (by show w2.heap.size ≤ (wr.alloc o).heap.size; have := hB.size; simp; omega) (fun k e => by injection e with e; omega), by omega⟩

set_option maxRecDepth 100000 in
set_option maxHeartbeats 8000000 in
theorem eqI_any (b : Bool) (k k' : Int) (s s' : ByteArray) (ks ks' : Fo) (hb : b = true ↔ (k = k' ∧ s = s' ∧ ks = ks')) (a a' : Option Addr) (n n' c c' : Nat) (w : World) (h1 : RdA w ks a n) (h2 : RdA w ks' a' n') (hc : n ≤ c) (hc' : n' ≤ c') (hz : ks.size ≤ 1048576) (hfit : s.size ≤ maxLen ∧ n ≤ maxLen ∧ n' ≤ maxLen) :
    Calls Tryz.prog 19 #[.agg #[.int .i64 k, .string s, .slice a n c], .agg #[.int .i64 k', .string s', .slice a' n' c']] w fun e w' => e = .returned (.bool b) ∧ Below w.heap.size w w' := by
  have B2 := ((Below.refl w.heap.size w).alloc (Nat.le_refl _) (.cells #[.int .i64 k, .string s, .slice a n c] 41)).alloc (by simp) (.cells #[.int .i64 k', .string s', .slice a' n' c'] 41)
  have R1 := (RdN.box w k s ks a n c h1 hc).keep (fun g hg => Below.heap_alloc (w.alloc (.cells #[.int .i64 k, .string s, .slice a n c] 41)) (.cells #[.int .i64 k', .string s', .slice a' n' c'] 41) g hg)
  have R2 := RdN.box (w.alloc (.cells #[.int .i64 k, .string s, .slice a n c] 41)) k' s' ks' a' n' c' (h2.keep fun g hg => Below.heap_alloc w _ g hg) hc'
  rw [World.size_alloc] at R2
  have hE := EqI.start (root := ((w.heap.size, 0), (w.heap.size + 1, 0))) R1 R2
  have hS : SumS ((w.alloc (.cells #[.int .i64 k, .string s, .slice a n c] 41)).alloc (.cells #[.int .i64 k', .string s', .slice a' n' c'] 41)) [((w.heap.size, 0), (w.heap.size + 1, 0))] (ks.size + 1) := ⟨k, s, ks, 0, R1, rfl, by omega⟩
  have hO := fun W => run_makeMap_plain (P := Tryz.prog) W 75
  have HE := Lib.hid hE
  have HS := Lib.hid hS
  have HR := Lib.hid (And.intro R1 R2)
  have Hb := Lib.hid hb
  have Hz2 := Lib.hid (show ((w.alloc (.cells #[.int .i64 k, .string s, .slice a n c] 41)).alloc (.cells #[.int .i64 k', .string s', .slice a' n' c'] 41)).heap.size = w.heap.size + 2 from by simp)
  clear hE hS R1 R2 h1 h2 hb hfit
  go_enter Tryz.func19, Tryz.ntmps19
  go_wp2_with fail
  generalize hw2 : (w.alloc (.cells #[.int .i64 k, .string s, .slice a n c] 41)).alloc (.cells #[.int .i64 k', .string s', .slice a' n' c'] 41) = w2 at *
  have hD := Hz2.out
  have hD' : w2.heap.size = w.heap.size + 1 + 1 := by omega
  have HD := Lib.hid hD
  have hM0 := Lib.hid (show MapP (w2.alloc (.map #[] 0)) (w.heap.size + 1 + 1) [] from ⟨#[], 0, by rw [← hD']; exact heap_alloc_new w2 _, rfl, by simp⟩)
  have hO0 := OwnPr.one (base := w.heap.size + 1 + 1 + 1) (w2.alloc (.map #[] 0)) ((w.heap.size, 0), (w.heap.size + 1, 0)) (by simp; omega)
  rw [World.size_alloc, hD'] at hO0
  have HO0 := Lib.hid hO0
  have HB0 := Lib.hid (((Below.refl w2.heap.size w2).alloc (Nat.le_refl _) (.map #[] 0)).alloc (by simp) (.cells #[.pointer (some ⟨w.heap.size, 0, none⟩), .pointer (some ⟨w.heap.size + 1, 0, none⟩)] 78))
  have HB2 := Lib.hid B2
  clear hD hO0 B2 hw2 Hz2 hD'
  go_loopg [6] (ks.size + 1) (fun N v wr => ∃ (M W : List Pr) (g cap : Nat), v = .slice (some ⟨g, 0, none⟩) W.length cap ∧ OwnPr wr (w.heap.size + 1 + 1 + 1) (.slice (some ⟨g, 0, none⟩) W.length cap) W ∧ MapP wr (w.heap.size + 1 + 1) M ∧ EqI w2 ((w.heap.size, 0), (w.heap.size + 1, 0)) (k = k' ∧ s = s' ∧ ks = ks') M W ∧ SumS w2 W N ∧ N ≤ 1048577 ∧ Below w2.heap.size w2 wr)
  case atStart => exact ⟨[], [((w.heap.size, 0), (w.heap.size + 1, 0))], _, 1, rfl, HO0.out, hM0.out.block (Below.heap_alloc _ _ _ (by have := hM0.out.lt; exact this)), HE.out, HS.out, by omega, HB0.out⟩
  case round =>
    obtain ⟨M, W, g, cap, rfl, hown, hmap, hE, hS, hN, hB⟩ := hrel
    clear HO0 hM0 HB0 HE HS
    rcases List.eq_nil_or_concat W with rfl | ⟨W', m, hW⟩
    · have hbt : b = true := Hb.out.2 (EqI.done hE HR.out.1 HR.out.2)
      have Hbt := Lib.hid hbt
      have HB := Lib.hid (HB2.out.trans (hB.mono HB2.out.size))
      clear hown hmap hE hS hB hbt
      go_wp2_with fail
      go_ret
      exact ⟨ret_bool Hbt.out.symm, HB.out⟩
    · simp only [List.concat_eq_append] at hW
      subst hW
      simp only [show (W' ++ [m]).length = W'.length + 1 from by simp] at hown ⊢
      obtain ⟨k1, s1, f1, k2, s2, f2, r1, r2, hq⟩ := hE.rd m (by simp)
      obtain ⟨hx1, hx2⟩ := hown.cells
      obtain ⟨N', hS', hNN⟩ := SumS.pop r1 hS
      have hlenW : W'.length ≤ 1048576 := by have := hS'.len; omega
      have hroom := hown.room
      have hblt := hmap.lt
      have hroom' : W'.length ≤ cap := by omega
      have hcut := hown.cut
      have hD := HD.out
      have hgl := (hown.lt g rfl).2
      obtain ⟨⟨mb, mo⟩, ⟨qb, qo⟩⟩ := m
      have hkeep : ∀ x : Nat, x < w2.heap.size → wr.heap[x]? = w2.heap[x]? := fun x hx => hB.block x hx
      have hpm : PPln wr ((mb, mo), (qb, qo)) := ⟨r1.1.block (hkeep _ r1.1.lt), r2.1.block (hkeep _ r2.1.lt)⟩
      have hpM : ∀ x ∈ M, PPln wr x := fun x hx => ⟨(hE.pl x hx).1.block (hkeep _ (hE.pl x hx).1.lt), (hE.pl x hx).2.block (hkeep _ (hE.pl x hx).2.lt)⟩
      simp only at hx1 hx2
      have HpA := Lib.hid (show PPln (wr.alloc (.cells #[.pointer (some ⟨mb, mo, none⟩), .pointer (some ⟨qb, qo, none⟩)] 78)) ((mb, mo), (qb, qo)) from ⟨hpm.1.block (Below.heap_alloc _ _ _ hpm.1.lt), hpm.2.block (Below.heap_alloc _ _ _ hpm.2.lt)⟩)
      have HpB := Lib.hid (show ∀ x ∈ M, PPln (wr.alloc (.cells #[.pointer (some ⟨mb, mo, none⟩), .pointer (some ⟨qb, qo, none⟩)] 78)) x from fun x hx => ⟨(hpM x hx).1.block (Below.heap_alloc _ _ _ (hpM x hx).1.lt), (hpM x hx).2.block (Below.heap_alloc _ _ _ (hpM x hx).2.lt)⟩)
      have HmA := Lib.hid (hmap.block (w' := wr.alloc (.cells #[.pointer (some ⟨mb, mo, none⟩), .pointer (some ⟨qb, qo, none⟩)] 78)) (Below.heap_alloc _ _ _ hmap.lt))
      have HBA := Lib.hid (hB.alloc hB.size (.cells #[.pointer (some ⟨mb, mo, none⟩), .pointer (some ⟨qb, qo, none⟩)] 78))
      have HcA := Lib.hid (hcut.alloc (.cells #[.pointer (some ⟨mb, mo, none⟩), .pointer (some ⟨qb, qo, none⟩)] 78))
      have HS' := Lib.hid (And.intro hS' hNN)
      have HE := Lib.hid hE
      have Hr := Lib.hid (And.intro r1 (And.intro r2 hq))
      have HBw := Lib.hid hB
      have hlw : w2.heap.size ≤ wr.heap.size := hB.size
      clear hS hS' hNN hcut hpm hpM hkeep hmap hE hown hq r1 r2 hB
      by_cases hmem : ((mb, mo), (qb, qo)) ∈ M
      · have Hd := Lib.hid (show decide (((mb, mo), (qb, qo)) ∈ M) = true by simpa using hmem)
        have Hmem := Lib.hid hmem
        clear hmem
        go_wp2_with ((at_lookup; refine wpList_look_pair rfl _ _ rfl (w.heap.size + 1 + 1) M rfl HmA.out ((mb, mo), (qb, qo)) rfl HpA.out HpB.out true Hd.out ?_))
        go_roundg N'
        case measure => have := HS'.out.2; omega
        case rel => exact ⟨M, W', g, cap, rfl, HcA.out, HmA.out, HE.out.drop Hmem.out, HS'.out.1, by have := HS'.out.2; omega, HBA.out⟩
      · have Hd := Lib.hid (show decide (((mb, mo), (qb, qo)) ∈ M) = false by simpa using hmem)
        have Hmem := Lib.hid hmem
        clear hmem
        obtain ⟨r1, r2, hq⟩ := Hr.out
        obtain ⟨_, _, _, a1, n1, c1, e13, hc1, hA1⟩ := id r1
        obtain ⟨_, _, _, a2, n2, c2, e23, hc2, hA2⟩ := id r2
        have hn1 : n1 ≤ 1048576 := by have := HS'.out.2; have := f1.len_size; rw [← hA1.1]; omega
        have hl1 := r1.1.lt
        have hl2 := r2.1.lt
        simp only at e13 e23 hl1 hl2
        have Hcc := Lib.hid (And.intro e13 e23)
        have HA := Lib.hid (And.intro hA1 hA2)
        have Hrr := Lib.hid (And.intro r1 r2)
        have Hq := Lib.hid hq
        clear r1 r2 hq hA1 hA2 e13 e23
        have mid : ∀ w5, (wr.alloc (.cells #[.pointer (some ⟨mb, mo, none⟩), .pointer (some ⟨qb, qo, none⟩)] 78)).grownBy w5 (some (w.heap.size + 1 + 1)) → PrBx w5 wr.heap.size ((mb, mo), (qb, qo)) ∧ Below w2.heap.size w2 w5 ∧ OwnPr w5 (w.heap.size + 1 + 1 + 1) (.slice (some ⟨g, 0, none⟩) W'.length cap) W' := by
          intro w5 hg5
          refine ⟨(hg5.block wr.heap.size (by simp) (by simp; omega)).trans (heap_alloc_new wr _), HBA.out.grown hg5 (by simp; omega) (fun k e => by cases e; omega), HcA.out.kept hg5 fun k e => by cases e; omega⟩
        have Hmid := Lib.hid mid
        clear mid
        by_cases hkk : k1 = k2
        case neg =>
          have hbf : b = false := by
            cases b with
            | false => rfl
            | true => exact absurd (Hq.out (Hb.out.1 rfl)).1 hkk
          have Hbf := Lib.hid hbf
          clear hbf
          have hkb : (k1 != k2) = true := by simpa using hkk
          go_wp2_with (first
            | (at_lookup; refine wpList_look_pair rfl _ _ rfl (w.heap.size + 1 + 1) M rfl HmA.out ((mb, mo), (qb, qo)) rfl HpA.out HpB.out false Hd.out ?_)
            | (at_mapUpdate; refine wpList_put_pair rfl _ _ _ rfl (w.heap.size + 1 + 1) M rfl HmA.out ((mb, mo), (qb, qo)) rfl rfl HpA.out HpB.out Hmem.out ?_; intro w5 hm5 hg5; obtain ⟨hb5, hB5, ho5⟩ := Hmid.out w5 hg5; obtain ⟨p0, p1⟩ := hb5.cells; obtain ⟨_, d1, d2, _⟩ := Hrr.out.1.keep fun x hx => hB5.block x hx; obtain ⟨_, g1, g2, _⟩ := Hrr.out.2.keep fun x hx => hB5.block x hx; have d3 := (hB5.cell (p := ⟨mb, mo + 2, none⟩) hl1).trans Hcc.out.1; have g3 := (hB5.cell (p := ⟨qb, qo + 2, none⟩) hl2).trans Hcc.out.2; dsimp only at p0 p1 d1 d2 d3 g1 g2 g3))
          go_quiet (fail)
          have HB5 := Lib.hid (HB2.out.trans (hB5.mono HB2.out.size))
          clear hm5 hg5 hb5 hB5 ho5
          go_wp2_with fail
          go_ret
          exact ⟨ret_bool Hbf.out.symm, below_drewN HB5.out _⟩
        case pos =>
        subst hkk
        have hkb : (k1 != k1) = false := by simp
        by_cases hss : s1 = s2
        case neg =>
          have hbf : b = false := by
            cases b with
            | false => rfl
            | true => exact absurd (Hq.out (Hb.out.1 rfl)).2.1 hss
          have Hbf := Lib.hid hbf
          clear hbf
          have hsb : (s1.toList == s2.toList) = false := by
            rw [beq_eq_false_iff_ne]
            intro e
            exact hss (ByteArray.ext (by simpa [ByteArray.toList_eq] using congrArg List.toArray e))
          go_wp2_with (first
            | (at_lookup; refine wpList_look_pair rfl _ _ rfl (w.heap.size + 1 + 1) M rfl HmA.out ((mb, mo), (qb, qo)) rfl HpA.out HpB.out false Hd.out ?_)
            | (at_mapUpdate; refine wpList_put_pair rfl _ _ _ rfl (w.heap.size + 1 + 1) M rfl HmA.out ((mb, mo), (qb, qo)) rfl rfl HpA.out HpB.out Hmem.out ?_; intro w5 hm5 hg5; obtain ⟨hb5, hB5, ho5⟩ := Hmid.out w5 hg5; obtain ⟨p0, p1⟩ := hb5.cells; obtain ⟨_, d1, d2, _⟩ := Hrr.out.1.keep fun x hx => hB5.block x hx; obtain ⟨_, g1, g2, _⟩ := Hrr.out.2.keep fun x hx => hB5.block x hx; have d3 := (hB5.cell (p := ⟨mb, mo + 2, none⟩) hl1).trans Hcc.out.1; have g3 := (hB5.cell (p := ⟨qb, qo + 2, none⟩) hl2).trans Hcc.out.2; dsimp only at p0 p1 d1 d2 d3 g1 g2 g3))
          go_quiet (fail)
          have HB5 := Lib.hid (HB2.out.trans (hB5.mono HB2.out.size))
          clear hm5 hg5 hb5 hB5 ho5
          go_wp2_with fail
          go_ret
          exact ⟨ret_bool Hbf.out.symm, below_drewN HB5.out _⟩
        case pos =>
        have hsb : (s1.toList == s2.toList) = true := by rw [hss]; simp
        have Hss := Lib.hid hss
        clear hss
        by_cases hnn : n1 = n2
        case neg =>
          have hbf : b = false := by
            cases b with
            | false => rfl
            | true => exact absurd (show n1 = n2 from by have := (Hq.out (Hb.out.1 rfl)).2.2; rw [← HA.out.1.1, ← HA.out.2.1, this]) hnn
          have Hbf := Lib.hid hbf
          clear hbf
          have hnb : ((n1 : Int) != (n2 : Int)) = true := by rw [bne_iff_ne]; omega
          go_wp2_with (first
            | (at_lookup; refine wpList_look_pair rfl _ _ rfl (w.heap.size + 1 + 1) M rfl HmA.out ((mb, mo), (qb, qo)) rfl HpA.out HpB.out false Hd.out ?_)
            | (at_mapUpdate; refine wpList_put_pair rfl _ _ _ rfl (w.heap.size + 1 + 1) M rfl HmA.out ((mb, mo), (qb, qo)) rfl rfl HpA.out HpB.out Hmem.out ?_; intro w5 hm5 hg5; obtain ⟨hb5, hB5, ho5⟩ := Hmid.out w5 hg5; obtain ⟨p0, p1⟩ := hb5.cells; obtain ⟨_, d1, d2, _⟩ := Hrr.out.1.keep fun x hx => hB5.block x hx; obtain ⟨_, g1, g2, _⟩ := Hrr.out.2.keep fun x hx => hB5.block x hx; have d3 := (hB5.cell (p := ⟨mb, mo + 2, none⟩) hl1).trans Hcc.out.1; have g3 := (hB5.cell (p := ⟨qb, qo + 2, none⟩) hl2).trans Hcc.out.2; dsimp only at p0 p1 d1 d2 d3 g1 g2 g3))
          go_quiet (fail)
          have HB5 := Lib.hid (HB2.out.trans (hB5.mono HB2.out.size))
          clear hm5 hg5 hb5 hB5 ho5
          go_wp2_with fail
          go_ret
          exact ⟨ret_bool Hbf.out.symm, below_drewN HB5.out _⟩
        case pos =>
        have hnb : ((n1 : Int) != (n2 : Int)) = false := by rw [hnn]; simp
        have Hnn := Lib.hid hnn
        clear hnn
        go_wp2_with (first
            | (at_lookup; refine wpList_look_pair rfl _ _ rfl (w.heap.size + 1 + 1) M rfl HmA.out ((mb, mo), (qb, qo)) rfl HpA.out HpB.out false Hd.out ?_)
            | (at_mapUpdate; refine wpList_put_pair rfl _ _ _ rfl (w.heap.size + 1 + 1) M rfl HmA.out ((mb, mo), (qb, qo)) rfl rfl HpA.out HpB.out Hmem.out ?_; intro w5 hm5 hg5; obtain ⟨hb5, hB5, ho5⟩ := Hmid.out w5 hg5; obtain ⟨p0, p1⟩ := hb5.cells; obtain ⟨_, d1, d2, _⟩ := Hrr.out.1.keep fun x hx => hB5.block x hx; obtain ⟨_, g1, g2, _⟩ := Hrr.out.2.keep fun x hx => hB5.block x hx; have d3 := (hB5.cell (p := ⟨mb, mo + 2, none⟩) hl1).trans Hcc.out.1; have g3 := (hB5.cell (p := ⟨qb, qo + 2, none⟩) hl2).trans Hcc.out.2; dsimp only at p0 p1 d1 d2 d3 g1 g2 g3))
        go_quiet (fail)
        have HB5 := Lib.hid hB5
        have Ho5 := Lib.hid ho5
        have Hm5 := Lib.hid hm5
        have Hb5 := Lib.hid hb5
        have z0 : (w5.drewN nq).cell? ⟨wr.heap.size, 0, none⟩ = some (.pointer (some ⟨mb, mo, none⟩)) := p0
        have z3 : (w5.drewN nq).cell? ⟨mb, mo + 2, none⟩ = some (.slice a1 n1 c1) := d3
        clear p0 p1 d1 d2 d3 g1 g2 g3 hm5 hg5 hb5 hB5 ho5 hx1 hx2 hkb hsb hnb
        go_wp2_with fail
        generalize hR : wr.heap.size = R at *
        clear hR
        go_loopw [6, 76] (fun v i wr6 => ∃ (j g6 cap6 : Nat), j ≤ n1 ∧ i = .int .i64 j ∧ v = .slice (some ⟨g6, 0, none⟩) (W'.length + j) cap6 ∧ OwnPr wr6 (w.heap.size + 1 + 1 + 1) (.slice (some ⟨g6, 0, none⟩) (W'.length + j) cap6) (W' ++ (List.range j).map fun i => (kid a1 i, kid a2 i)) ∧ g6 ≠ R ∧ MapP wr6 (w.heap.size + 1 + 1) (M ++ [((mb, mo), (qb, qo))]) ∧ PrBx wr6 R ((mb, mo), (qb, qo)) ∧ Below w2.heap.size w2 wr6 ∧ R < wr6.heap.size) (fun _ i _ => n1 - (intOf i).toNat)
        case atStart => exact ⟨0, g, cap, Nat.zero_le _, rfl, rfl, by have := Ho5.out; simpa using (show OwnPr (w5.drewN nq) _ _ _ from this), by omega, Hm5.out, Hb5.out, below_drewN HB5.out _, blk_lt Hb5.out⟩
        case round =>
          obtain ⟨j, g6, cap6, hj, rfl, rfl, hown, hg6, hmp, hbx, hB6, hlt6⟩ := hrel
          clear z0 z3
          have Hown := Lib.hid hown
          have Hmp := Lib.hid hmp
          have Hbx := Lib.hid hbx
          have HB6 := Lib.hid hB6
          have hcs := hbx.cells
          have d3 := (hB6.cell (p := ⟨mb, mo + 2, none⟩) hl1).trans Hcc.out.1
          have g3 := (hB6.cell (p := ⟨qb, qo + 2, none⟩) hl2).trans Hcc.out.2
          clear hown hmp hbx hB6
          by_cases hlt : j < n1
          · have hlt2 : j < n2 := by have := Hnn.out; omega
            obtain ⟨b1, o1, ha1, _⟩ := HA.out.1.2 (by omega)
            obtain ⟨b2, o2, ha2, _⟩ := HA.out.2.2 (by omega)
            obtain ⟨p0, p1⟩ := hcs
            rw [ha1] at d3
            rw [ha2] at g3
            have Hk := Lib.hid (show ((kid a1 j, kid a2 j) : Pr) = ((b1, o1 + j * 3), (b2, o2 + j * 3)) from by rw [ha1, ha2]; rfl)
            dsimp only at p0 p1
            have Hst := Lib.hid (show W' ++ (List.range (j + 1)).map (fun i => ((kid a1 i, kid a2 i) : Pr)) = (W' ++ (List.range j).map fun i => ((kid a1 i, kid a2 i) : Pr)) ++ [((b1, o1 + j * 3), (b2, o2 + j * 3))] from by rw [List.range_succ, List.map_append, ← List.append_assoc, ← Hk.out]; rfl)
            have hj0 : (0 : Int) ≤ (j : Int) := by omega
            have hj1 : (j : Int) < (n1 : Int) := by omega
            have hj2 : (j : Int) < (n2 : Int) := by omega
            clear ha1 ha2
            go_wp2_with fail
            go_region_law (refine step_append_pair rfl _ _ (by rfl) (w.heap.size + 1 + 1 + 1) (.slice (some ⟨g6, 0, none⟩) (W'.length + j) cap6) (W' ++ (List.range j).map fun i => (kid a1 i, kid a2 i)) (by rfl) (by exact Hown.out.alloc _) wr.heap.size 1 (by rfl) ((b1, o1 + j * 3), (b2, o2 + j * 3)) (by exact heap_alloc_new wr _) (W'.length + j) (by simp) (by omega) (by simp; omega) ?_; intro g7 cap7 w7 hown7 hgrow7 hlt7 hbg7)
            all_goals go_wp2_with fail
            all_goals
              obtain ⟨y1, y2, y3, y4⟩ := eq_step (g6 := g6) hgrow7 Hmp.out Hbx.out HB6.out (by have := (Hown.out.lt g6 rfl).1; omega) hg6 (by have := (Hown.out.lt g6 rfl).1; omega)
              exact ⟨⟨j + 1, g7, cap7, by omega, by go_num, rfl, by rw [Hst.out]; exact hown7, by
                rcases hbg7 with e | e
                · have e3 : g6 = g7 := by injection e
                  omega
                · have e2 : (wr.alloc (.cells #[.pointer (some ⟨b1, o1 + j * 3, none⟩), .pointer (some ⟨b2, o2 + j * 3, none⟩)] 78)).heap.size ≤ g7 := e
                  simp only [World.size_alloc] at e2
                  omega, y1, y2, y3, y4⟩, by simp [intOf]; omega⟩
          · have hjn : j = n1 := by omega
            have hge : ¬ (j : Int) < (n1 : Int) := by omega
            have Hjn := Lib.hid hjn
            clear hjn
            go_wp2_with fail
            obtain ⟨N3, hN3, hN4⟩ := SumS.kids (a' := a2) HA.out.1 j (by omega) HS'.out.1
            rw [Fo.drop_all (by rw [HA.out.1.1]; have := Hjn.out; omega)] at hN4
            have hNN := HS'.out.2
            simp only [Fo.size] at hN4
            obtain rfl := Hss.out
            obtain rfl := Hnn.out
            obtain rfl := Hjn.out
            go_roundg N3
            case measure => omega
            case rel => exact ⟨M ++ [((mb, mo), (qb, qo))], W' ++ (List.range j).map (fun i => (kid a1 i, kid a2 i)), g6, cap6, by simp, by have := Hown.out; simpa using this, Hmp.out, HE.out.next Hrr.out.1 Hrr.out.2 Hcc.out.1 Hcc.out.2, hN3, by omega, HB6.out⟩
end Go.Proofs.YtahdpocaldhamaaGreat

namespace Go.Proofs.YtahdpocaldhamaaGreat
set_option linter.unusedVariables false
open Go.Shelf Go.RowKit

def bren : Ren := ⟨fun | 166 => 70 | 169 => 33 | 240 => 90 | 276 => 102 | n => n,
  fun | 0 => 0 | 3 => 3 | 4 => 4 | 5 => 5 | 9 => 9 | 20 => 20 | 37 => 22 | 70 => 59 | 72 => 61 | 75 => 98 | 80 => 66 | 127 => 103 | 164 => 151 | n => n, fun n => n⟩

def brenB : Ren := ⟨fun | 166 => 70 | 167 => 137 | 169 => 33 | 240 => 90 | 276 => 102 | n => n,
  fun | 0 => 0 | 3 => 3 | 4 => 4 | 5 => 5 | 9 => 9 | 20 => 20 | 37 => 22 | 70 => 59 | 72 => 61 | 75 => 98 | 80 => 66 | 127 => 103 | 164 => 151 | n => n, fun n => n⟩

theorem bn240 : Lays.n240 Tryz.prog bren := {
  mixed := by kernel_rfl,
  f240 := by kernel_rfl,
  f276 := by kernel_rfl,
  t0 := by kernel_rfl,
  a0 := fun _ => by kernel_rfl,
  z0 := fun _ => by kernel_rfl,
  v0 := fun _ => by kernel_rfl,
  t4 := by kernel_rfl,
  a4 := fun _ => by kernel_rfl,
  z4 := fun _ => by kernel_rfl,
  v4 := fun _ => by kernel_rfl,
  t9 := by kernel_rfl,
  a9 := fun _ => by kernel_rfl,
  z9 := fun _ => by kernel_rfl,
  v9 := fun _ => by kernel_rfl,
  t20 := by kernel_rfl,
  a20 := fun _ => by kernel_rfl,
  z20 := fun _ => by kernel_rfl,
  v20 := fun _ => by kernel_rfl,
  t70 := by kernel_rfl,
  a70 := fun _ => by kernel_rfl,
  z70 := fun _ => by kernel_rfl,
  v70 := fun _ => by kernel_rfl,
  t72 := by kernel_rfl,
  a72 := fun _ => by kernel_rfl,
  z72 := fun _ => by kernel_rfl,
  v72 := fun _ => by kernel_rfl,
  t164 := by kernel_rfl,
  a164 := fun _ => by kernel_rfl,
  z164 := fun _ => by kernel_rfl,
  v164 := fun _ => by kernel_rfl }
theorem bn167 : Lays.n167 Tryz.prog brenB := {
  mixed := by kernel_rfl,
  f167 := by kernel_rfl,
  f240 := by kernel_rfl,
  f276 := by kernel_rfl,
  t0 := by kernel_rfl,
  a0 := fun _ => by kernel_rfl,
  z0 := fun _ => by kernel_rfl,
  v0 := fun _ => by kernel_rfl,
  t4 := by kernel_rfl,
  a4 := fun _ => by kernel_rfl,
  z4 := fun _ => by kernel_rfl,
  v4 := fun _ => by kernel_rfl,
  t5 := by kernel_rfl,
  a5 := fun _ => by kernel_rfl,
  z5 := fun _ => by kernel_rfl,
  v5 := fun _ => by kernel_rfl,
  t9 := by kernel_rfl,
  a9 := fun _ => by kernel_rfl,
  z9 := fun _ => by kernel_rfl,
  v9 := fun _ => by kernel_rfl,
  t20 := by kernel_rfl,
  a20 := fun _ => by kernel_rfl,
  z20 := fun _ => by kernel_rfl,
  v20 := fun _ => by kernel_rfl,
  t37 := by kernel_rfl,
  a37 := fun _ => by kernel_rfl,
  z37 := fun _ => by kernel_rfl,
  v37 := fun _ => by kernel_rfl,
  t70 := by kernel_rfl,
  a70 := fun _ => by kernel_rfl,
  z70 := fun _ => by kernel_rfl,
  v70 := fun _ => by kernel_rfl,
  t72 := by kernel_rfl,
  a72 := fun _ => by kernel_rfl,
  z72 := fun _ => by kernel_rfl,
  v72 := fun _ => by kernel_rfl,
  t75 := by kernel_rfl,
  a75 := fun _ => by kernel_rfl,
  z75 := fun _ => by kernel_rfl,
  v75 := fun _ => by kernel_rfl,
  t164 := by kernel_rfl,
  a164 := fun _ => by kernel_rfl,
  z164 := fun _ => by kernel_rfl,
  v164 := fun _ => by kernel_rfl }
theorem bn166 : Lays.n166 Tryz.prog bren := {
  mixed := by kernel_rfl,
  f166 := by kernel_rfl,
  f240 := by kernel_rfl,
  f276 := by kernel_rfl,
  t0 := by kernel_rfl,
  a0 := fun _ => by kernel_rfl,
  z0 := fun _ => by kernel_rfl,
  v0 := fun _ => by kernel_rfl,
  t3 := by kernel_rfl,
  a3 := fun _ => by kernel_rfl,
  z3 := fun _ => by kernel_rfl,
  v3 := fun _ => by kernel_rfl,
  t4 := by kernel_rfl,
  a4 := fun _ => by kernel_rfl,
  z4 := fun _ => by kernel_rfl,
  v4 := fun _ => by kernel_rfl,
  t9 := by kernel_rfl,
  a9 := fun _ => by kernel_rfl,
  z9 := fun _ => by kernel_rfl,
  v9 := fun _ => by kernel_rfl,
  t20 := by kernel_rfl,
  a20 := fun _ => by kernel_rfl,
  z20 := fun _ => by kernel_rfl,
  v20 := fun _ => by kernel_rfl,
  t37 := by kernel_rfl,
  a37 := fun _ => by kernel_rfl,
  z37 := fun _ => by kernel_rfl,
  v37 := fun _ => by kernel_rfl,
  t70 := by kernel_rfl,
  a70 := fun _ => by kernel_rfl,
  z70 := fun _ => by kernel_rfl,
  v70 := fun _ => by kernel_rfl,
  t72 := by kernel_rfl,
  a72 := fun _ => by kernel_rfl,
  z72 := fun _ => by kernel_rfl,
  v72 := fun _ => by kernel_rfl,
  t75 := by kernel_rfl,
  a75 := fun _ => by kernel_rfl,
  z75 := fun _ => by kernel_rfl,
  v75 := fun _ => by kernel_rfl,
  t164 := by kernel_rfl,
  a164 := fun _ => by kernel_rfl,
  z164 := fun _ => by kernel_rfl,
  v164 := fun _ => by kernel_rfl }
theorem bn169 : Lays.n169 Tryz.prog bren := {
  mixed := by kernel_rfl,
  f169 := by kernel_rfl,
  t0 := by kernel_rfl,
  a0 := fun _ => by kernel_rfl,
  z0 := fun _ => by kernel_rfl,
  v0 := fun _ => by kernel_rfl,
  t3 := by kernel_rfl,
  a3 := fun _ => by kernel_rfl,
  z3 := fun _ => by kernel_rfl,
  v3 := fun _ => by kernel_rfl,
  t9 := by kernel_rfl,
  a9 := fun _ => by kernel_rfl,
  z9 := fun _ => by kernel_rfl,
  v9 := fun _ => by kernel_rfl,
  t37 := by kernel_rfl,
  a37 := fun _ => by kernel_rfl,
  z37 := fun _ => by kernel_rfl,
  v37 := fun _ => by kernel_rfl,
  t70 := by kernel_rfl,
  a70 := fun _ => by kernel_rfl,
  z70 := fun _ => by kernel_rfl,
  v70 := fun _ => by kernel_rfl,
  t72 := by kernel_rfl,
  a72 := fun _ => by kernel_rfl,
  z72 := fun _ => by kernel_rfl,
  v72 := fun _ => by kernel_rfl,
  t127 := by kernel_rfl,
  a127 := fun _ => by kernel_rfl,
  z127 := fun _ => by kernel_rfl,
  v127 := fun _ => by kernel_rfl }
theorem bextra : Builder.Extra Tryz.prog bren := {
  sizeBuilder := by kernel_rfl,
  liesBuilder := by kernel_rfl,
  t5 := by kernel_rfl,
  a5 := fun _ => by kernel_rfl,
  z5 := fun _ => by kernel_rfl,
  v5 := fun _ => by kernel_rfl,
  infoByte := by kernel_rfl,
  cellsByte := by kernel_rfl,
  sizeByte := by kernel_rfl,
  neB5 := by decide }
theorem bextraB : Builder.Extra Tryz.prog brenB := {
  sizeBuilder := by kernel_rfl,
  liesBuilder := by kernel_rfl,
  t5 := by kernel_rfl,
  a5 := fun _ => by kernel_rfl,
  z5 := fun _ => by kernel_rfl,
  v5 := fun _ => by kernel_rfl,
  infoByte := by kernel_rfl,
  cellsByte := by kernel_rfl,
  sizeByte := by kernel_rfl,
  neB5 := by decide }

/-- a builder of the call's own at block b, holding the bytes l -/
abbrev Bld (B b : Nat) (l : List UInt8) (w : World) : Prop := Lib.IsBuilderF 61 5 B b (Lib.byteCells l) w
theorem Bld.alloc {B b : Nat} {l : List UInt8} {w : World} (h : Bld B b l w) (o : Obj) : Bld B b l (w.alloc o) := by
  rcases h with h | h
  · exact .inl (h.alloc o)
  · exact .inr (h.alloc o)
theorem Bld.lt {B b : Nat} {l : List UInt8} {w : World} (h : Bld B b l w) : b < w.heap.size := by
  rcases h with h | h
  · exact h.lt
  · exact h.lt
theorem Bld.new (w : World) : Bld w.heap.size w.heap.size [] (w.alloc (.cells #[.pointer none, .slice none 0 0] 61)) := Lib.IsBuilderF.of (Lib.fresh_isBuilder _ _ w)
theorem bytes_append (l m : List UInt8) : Lib.byteCells (l ++ m) = Lib.byteCells l ++ Lib.byteCells m := by simp [Lib.byteCells]
theorem bytes_length (l : List UInt8) : (Lib.byteCells l).length = l.length := by simp [Lib.byteCells]
/-- what a writer leaves: the builder, holding more; of what was there nothing else has turned -/
structure Wrote (B b : Nat) (l : List UInt8) (w w' : World) : Prop where
  is : Bld B b l w'
  below : Below B w w'
  kept : Lib.OthersKept 5 (some b) w w'
theorem Wrote.cell {B b g : Nat} {l : List UInt8} {w w' : World} {cs : Array Value} {T : TypeId} {fr : Nat × Nat} (h : Wrote B b l w w') (hg : w.heap[g]? = some (.cells cs T fr)) (hT : T ≠ 5) (hb : g ≠ b) : w'.heap[g]? = some (.cells cs T fr) :=
  h.kept g _ hg (by intro e; cases e; exact hb rfl) (by intro c fz e; cases e; exact hT rfl)

theorem writeString_any (B b : Nat) (l : List UInt8) (s : ByteArray) (w : World) (h : Bld B b l w) (hlen : l.length + s.size ≤ 140737488355328) (hBw : B ≤ w.heap.size) :
    Calls Tryz.prog 70 #[.pointer (some ⟨b, 0, none⟩), .string s] w fun e w' => e = .returned (.tuple #[.int .i64 s.size, .nilIface]) ∧ Wrote B b (l ++ s.data.toList) w w' := by
  refine (Any.Builder_WriteString_k bn166 bextra B b (Lib.byteCells l) s w h (by rw [bytes_length]; exact hlen) hBw).mono ?_
  rintro e w' ⟨rfl, hA, hB, hK⟩
  exact ⟨rfl, .inr (by rw [bytes_append, ← Lib.strCells_eq]; exact hA), hB, hK⟩
theorem writeByte_any (B b : Nat) (l : List UInt8) (c : UInt8) (w : World) (h : Bld B b l w) (hlen : l.length + 1 ≤ 140737488355328) (hBw : B ≤ w.heap.size) :
    Calls Tryz.prog 137 #[.pointer (some ⟨b, 0, none⟩), .int .u8 (c.toNat : Int)] w fun e w' => e = .returned .nilIface ∧ Wrote B b (l ++ [c]) w w' := by
  refine (Any.Builder_WriteByte_k bn167 bextraB B b (Lib.byteCells l) c.toNat w h (by rw [bytes_length]; exact hlen) hBw).mono ?_
  rintro e w' ⟨rfl, hA, hB, hK⟩
  exact ⟨rfl, .inr (by rw [bytes_append]; exact hA), hB, hK⟩
theorem builderString_any (B b : Nat) (l : List UInt8) (w : World) (h : Bld B b l w) (hBw : B ≤ w.heap.size) :
    Calls Tryz.prog 33 #[.pointer (some ⟨b, 0, none⟩)] w fun e w' => e = .returned (.string ⟨l.toArray⟩) ∧ Below B w w' := by
  refine (Any.Builder_String_any_k bn169 bextra B b l w h hBw).mono ?_
  rintro e w' ⟨rfl, _, hB, _⟩
  exact ⟨rfl, hB⟩
theorem writeBlank_any (B b : Nat) (l : List UInt8) (w : World) (h : Bld B b l w) (hlen : l.length + 1 ≤ 140737488355328) (hBw : B ≤ w.heap.size) :
    Calls Tryz.prog 137 #[.pointer (some ⟨b, 0, none⟩), .int .u8 32] w fun e w' => e = .returned .nilIface ∧ Wrote B b (l ++ [32]) w w' := writeByte_any B b l 32 w h hlen hBw
theorem writeLine_any (B b : Nat) (l : List UInt8) (w : World) (h : Bld B b l w) (hlen : l.length + 1 ≤ 140737488355328) (hBw : B ≤ w.heap.size) :
    Calls Tryz.prog 137 #[.pointer (some ⟨b, 0, none⟩), .int .u8 10] w fun e w' => e = .returned .nilIface ∧ Wrote B b (l ++ [10]) w w' := writeByte_any B b l 10 w h hlen hBw
theorem Wrote.then {B b : Nat} {l l' : List UInt8} {w w' w'' : World} (h : Wrote B b l w w') (h2 : Wrote B b l' w' w'') : Wrote B b l' w w'' :=
  ⟨h2.is, h.below.trans h2.below, fun k o hk h3 h4 => h2.kept k o (h.kept k o hk h3 h4) h3 h4⟩

theorem Wrote.pre {B b : Nat} {l : List UInt8} {w w' : World} {o : Obj} (h : Wrote B b l (w.alloc o) w') (hB : B ≤ w.heap.size) : Wrote B b l w w' :=
  ⟨h.is, ((Below.refl B w).alloc hB o).trans h.below, fun k o' hk h3 h4 => h.kept k o' ((Below.heap_alloc w o k (Array.getElem?_eq_some_iff.1 hk).1).trans hk) h3 h4⟩
theorem Wrote.to {B b : Nat} {l l' : List UInt8} {w w' : World} (h : Wrote B b l w w') (e : l = l') : Wrote B b l' w w' := e ▸ h
end Go.Proofs.YtahdpocaldhamaaGreat

namespace Go.Proofs.YtahdpocaldhamaaGreat
set_option linter.unusedVariables false
open Go.Shelf Go.RowKit

def jren : Ren := ⟨fun | 156 => 55 | 165 => 69 | 166 => 70 | 169 => 33 | 240 => 90 | 241 => 91 | 276 => 102 | 277 => 103 | n => n,
  fun | 0 => 0 | 3 => 3 | 4 => 4 | 5 => 5 | 9 => 9 | 20 => 20 | 31 => 33 | 37 => 22 | 70 => 59 | 72 => 61 | 75 => 98 | 76 => 99 | 80 => 66 | 127 => 103 | 164 => 151 | n => n,
  fun | n => n⟩
theorem jn156 : Lays.n156 Tryz.prog jren := {
  mixed := by kernel_rfl,
  f156 := by kernel_rfl,
  f165 := by kernel_rfl,
  f166 := by kernel_rfl,
  f169 := by kernel_rfl,
  f240 := by kernel_rfl,
  f241 := by kernel_rfl,
  f276 := by kernel_rfl,
  f277 := by kernel_rfl,
  t0 := by kernel_rfl,
  a0 := fun _ => by kernel_rfl,
  z0 := fun _ => by kernel_rfl,
  v0 := fun _ => by kernel_rfl,
  t3 := by kernel_rfl,
  a3 := fun _ => by kernel_rfl,
  z3 := fun _ => by kernel_rfl,
  v3 := fun _ => by kernel_rfl,
  t4 := by kernel_rfl,
  a4 := fun _ => by kernel_rfl,
  z4 := fun _ => by kernel_rfl,
  v4 := fun _ => by kernel_rfl,
  t9 := by kernel_rfl,
  a9 := fun _ => by kernel_rfl,
  z9 := fun _ => by kernel_rfl,
  v9 := fun _ => by kernel_rfl,
  t20 := by kernel_rfl,
  a20 := fun _ => by kernel_rfl,
  z20 := fun _ => by kernel_rfl,
  v20 := fun _ => by kernel_rfl,
  t31 := by kernel_rfl,
  a31 := fun _ => by kernel_rfl,
  z31 := fun _ => by kernel_rfl,
  v31 := fun _ => by kernel_rfl,
  t37 := by kernel_rfl,
  a37 := fun _ => by kernel_rfl,
  z37 := fun _ => by kernel_rfl,
  v37 := fun _ => by kernel_rfl,
  t70 := by kernel_rfl,
  a70 := fun _ => by kernel_rfl,
  z70 := fun _ => by kernel_rfl,
  v70 := fun _ => by kernel_rfl,
  t72 := by kernel_rfl,
  a72 := fun _ => by kernel_rfl,
  z72 := fun _ => by kernel_rfl,
  v72 := fun _ => by kernel_rfl,
  t75 := by kernel_rfl,
  a75 := fun _ => by kernel_rfl,
  z75 := fun _ => by kernel_rfl,
  v75 := fun _ => by kernel_rfl,
  t76 := by kernel_rfl,
  a76 := fun _ => by kernel_rfl,
  z76 := fun _ => by kernel_rfl,
  v76 := fun _ => by kernel_rfl,
  t127 := by kernel_rfl,
  a127 := fun _ => by kernel_rfl,
  z127 := fun _ => by kernel_rfl,
  v127 := fun _ => by kernel_rfl,
  t164 := by kernel_rfl,
  a164 := fun _ => by kernel_rfl,
  z164 := fun _ => by kernel_rfl,
  v164 := fun _ => by kernel_rfl }
theorem jextra : Builder.Extra Tryz.prog jren := {
  sizeBuilder := by kernel_rfl,
  liesBuilder := by kernel_rfl,
  t5 := by kernel_rfl,
  a5 := fun _ => by kernel_rfl,
  z5 := fun _ => by kernel_rfl,
  v5 := fun _ => by kernel_rfl,
  infoByte := by kernel_rfl,
  cellsByte := by kernel_rfl,
  sizeByte := by kernel_rfl,
  neB5 := by decide }
theorem join_any (bk o c : Nat) (xs : List ByteArray) (sep : ByteArray) (w : World) (hcells : ∀ (j : Nat) x, xs[j]? = some x → w.cell? ⟨bk, o + j, none⟩ = some (.string x)) (hbk : bk < w.heap.size) (hN : xs.length ≤ 140737488355328) (hcap : xs.length ≤ c)
    (hlen : (Lib.join (xs.map (·.data.toList)) sep.data.toList).length ≤ 140737488355328) :
    Calls Tryz.prog 55 #[.slice (some ⟨bk, o, none⟩) xs.length c, .string sep] w fun e w' => e = .returned (.string ⟨(Lib.join (xs.map (·.data.toList)) sep.data.toList).toArray⟩) ∧ Below w.heap.size w w' := Any.strings_Join jn156 jextra bk o c xs sep w hcells hbk hN hcap hlen
theorem join_none (a : Option Addr) (c : Nat) (sep : ByteArray) (w : World) : Calls Tryz.prog 55 #[.slice a 0 c, .string sep] w fun e w' => e = .returned (.string ⟨#[]⟩) ∧ w' = w := Any.strings_Join_none jn156 jextra a c sep w
end Go.Proofs.YtahdpocaldhamaaGreat

namespace Go.Proofs.YtahdpocaldhamaaGreat
set_option linter.unusedVariables false
open Go.Shelf Go.RowKit

/-- the method that a builder is called by -/
theorem mB_write (n : Nat) (v : Value) (w : World) : Sem.run Tryz.prog (method (n + 1) 59 v "Write") w = .ok (131, v) w := by kernel_rfl

theorem cB_write (args : Array Value) (w : World) : Sem.run Tryz.prog (callFunc 131 args) w = .ok (.enter 131 args) w := by kernel_rfl
theorem nB_write (n : Nat) (a : Addr) (w : World) : Sem.run Tryz.prog (nilAhead (n + 1) 59 (.pointer (some a)) "Write") w = .ok (some false) w := by kernel_rfl
theorem blk_lt0 {w : World} {b : Nat} {o : Obj} (h : w.heap[b]? = some o) : b < w.heap.size := (Array.getElem?_eq_some_iff.1 h).1
theorem copyCheck_row (B b : Nat) (l : List UInt8) (w : World) (h : Bld B b l w) :
    Calls Tryz.prog 90 #[.pointer (some ⟨b, 0, none⟩)] w fun e w' => e = .returned (.tuple #[]) ∧ (Lib.BuilderAtF 61 5 B b (.pointer (some ⟨b, 0, none⟩)) (Lib.byteCells l) w' ∧ Below B w w' ∧ Lib.OthersKept 5 (some b) w w' ∧ ∀ k, k ≠ b → w'.heap[k]? = w.heap[k]?) := by
  rcases h with h | h
  · refine (Any.Builder_copyCheck_fresh bn240 bextra.toX72 b w h.cell0 h.shape h.frozen0).mono ?_
    rintro e w' ⟨rfl, rfl⟩
    exact ⟨rfl, h.used _, (Below.refl B w).setCell (p := ⟨b, 0, none⟩) h.1 _, (Lib.OthersKept.refl _ _ w).setCell ⟨b, 0, none⟩ rfl _, fun k hk => Below.heap_setCell _ _ _ _ (fun e => hk (by simp at e; omega))⟩
  · refine (Any.Builder_copyCheck_used bn240 bextra.toX72 b w h.cell0).mono ?_
    rintro e w' ⟨rfl, rfl⟩
    exact ⟨rfl, h, Below.refl B _, Lib.OthersKept.refl _ _ _, fun _ _ => rfl⟩

set_option maxHeartbeats 2000000 in
set_option maxRecDepth 100000 in
theorem write_any (B b : Nat) (l s : List UInt8) (bk c : Nat) (w : World) (h : Bld B b l w) (hcells : ∀ (j : Nat) x, s[j]? = some x → w.cell? ⟨bk, j, none⟩ = some (.int .u8 (x.toNat : Int))) (hb : bk ≠ b) (hlen : l.length + s.length ≤ 1000000000) (hBw : B ≤ w.heap.size) :
    Calls Tryz.prog 131 #[.pointer (some ⟨b, 0, none⟩), .slice (some ⟨bk, 0, none⟩) s.length c] w fun e w' => e = .returned (.tuple #[.int .i64 s.length, .nilIface]) ∧ Wrote B b (l ++ s) w w' := by
  obtain ⟨i0, hi, hz0, hz1, hz2⟩ := info_parts bextra.infoByte
  go_enter Tryz.func131, Tryz.ntmps131
  go_wp2_with fail
  refine (copyCheck_row B b l _ h).mono ?_
  rintro e w1 ⟨rfl, h1, hb1, hk1, hr1⟩
  obtain ⟨hB, v, hbk, hown, hne⟩ := h1
  have c0 : w1.cell? ⟨b, 0, none⟩ = some (.pointer (some ⟨b, 0, none⟩)) := by rw [Lib.cell_of_heap hbk]; rfl
  have c1 : w1.cell? ⟨b, 1, none⟩ = some v := by rw [Lib.cell_of_heap hbk]; rfl
  have hcells1 : ∀ (j : Nat) x, s[j]? = some x → w1.cell? ⟨bk, j, none⟩ = some (.int .u8 (x.toNat : Int)) := fun j x hx => by
    have := hcells j x hx
    unfold World.cell? at this ⊢
    rw [hr1 bk hb]
    exact this
  go_wp2_with (at_builtin; refine wpList_append_ownF _ rfl _ _ 22 rfl B 5 i0 (.int .u8 0) 1 1 (by kernel_rfl) hi hz0 hz1 hz2 rfl (by decide) _ _ _ rfl hown ⟨bk, 0, none⟩ s.length c (Lib.byteCells s) rfl ?c1 ?c2 ?c3 ?c4 ?c5 ?c6 ?_)
  case c1 => rw [bytes_length]; omega
  case c2 =>
    intro j u hj
    simp only [Lib.byteCells, List.getElem?_map, Option.map_eq_some_iff] at hj
    obtain ⟨x, hx, rfl⟩ := hj
    have := hcells1 j x hx
    by_cases h0 : j = 0
    · subst h0; simpa [Addr.add] using this
    · simpa [Addr.add, h0] using this
  case c3 =>
    intro u hu
    simp only [Lib.byteCells, List.mem_map] at hu
    obtain ⟨x, hx, rfl⟩ := hu
    rfl
  case c4 => rw [bytes_length]; unfold maxLen; omega
  case c5 => rw [bytes_length]; omega
  case c6 => have := hb1.size; omega
  intro v' w2 hown' hgrow _
  have hlt : b < w1.heap.size := blk_lt0 hbk
  have hb2 : w2.heap[b]? = some (.cells #[.pointer (some ⟨b, 0, none⟩), v] 61 (0, 0)) := by
    rw [hgrow.block b hlt (fun e => hne e.symm)]
    exact hbk
  have d0 : w2.cell? ⟨b, 0, none⟩ = some (.pointer (some ⟨b, 0, none⟩)) := by rw [Lib.cell_of_heap hb2]; rfl
  have d1 : w2.cell? ⟨b, 1, none⟩ = some v := by rw [Lib.cell_of_heap hb2]; rfl
  have f1 : w2.frozen? ⟨b, 1, none⟩ = false := Lib.frozen_of_heap hb2 1
  obtain ⟨ao, n', cap, rfl⟩ : ∃ ao n' cap, v' = .slice ao n' cap := by
    rcases hown'.2 with ⟨hv, _⟩ | ⟨g, cap, cur, fz, hv, _⟩
    · exact ⟨_, _, _, hv⟩
    · exact ⟨_, _, _, hv⟩
  go_wp2_with fail
  go_ret2
  refine ⟨rfl, .inr ?_, ?_, (hk1.grown hgrow (Lib.ownsRowF_kind hown)).setCell ⟨b, 1, none⟩ rfl _⟩
  · rw [bytes_append]
    exact Lib.BuilderAtF.put (T := 61) (e := 5) hB hb2 (bs' := Lib.byteCells l ++ Lib.byteCells s) (by simpa [bytes_length] using hown') bextra.neB5
  · exact (hb1.grown hgrow (by have := hb1.size; omega) (fun k hk => (hown.lt k hk).1)).setCell (p := ⟨b, 1, none⟩) hB _
theorem conv_bytes (s : ByteArray) (w : World) : (convert 9 22 (.string s)).run Tryz.prog w = .ok (.slice (some ⟨w.heap.size, 0, none⟩) s.size (grownCap w s.size 0 5)) (Lib.bytesWorld w 5 s) :=
  Lib.run_convert_string_bytes w _ _ _ s (u := .string) (by kernel_rfl) (by kernel_rfl) (by kernel_rfl)
theorem bytesWorld_below {B : Nat} (w : World) (s : ByteArray) (hB : B ≤ w.heap.size) : Below B w (Lib.bytesWorld w 5 s) :=
  Lib.below_freeze (((Below.refl B w).drew).alloc hB _) (p := ⟨w.heap.size, _, none⟩) hB 1
theorem bytesWorld_kept (b : Nat) (w : World) (s : ByteArray) : Lib.OthersKept 5 (some b) w (Lib.bytesWorld w 5 s) :=
  (((Lib.OthersKept.refl _ _ w).drew).alloc _).freeze ⟨w.heap.size, _, none⟩ 1 ⟨_, _, heap_alloc_new w.drew _⟩
theorem batF_next0 {T e : TypeId} {B b : Nat} {p : Value} {bs : List Value} {w w' : World} (h : Lib.BuilderAtF T e B b p bs w) (hB : Below w.heap.size w w') : Lib.BuilderAtF T e B b p bs w' := by
  obtain ⟨h1, v, h2, h3, h4⟩ := h
  refine ⟨h1, v, (hB.block b (blk_lt0 h2)).trans h2, ?_, h4⟩
  unfold World.ownsRowF at h3 ⊢
  refine ⟨h3.1, ?_⟩
  rcases h3.2 with h5 | ⟨g, cap, cur, fz, h6, h7, h8, h9⟩
  · exact .inl h5
  · exact .inr ⟨g, cap, cur, fz, h6, h7, (hB.block g (blk_lt0 h8)).trans h8, h9⟩
/-- the row that '[]byte(s)' makes, written -/
theorem write_conv (B b : Nat) (l : List UInt8) (s : ByteArray) (w : World) (h : Bld B b l w) (hlen : l.length + s.size ≤ 1000000000) (hBw : B ≤ w.heap.size) :
    Calls Tryz.prog 131 #[.pointer (some ⟨b, 0, none⟩), .slice (some ⟨w.heap.size, 0, none⟩) s.size (grownCap w s.size 0 5)] (Lib.bytesWorld w 5 s) fun e w' => e = .returned (.tuple #[.int .i64 s.size, .nilIface]) ∧ Wrote B b (l ++ s.data.toList) w w' := by
  have hb := h.lt
  have hBl := bytesWorld_below w s hBw
  have hBl0 := bytesWorld_below w s (Nat.le_refl _)
  have hz := hBl.size
  have hls : s.data.toList.length = s.size := by rw [Array.length_toList]; rfl
  have h2 : Bld B b l (Lib.bytesWorld w 5 s) := by
    rcases h with h | h
    · exact .inl (batF_next0 h hBl0)
    · exact .inr (batF_next0 h hBl0)
  have key := write_any B b l s.data.toList w.heap.size (grownCap w s.size 0 5) (Lib.bytesWorld w 5 s) h2 (fun j x hx => by
    have hj : j < s.size := by rw [← hls]; exact (List.getElem?_eq_some_iff.1 hx).1
    rw [Lib.bytesWorld_cell w _ s j hj, List.getD_eq_getElem?_getD, hx]
    rfl) (by omega) (by rw [hls]; exact hlen) (by omega)
  rw [hls] at key
  refine key.mono ?_
  rintro e w' ⟨rfl, hW⟩
  exact ⟨rfl, hW.is, hBl.trans hW.below, (bytesWorld_kept b w s).trans hW.kept⟩
/-- a line's bytes, its newline put behind them -/
theorem write_nl (B b : Nat) (l J : List UInt8) (w : World) (h : Bld B b l w) (hlen : l.length + J.length + 1 ≤ 1000000000) (hBw : B ≤ w.heap.size) :
    Calls Tryz.prog 131 #[.pointer (some ⟨b, 0, none⟩), .slice (some ⟨w.heap.size, 0, none⟩) (J.length + 1) (grownCap w (J.length + 1) 0 5)] (Lib.bytesWorld w 5 ((⟨J.toArray⟩ : ByteArray) ++ ⟨#[10]⟩)) fun e w' => e = .returned (.tuple #[.int .i64 ((J.length + 1 : Nat) : Int), .nilIface]) ∧ Wrote B b (l ++ (J ++ [10])) w w' := by
  have hz : ((⟨J.toArray⟩ : ByteArray) ++ ⟨#[10]⟩).size = J.length + 1 := by
    rw [ByteArray.size_append]
    rfl
  have hd : ((⟨J.toArray⟩ : ByteArray) ++ ⟨#[10]⟩).data.toList = J ++ [10] := by
    rw [ByteArray.data_append]
    simp
  have key := write_conv B b l ((⟨J.toArray⟩ : ByteArray) ++ ⟨#[10]⟩) w h (by rw [hz]; omega) hBw
  rw [hz, hd] at key
  exact key
end Go.Proofs.YtahdpocaldhamaaGreat

namespace Go.Proofs.YtahdpocaldhamaaGreat
set_option linter.unusedVariables false
open Go.RowKit

theorem batF_next {T e : TypeId} {B b : Nat} {p : Value} {bs : List Value} {w w' : World} (h : Lib.BuilderAtF T e B b p bs w) (hB : Below w.heap.size w w') : Lib.BuilderAtF T e B b p bs w' := by
  obtain ⟨h1, v, h2, h3, h4⟩ := h
  refine ⟨h1, v, (hB.block b (blk_lt0 h2)).trans h2, ?_, h4⟩
  unfold World.ownsRowF at h3 ⊢
  refine ⟨h3.1, ?_⟩
  rcases h3.2 with h5 | ⟨g, cap, cur, fz, h6, h7, h8, h9⟩
  · exact .inl h5
  · exact .inr ⟨g, cap, cur, fz, h6, h7, (hB.block g (blk_lt0 h8)).trans h8, h9⟩
theorem Bld.next {B b : Nat} {l : List UInt8} {w w' : World} (h : Bld B b l w) (hB : Below w.heap.size w w') : Bld B b l w' := by
  rcases h with h | h
  · exact .inl (batF_next h hB)
  · exact .inr (batF_next h hB)
/-- a step that only adds memory, before what is written -/
theorem Wrote.after {B b : Nat} {l : List UInt8} {w w' w'' : World} (hB : Below w.heap.size w w') (hBw : B ≤ w.heap.size) (h : Wrote B b l w' w'') : Wrote B b l w w'' :=
  ⟨h.is, (hB.mono hBw).trans h.below, fun k o hk h3 h4 => h.kept k o ((hB.block k (Array.getElem?_eq_some_iff.1 hk).1).trans hk) h3 h4⟩

set_option maxRecDepth 100000 in
set_option maxHeartbeats 2000000 in
theorem writeLineW_any (xs : List ByteArray) (bk o c : Nat) (B b : Nat) (l : List UInt8) (w : World) (hcells : ∀ (j : Nat) x, xs[j]? = some x → w.cell? ⟨bk, o + j, none⟩ = some (.string x)) (hbk : bk < w.heap.size) (hN : xs.length ≤ 100) (hcap : xs.length ≤ c)
    (h : Bld B b l w) (hBb : B ≤ b) (hlen : l.length + (Lib.join (xs.map (·.data.toList)) [32]).length ≤ 900000000) :
    Calls Tryz.prog 31 #[.iface 59 (.pointer (some ⟨b, 0, none⟩)), .slice (some ⟨bk, o, none⟩) xs.length c] w fun e w' => e = .returned (.tuple #[]) ∧ Wrote B b ((l ++ Lib.join (xs.map (·.data.toList)) [32]) ++ [10]) w w' := by
  have hmw := mB_write
  have hcw := cB_write
  have hnw := nB_write
  have hcv := conv_bytes
  have hmf : ∀ (fn : Fn) (first cap : Array Value) (w : World), (Instr.makeFunc fn first cap).run Tryz.prog w = .ok (.func fn first cap) w := fun _ _ _ _ => rfl
  have hbl := h.lt
  have hDr := (Below.refl w.heap.size w).drew
  have hD : Bld B b l w.drew := h.next hDr
  have hcD : ∀ (j : Nat) x, xs[j]? = some x → w.drew.cell? ⟨bk, o + j, none⟩ = some (.string x) := hcells
  have hj0 := join_any bk o c xs ⟨#[32]⟩ w.drew hcD hbk (by omega) hcap (by show (Lib.join (xs.map (·.data.toList)) [32]).length ≤ _; omega)
  rw [show (⟨#[32]⟩ : ByteArray).data.toList = [32] from rfl] at hj0
  generalize Lib.join (xs.map (·.data.toList)) [32] = J at *
  have Hj := Lib.hid hj0
  have HD := Lib.hid hD
  clear hj0 hD hcD hcells h
  have hcat : ¬ 9223372036854775807 < J.length + 1 := by omega
  go_enter Tryz.func31, Tryz.ntmps31
  go_region_with
    (first
      | (go_at_call 55; refine Hj.out.mono ?_; rintro e w1 ⟨rfl, hB1⟩; have H1 := Lib.hid (HD.out.next hB1); have hs1 : w.heap.size ≤ w1.heap.size := hB1.size; have HB1 := Lib.hid hB1; clear hB1)
      | (go_at_call 131; refine (write_nl B b l J w1 H1.out (by omega) (by omega)).mono ?_; rintro e w3 ⟨rfl, hW3⟩))
  all_goals (go_end0; exact ⟨rfl, ((hW3.to (by simp only [List.append_assoc])).after HB1.out (by show B ≤ w.heap.size; omega)).after hDr (by omega)⟩)
/-- three words -/
theorem wl3 (s0 p t : ByteArray) (bk B b : Nat) (l : List UInt8) (V : World) {T : TypeId} {fr : Nat × Nat} (hrow : V.heap[bk]? = some (.cells #[.string s0, .string p, .string t] T fr)) (hbl : Bld B b l V) (hBb : B ≤ b) (hlen : l.length + (s0.size + p.size + t.size) + 10 ≤ 900000000) :
    Calls Tryz.prog 31 #[.iface 59 (.pointer (some ⟨b, 0, none⟩)), .slice (some ⟨bk, 0, none⟩) 3 3] V fun e w' => e = .returned (.tuple #[]) ∧ Wrote B b (l ++ (s0.data.toList ++ ([32] ++ (p.data.toList ++ ([32] ++ (t.data.toList ++ [10])))))) V w' := by
  have hj : Lib.join ([s0, p, t].map (·.data.toList)) [32] = s0.data.toList ++ ([32] ++ (p.data.toList ++ ([32] ++ t.data.toList))) := by simp [Lib.join]
  have z0 : s0.data.toList.length = s0.size := by simp
  have z1 : p.data.toList.length = p.size := by simp
  have z2 : t.data.toList.length = t.size := by simp
  refine (writeLineW_any [s0, p, t] bk 0 3 B b l V (fun j x hx => ?_) (blk_lt0 hrow) (by simp) (by simp) hbl hBb ?_).mono ?_
  · rw [Nat.zero_add, cell_of_row _ _ _ _ _ _ hrow]
    match j, hx with
    | 0, hx => simpa using hx
    | 1, hx => simpa using hx
    | 2, hx => simpa using hx
    | j + 3, hx => simp at hx
  · rw [hj]
    simp only [List.length_append, List.length_cons, List.length_nil]
    omega
  · rintro e w' ⟨rfl, hW⟩
    rw [hj] at hW
    exact ⟨rfl, hW.to (by simp only [List.append_assoc])⟩
end Go.Proofs.YtahdpocaldhamaaGreat

namespace Go.Proofs.YtahdpocaldhamaaGreat
set_option linter.unusedVariables false
open Go.RowKit

theorem mw_text (n : Nat) (s : ByteArray) (w : World) : Sem.run Tryz.prog (method (n + 1) 158 (.agg #[.string s]) "loop.example/buildengine/impl.write") w = .ok (146, .agg #[.string s]) w := by kernel_rfl
theorem mo_text (n : Nat) (s : ByteArray) (w : World) : Sem.run Tryz.prog (method (n + 1) 158 (.agg #[.string s]) "loop.example/buildengine/impl.operands") w = .ok (145, .agg #[.string s]) w := by kernel_rfl
theorem mc_text (n : Nat) (s : ByteArray) (w : World) : Sem.run Tryz.prog (method (n + 1) 158 (.agg #[.string s]) "loop.example/buildengine/impl.combine") w = .ok (143, .agg #[.string s]) w := by kernel_rfl
theorem mw_read (n : Nat) (v : Value) (w : World) : Sem.run Tryz.prog (method (n + 1) 160 (.agg #[v]) "loop.example/buildengine/impl.write") w = .ok (150, .agg #[v]) w := by kernel_rfl
theorem mo_read (n : Nat) (t : TypeId) (x : Value) (w : World) : Sem.run Tryz.prog (method (n + 1) 160 (.agg #[.iface t x]) "loop.example/buildengine/impl.operands") w = .ok (142, .agg #[.iface t x]) w := by kernel_rfl
theorem mc_read (n : Nat) (v : Value) (w : World) : Sem.run Tryz.prog (method (n + 1) 160 (.agg #[v]) "loop.example/buildengine/impl.combine") w = .ok (147, .agg #[v]) w := by kernel_rfl
theorem mw_join (n : Nat) (v : Value) (w : World) : Sem.run Tryz.prog (method (n + 1) 144 (.agg #[v]) "loop.example/buildengine/impl.write") w = .ok (136, .agg #[v]) w := by kernel_rfl
theorem mo_join (n : Nat) (v : Value) (w : World) : Sem.run Tryz.prog (method (n + 1) 144 (.agg #[v]) "loop.example/buildengine/impl.operands") w = .ok (135, .agg #[v]) w := by kernel_rfl
theorem mc_join (n : Nat) (v : Value) (w : World) : Sem.run Tryz.prog (method (n + 1) 144 (.agg #[v]) "loop.example/buildengine/impl.combine") w = .ok (133, .agg #[v]) w := by kernel_rfl
theorem mw_same (n : Nat) (v v1 v2 v3 : Value) (w : World) : Sem.run Tryz.prog (method (n + 1) 146 (.agg #[v, v1, v2, v3]) "loop.example/buildengine/impl.write") w = .ok (141, .agg #[v, v1, v2, v3]) w := by kernel_rfl
theorem mo_same (n : Nat) (v v1 v2 v3 : Value) (w : World) : Sem.run Tryz.prog (method (n + 1) 146 (.agg #[v, v1, v2, v3]) "loop.example/buildengine/impl.operands") w = .ok (140, .agg #[v, v1, v2, v3]) w := by kernel_rfl
theorem mc_same (n : Nat) (v v1 v2 v3 : Value) (w : World) : Sem.run Tryz.prog (method (n + 1) 146 (.agg #[v, v1, v2, v3]) "loop.example/buildengine/impl.combine") w = .ok (138, .agg #[v, v1, v2, v3]) w := by kernel_rfl
theorem mw_first (n : Nat) (v : Value) (w : World) : Sem.run Tryz.prog (method (n + 1) 161 (.agg #[v]) "loop.example/buildengine/impl.write") w = .ok (154, .agg #[v]) w := by kernel_rfl
theorem mo_first (n : Nat) (t : TypeId) (x : Value) (w : World) : Sem.run Tryz.prog (method (n + 1) 161 (.agg #[.iface t x]) "loop.example/buildengine/impl.operands") w = .ok (142, .agg #[.iface t x]) w := by kernel_rfl
theorem mc_first (n : Nat) (v : Value) (w : World) : Sem.run Tryz.prog (method (n + 1) 161 (.agg #[v]) "loop.example/buildengine/impl.combine") w = .ok (152, .agg #[v]) w := by kernel_rfl
theorem mw_rest (n : Nat) (v : Value) (w : World) : Sem.run Tryz.prog (method (n + 1) 162 (.agg #[v]) "loop.example/buildengine/impl.write") w = .ok (157, .agg #[v]) w := by kernel_rfl
theorem mo_rest (n : Nat) (t : TypeId) (x : Value) (w : World) : Sem.run Tryz.prog (method (n + 1) 162 (.agg #[.iface t x]) "loop.example/buildengine/impl.operands") w = .ok (142, .agg #[.iface t x]) w := by kernel_rfl
theorem mc_rest (n : Nat) (v : Value) (w : World) : Sem.run Tryz.prog (method (n + 1) 162 (.agg #[v]) "loop.example/buildengine/impl.combine") w = .ok (155, .agg #[v]) w := by kernel_rfl
theorem mw_count (n : Nat) (v : Value) (w : World) : Sem.run Tryz.prog (method (n + 1) 163 (.agg #[v]) "loop.example/buildengine/impl.write") w = .ok (160, .agg #[v]) w := by kernel_rfl
theorem mo_count (n : Nat) (t : TypeId) (x : Value) (w : World) : Sem.run Tryz.prog (method (n + 1) 163 (.agg #[.iface t x]) "loop.example/buildengine/impl.operands") w = .ok (142, .agg #[.iface t x]) w := by kernel_rfl
theorem mc_count (n : Nat) (v : Value) (w : World) : Sem.run Tryz.prog (method (n + 1) 163 (.agg #[v]) "loop.example/buildengine/impl.combine") w = .ok (158, .agg #[v]) w := by kernel_rfl
end Go.Proofs.YtahdpocaldhamaaGreat

namespace Go.Proofs.YtahdpocaldhamaaGreat
set_option linter.unusedVariables false
open Go.ChangeShapes Go.WideShapes Go.Deep Go.RowKit Go.Joins
open Go.ChangeMaps (open_string shut_string)

/-- a slice of bytes that came in: nil, or a row of 'cap' cells, the numbers zs -/
def IsRow (k : IntKind) (w : World) (a : Option Addr) (len cap : Nat) (zs : List Int) : Prop :=
  (a = none ∧ len = 0 ∧ cap = 0 ∧ zs = []) ∨
  ∃ x, a = some x ∧ len ≤ cap ∧ cap ≤ maxLen ∧ zs.length = cap ∧ (∀ i, i < zs.length → w.cell? (x.add i) = some (.int k (zs.getD i 0))) ∧ ∀ n ∈ zs, (Lit.int k n).wf = true

theorem open_bytes {H : Type} {enc : TypeId × Value → H} {P : Program} {W : World} {t e : TypeId} {a : Option Addr} {len cap : Nat} {d : DataW H} {p : List MemPlace}
    (ht : P.underlying t = some (.slice e)) (he : P.underlying e = some (.int .u8)) (h1 : P.cellsOf e = 1) (h : DataW.Trod enc P W 0 (fun _ => true) true t (.slice a len cap) d p) :
    ∃ zs, IsRow .u8 W a len cap zs := by
  obtain ⟨fuel, hf⟩ := h
  rcases open_ints ht he h1 hf with ⟨hcs, _⟩ | ⟨x, l, c, zs, hcs, _, hl, hm, hz, _, hcell, hwz⟩
  · simp [Value.cells] at hcs
    obtain ⟨rfl, rfl, rfl⟩ := hcs
    exact ⟨[], .inl ⟨rfl, rfl, rfl, rfl⟩⟩
  · simp [Value.cells] at hcs
    obtain ⟨rfl, rfl, rfl⟩ := hcs
    exact ⟨zs, .inr ⟨_, rfl, hl, hm, by simpa using hz, hcell, hwz⟩⟩


/-- a slice of structs of one-cell fields that came in, opened to its cells -/
theorem open_rows {H : Type} {enc : TypeId × Value → H} {P : Program} {w : World} {base : Nat} {sp : Nat → Bool} {held : Bool} {t e : TypeId} {fs : Array Field} {fuel : Nat} {cs : List Value} {x : DataW H × List MemPlace}
    (ht : P.underlying t = some (.slice e)) (he : P.underlying e = some (.struct fs)) (hone : oneCellFields P fs = true) (hC : P.cellsOf e = fs.size) (h : DataW.trod enc P w base sp held fuel t cs = some x) :
    cs = [.slice none 0 0] ∨
    ∃ (a : Addr) (len cap : Nat), cs = [.slice (some a) len cap] ∧ len ≤ cap ∧ cap ≤ maxLen ∧
      ∀ i, i < len → ∀ (j : Nat) (f : Field), fs[j]? = some f → ∃ (v : Value) (y : DataW H × List MemPlace) (n : Nat), w.cell? (a.add (i * fs.size + j)) = some v ∧ DataW.trod enc P w base sp held n f.type [v] = some y := by
  rcases open_slice ht h with ⟨h0, _⟩ | ⟨a, len, cap, m, n, D, Pl, hcs, hb, hl, hm, hmm, hx, hi⟩
  · exact .inl h0
  · refine .inr ⟨a, len, cap, hcs, hl, hm, fun i hil j f hj => ?_⟩
    have him : i < m := by rw [hmm]; split <;> omega
    obtain ⟨cs', hc, ht'⟩ := hi i him
    rw [hC] at hc
    obtain ⟨ys, n', hn', hy, hlen, hyl, hf⟩ := DataW.trod_struct he ht'
    obtain ⟨_, hcl, hat⟩ := World.cells?_some hc
    obtain ⟨ho, hk⟩ := hone_of hone j f hj
    have hjl : j < fs.size := (Array.getElem?_eq_some_iff.1 hj).1
    have hcell := hat j hjl
    have hv : cs'[j]? = some (cs'[j]'(by omega)) := List.getElem?_eq_getElem (by omega)
    have h1 := hf j f hj
    rw [ho, hk] at h1
    have hone' : (cs'.drop j).take 1 = [cs'[j]'(by omega)] := by
      rw [List.drop_eq_getElem_cons (by omega)]
      rfl
    rw [hone'] at h1
    have hys : ys[j]? = some (ys[j]'(by omega)) := List.getElem?_eq_getElem (by omega)
    exact ⟨_, _, n', by rw [← Go.Deep.add_add, hcell, hv], h1.trans hys⟩

theorem open_files {H : Type} {enc : TypeId × Value → H} {P : Program} {W : World} {t e : TypeId} {a : Option Addr} {len cap : Nat} {d : DataW H} {p : List MemPlace} {f0 f1 : Field}
    (ht : P.underlying t = some (.slice e)) (he : P.underlying e = some (.struct #[f0, f1])) (h0 : P.underlying f0.type = some .string) (h1 : P.underlying f1.type = some .string)
    (hone : oneCellFields P #[f0, f1] = true) (hC : P.cellsOf e = 2) (h : DataW.Trod enc P W 0 (fun _ => true) true t (.slice a len cap) d p) :
    ∃ fs, FilesAt W W.heap.size a len fs ∧ Fits fs ∧ len ≤ maxLen := by
  obtain ⟨fuel, hf⟩ := h
  rcases open_rows ht he hone hC hf with hcs | ⟨x, l, c, hcs, hl, hm, hcell⟩
  · simp [Value.cells] at hcs
    obtain ⟨rfl, rfl, rfl⟩ := hcs
    exact ⟨[], ⟨rfl, fun hn => absurd hn (by omega)⟩, fun f hf => by simp at hf, by unfold maxLen; omega⟩
  · simp [Value.cells] at hcs
    obtain ⟨rfl, rfl, rfl⟩ := hcs
    have hget : ∀ i, i < len → ∃ q r : ByteArray, W.cell? (x.add (i * 2)) = some (.string q) ∧ W.cell? (x.add (i * 2 + 1)) = some (.string r) ∧ q.size ≤ maxLen ∧ r.size ≤ maxLen := by
      intro i hi
      obtain ⟨v, y, n, hv, hy⟩ := hcell i hi 0 f0 rfl
      obtain ⟨v', y', n', hv', hy'⟩ := hcell i hi 1 f1 rfl
      obtain ⟨q, hq, _, hql⟩ := DataW.trod_string h0 hy
      obtain ⟨r, hr, _, hrl⟩ := DataW.trod_string h1 hy'
      simp at hq hr
      subst hq hr
      exact ⟨q, r, hv, hv', hql, hrl⟩
    let F : Nat → Fl := fun i => if hi : i < len then ((hget i hi).choose, (hget i hi).choose_spec.choose) else (.empty, .empty)
    have hF : ∀ i, i < len → W.cell? (x.add (i * 2)) = some (.string (F i).1) ∧ W.cell? (x.add (i * 2 + 1)) = some (.string (F i).2) ∧ (F i).1.size ≤ maxLen ∧ (F i).2.size ≤ maxLen := by
      intro i hi
      have h := (hget i hi).choose_spec.choose_spec
      simp only [F, dif_pos hi]
      exact h
    refine ⟨(List.range len).map F, ⟨by simp, fun hn => ?_⟩, ?_, by omega⟩
    · obtain ⟨b, off, spot⟩ := x
      have hc0 := (hF 0 hn).1
      have hspot : spot = none := by simpa [Addr.add] using World.cell?_spot hc0
      subst hspot
      refine ⟨b, off, rfl, World.block_lt_of_cell? W ⟨b, off, none⟩ (by simpa [Addr.add] using hc0), fun j u hu => ?_⟩
      obtain ⟨k, q, r, hk, hh⟩ := fcells_inv _ hu
      have hkl : k < len := by have := (List.getElem?_eq_some_iff.1 hk).1; simpa using this
      have hFk : F k = (q, r) := by simpa [hkl] using hk
      have hh2 := hF k hkl
      rw [hFk, add_none, add_none] at hh2
      rcases hh with ⟨rfl, rfl⟩ | ⟨rfl, rfl⟩
      · exact hh2.1
      · exact hh2.2.1
    · intro f hf
      simp only [List.mem_map, List.mem_range] at hf
      obtain ⟨k, hk, rfl⟩ := hf
      exact (hF k hk).2.2

theorem open_file {H : Type} {enc : TypeId × Value → H} {P : Program} {W : World} {r : Reach} {b0 : Nat} {t : TypeId} {v : Value} {d : DataW H} {p : List MemPlace} {f0 f1 : Field}
    (hs : P.underlying t = some (.struct #[f0, f1])) (h0 : P.underlying f0.type = some .string) (h1 : P.underlying f1.type = some .string)
    (hone : oneCellFields P #[f0, f1] = true) (hC : P.cellsOf t = 2) (hv : Value.okWide P W r b0 t v) (h : DataW.Trod enc P W 0 (fun _ => true) true t v d p) :
    ∃ q s : ByteArray, v = .agg #[.string q, .string s] ∧ q.size ≤ maxLen ∧ s.size ≤ maxLen := by
  obtain ⟨v0, v1, y0, y1, n, rfl, _, _, hy0, hy1⟩ := open_agg2 hs hone hC hv h
  obtain ⟨q, hq, _, hql⟩ := DataW.trod_string h0 hy0
  obtain ⟨s, hs', _, hsl⟩ := DataW.trod_string h1 hy1
  simp at hq hs'
  subst hq hs'
  exact ⟨q, s, rfl, hql, hsl⟩

end Go.Proofs.YtahdpocaldhamaaGreat
