/-
  The program's ExprEqual: the list of pairs that are still to be compared, and its operations.
-/
import Derived.Test.YtahdpocaldhamaaGreatQEqP
import Derived.Test.YtahdpocaldhamaaGreatGone
import Derived.Deep.LoopGhost
import Derived.BigQuiet
import Derived.Deep.Onto
namespace Go.Proofs.YtahdpocaldhamaaGreat
set_option linter.unusedVariables false
set_option linter.unusedSimpArgs false
open Go.RowKit

def prcells : List Pr → List Value
  | [] => []
  | m :: W => .pointer (some ⟨m.1.1, m.1.2, none⟩) :: .pointer (some ⟨m.2.1, m.2.2, none⟩) :: prcells W
theorem prcells_len : ∀ W : List Pr, (prcells W).length = W.length * 2
  | [] => rfl
  | m :: W => by simp only [prcells, List.length_cons, prcells_len W]; omega
theorem prcells_app : ∀ W V : List Pr, prcells (W ++ V) = prcells W ++ prcells V
  | [], V => rfl
  | m :: W, V => by simp only [List.cons_append, prcells, prcells_app W V]
/-- a list of pairs of one's own -/
def OwnPr (w : World) (base : Nat) (v : Value) (W : List Pr) : Prop := w.ownsRow base 78 2 v W.length (prcells W)
theorem pairs_under : Tryz.prog.underlying 79 = some (.slice 78) := by kernel_rfl
theorem pair_info : (Tryz.prog.info? 78).map (fun i => (i.zero, i.size, i.bytes)) = some (some (.agg #[.pointer none, .pointer none]), 2, 16) := by kernel_rfl
section
variable {w w' : World} {base g cap : Nat} {v : Value} {W : List Pr} {m : Pr}
theorem OwnPr.one (w : World) (m : Pr) (hb : base ≤ w.heap.size) : OwnPr (w.alloc (.cells #[.pointer (some ⟨m.1.1, m.1.2, none⟩), .pointer (some ⟨m.2.1, m.2.2, none⟩)] 78)) base (.slice (some ⟨w.heap.size, 0, none⟩) 1 1) [m] :=
  ⟨rfl, .inr ⟨w.heap.size, 1, _, rfl, hb, heap_alloc_new w _, Nat.le_refl _, by simp [maxLen], rfl, rfl⟩⟩
theorem OwnPr.cells (h : OwnPr w base (.slice (some ⟨g, 0, none⟩) (W.length + 1) cap) (W ++ [m])) : w.cell? ⟨g, W.length * 2, none⟩ = some (.pointer (some ⟨m.1.1, m.1.2, none⟩)) ∧ w.cell? ⟨g, W.length * 2 + 1, none⟩ = some (.pointer (some ⟨m.2.1, m.2.2, none⟩)) := by
  have hc : ∀ j u, (prcells (W ++ [m]))[j]? = some u → w.cell? ⟨g, j, none⟩ = some u := fun j u hu => by
    have := World.ownsRow.cells h (g := g) rfl j u hu
    rwa [add_none, Nat.zero_add] at this
  have hl := prcells_len W
  constructor
  · refine hc _ _ ?_
    rw [prcells_app, List.getElem?_append_right (by omega), hl, Nat.sub_self]
    rfl
  · refine hc _ _ ?_
    rw [prcells_app, List.getElem?_append_right (by omega), hl, show W.length * 2 + 1 - W.length * 2 = 1 from by omega]
    rfl
theorem OwnPr.room (h : OwnPr w base (.slice (some ⟨g, 0, none⟩) (W.length + 1) cap) (W ++ [m])) : W.length + 1 ≤ cap := by
  rcases h.2 with ⟨h1, _⟩ | ⟨g', cap', cur, e, h1, h2, h3, h4, h5, h6⟩
  · cases h1
  · simp only [Value.slice.injEq, Option.some.injEq, Addr.mk.injEq] at e
    obtain ⟨⟨rfl, _⟩, _, rfl⟩ := e
    simpa using h3
/-- the last pair goes -/
theorem OwnPr.cut (h : OwnPr w base (.slice (some ⟨g, 0, none⟩) (W.length + 1) cap) (W ++ [m])) : OwnPr w base (.slice (some ⟨g, 0, none⟩) W.length cap) W := by
  refine ⟨prcells_len W, .inr ?_⟩
  rcases h.2 with ⟨h1, _⟩ | ⟨g', cap', cur, e, h1, h2, h3, h4, h5, h6⟩
  · cases h1
  · simp only [Value.slice.injEq, Option.some.injEq, Addr.mk.injEq] at e
    obtain ⟨⟨rfl, _⟩, _, rfl⟩ := e
    refine ⟨g, cap, cur, rfl, h1, h2, by omega, h4, h5, ?_⟩
    have := congrArg (List.take (W.length * 2)) h6
    rw [List.take_take, prcells_app, Nat.min_eq_left (by simp; omega), List.take_append_of_le_length (by rw [prcells_len]; omega)] at this
    exact this.trans (List.take_of_length_le (by rw [prcells_len]; omega))
theorem OwnPr.kept {r : Option Nat} (h : OwnPr w base v W) (hg : w.grownBy w' r) (hr : ∀ k, r = some k → k < base ∨ w.heap.size ≤ k) : OwnPr w' base v W :=
  World.ownsRow.kept h hg (by
    cases hv : v.ownBlock with
    | none => exact .inl rfl
    | some b => exact .inr fun e => by have := World.ownsRow.lt h b hv; have := hr b e.symm; omega)
theorem OwnPr.alloc (h : OwnPr w base v W) (o : Obj) : OwnPr (w.alloc o) base v W := World.ownsRow.alloc h o
theorem OwnPr.lt (h : OwnPr w base v W) : ∀ k, v.ownBlock = some k → base ≤ k ∧ k < w.heap.size := World.ownsRow.lt h
end
section
variable {w : World} {ops : Array Oper} {rest : List Oper} {o : Oper} {a : Act} {Q : Exit → Act → World → Prop}
theorem wpList_look_pair (hg : o.guard = none) (x y : Operand) (hop : o.op = Op.lookup 75 x y false) (b : Nat) (M : List Pr) (hm : a.eval x = .map (some b)) (hmap : MapP w b M) (m : Pr) (hx : a.eval y = m.val) (hk : PPln w m) (hp : ∀ x ∈ M, PPln w x) (r : Bool) (hr : decide (m ∈ M) = r)
    (hK : wpList Tryz.prog ops Q rest (a.put o.dst (.bool r)) w) : wpList Tryz.prog ops Q (o :: rest) a w := by
  refine wpList_plain hg fun K' hK' => ?_
  have hrun := run_look w m hk b M hmap hp
  rw [hr] at hrun
  unfold Oper.wp
  simp [execOp, hop, hm, hx, hrun, Result.andThen]
  exact hK' _ _ hK
theorem wpList_put_pair (hg : o.guard = none) (x y z : Operand) (hop : o.op = Op.mapUpdate 75 x y z) (b : Nat) (M : List Pr) (hm : a.eval x = .map (some b)) (hmap : MapP w b M) (m : Pr) (hx : a.eval y = m.val) (hv : a.eval z = .bool true) (hk : PPln w m) (hp : ∀ x ∈ M, PPln w x) (hn : m ∉ M)
    (hK : ∀ w', MapP w' b (M ++ [m]) → w.grownBy w' (some b) → wpList Tryz.prog ops Q rest (a.put o.dst undef) w') : wpList Tryz.prog ops Q (o :: rest) a w := by
  refine wpList_plain hg fun K' hK' => ?_
  obtain ⟨w', hrun, r1, r2⟩ := run_put w m hk b M hmap hp hn
  unfold Oper.wp
  simp [execOp, hop, hm, hx, hv, hrun, Result.andThen]
  exact hK' _ _ (hK w' r1 r2)
end
/-- one more pair, at a step of a region that draws -/
theorem step_append_pair {w : World} {ops : Array Oper} {o : Oper} {a : Act} {K : Act → World → Prop} {Q : Exit → Act → World → Prop} {E : Prop} (hgd : o.guard = none) (s x : Operand)
    (ho : o.op = .call { callee := .builtin .append, args := #[s, x], argTypes := #[79, 79] })
    (base : Nat) (v : Value) (W : List Pr) (hs : a.eval s = v) (hown : OwnPr w base v W) (g c1 : Nat) (hx : a.eval x = .slice (some ⟨g, 0, none⟩) 1 c1) (m : Pr) {T : TypeId}
    (hbx : w.heap[g]? = some (.cells #[.pointer (some ⟨m.1.1, m.1.2, none⟩), .pointer (some ⟨m.2.1, m.2.2, none⟩)] T (0, 0))) (n : Nat) (hn : W.length = n) (h63 : n ≤ 1000000000) (hbase : base ≤ w.heap.size)
    (h : ∀ g cap w', OwnPr w' base (.slice (some ⟨g, 0, none⟩) (n + 1) cap) (W ++ [m]) → w.grownBy w' v.ownBlock → g < w'.heap.size → (v.ownBlock = some g ∨ w.heap.size ≤ g) → K (a.put o.dst (.slice (some ⟨g, 0, none⟩) (n + 1) cap)) w') :
    if Region.wanted o (yielded ops a.tmps) = true then Oper.wp Tryz.prog o a w K Q else E := by
  subst hn
  have hw : Region.wanted o (yielded ops a.tmps) = true := by simp [Region.wanted, hgd]
  rw [if_pos hw]
  obtain ⟨i, hi, hz0, hz1, hz2⟩ := info_parts pair_info
  refine wp_append_at s x 79 ho base 78 i _ 2 16 pairs_under hi hz0 hz1 hz2 rfl (by decide) v W.length _ hs hown ⟨g, 0, none⟩ 1 c1 (prcells [m]) hx rfl ?_ (by simp [prcells, Value.oneCell']) (by simp only [maxLen]; omega) (by omega) hbase fun v' w' h3 h4 h5 => ?_
  · intro j u hu
    rw [add_none, cell_of_row _ _ _ _ _ _ hbx, Nat.zero_add]
    simpa [prcells] using hu
  · have h6 : OwnPr w' base v' (W ++ [m]) := by
      unfold OwnPr
      rw [prcells_app]
      simpa using h3
    obtain ⟨g', cap', rfl, h7, h8⟩ := World.ownsRow.form h6 (by simp)
    rw [show (W ++ [m]).length = W.length + 1 from by simp] at h6 ⊢
    refine h g' cap' w' h6 h4 h8 ?_
    rcases h5 with h5 | h5
    · exact .inl h5.symm
    · exact .inr (h5 g' rfl)
end Go.Proofs.YtahdpocaldhamaaGreat
