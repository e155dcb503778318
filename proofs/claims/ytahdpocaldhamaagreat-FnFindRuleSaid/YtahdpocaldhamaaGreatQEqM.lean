/-
  The program's set of pairs of addresses that it has compared.
-/
import Derived.Test.YtahdpocaldhamaaGreatProg
import Derived.Test.YtahdpocaldhamaaGreatGone
import Derived.LaidEqlPtr
import Derived.WideKeyRuns
import Derived.Maps.OwnSet
import Derived.Laws.StructEq
namespace Go.Proofs.YtahdpocaldhamaaGreat
set_option linter.unusedVariables false
set_option linter.unusedSimpArgs false
open Go.RowKit

/-- a pair of addresses -/
abbrev Pr := (Nat × Nat) × (Nat × Nat)
def Pr.val (m : Pr) : Value := .agg #[.pointer (some ⟨m.1.1, m.1.2, none⟩), .pointer (some ⟨m.2.1, m.2.2, none⟩)]
def PPln (w : World) (m : Pr) : Prop := Pln w m.1.1 ∧ Pln w m.2.1
theorem expr_infoE : (Tryz.prog.info? 41).map (fun i => (i.zero, i.size, i.bytes)) = some (some (.agg #[.int .i64 0, .string .empty, .slice none 0 0]), 3, 48) := by kernel_rfl

theorem run_eq_ptr (w : World) (d : Nat) (p q : Nat × Nat) (hp : Pln w p.1) (hq : Pln w q.1) : (Op.equalIn (d + 1) 76 (.pointer (some ⟨p.1, p.2, none⟩)) (.pointer (some ⟨q.1, q.2, none⟩))).run Tryz.prog w = .ok (decide (p = q)) w := by
  obtain ⟨i, hi, hz0, hz1, hz2⟩ := info_parts expr_infoE
  have hu := Tryz.underlying76
  have hs : i.size ≠ 0 := by rw [hz1]; decide
  by_cases e : p = q
  · subst e
    simp [Op.equalIn, run_underlying hu, sizeOf, typeInfo, hi, hz1, run_sameAddr_same]
  · obtain ⟨c1, t1, h1⟩ := hp
    obtain ⟨c2, t2, h2⟩ := hq
    have hne : (⟨p.1, p.2, none⟩ : Addr) ≠ ⟨q.1, q.2, none⟩ := by
      intro h
      simp only [Addr.mk.injEq, and_true] at h
      exact e (Prod.ext h.1 h.2)
    simp [Op.equalIn, run_underlying hu, sizeOf, typeInfo, hi, hz1, run_sameAddr_other w hne h1 h2, e]

theorem run_eq_pair (w : World) (m m' : Pr) (h : PPln w m) (h' : PPln w m') : (Op.equal 78 m.val m'.val).run Tryz.prog w = .ok (decide (m = m')) w := by
  have hu := Tryz.underlying78
  have e1 := run_eq_ptr w 9998 m.1 m'.1 h.1 h'.1
  have e2 := run_eq_ptr w 9998 m.2 m'.2 h.2 h'.2
  rw [show 9998 + 1 = 9999 from rfl] at e1 e2
  unfold Op.equal Op.maxDepth Pr.val
  rw [show (10000 : Nat) = 9998 + 1 + 1 from rfl, run_equalIn_agg w (9998 + 1) 78 _ _ (by kernel_rfl) (by kernel_rfl)]
  simp only [Program.fieldsOf, hu, Op.eqFields]
  have hp0 := fun (a b : Value) => show (part 76 #[a, b] 0).run Tryz.prog w = .ok a w by
    simp [part, isAgg, run_underlying Tryz.underlying76]
  have hp1 := fun (a b : Value) => show (part 76 #[a, b] 1).run Tryz.prog w = .ok b w by
    simp [part, isAgg, run_underlying Tryz.underlying76]
  simp only [ne_eq, String.reduceEq, not_false_eq_true, if_true, Sem.run_bind, hp0, hp1, Result.andThen_ok, Nat.reduceAdd, e1, e2, Sem.run_ite, Sem.run_pure]
  by_cases h1 : m.1 = m'.1 <;> by_cases h2 : m.2 = m'.2 <;> simp [h1, h2, Prod.ext_iff]

/-- block b is the set of these pairs -/
def MapP (w : World) (b : Nat) (M : List Pr) : Prop := ∃ es clock, w.heap[b]? = some (.map es clock) ∧ es.toList.map (fun e => e.key) = M.map Pr.val ∧ ∀ e ∈ es.toList, e.val = .bool true
theorem MapP.lt {w : World} {b : Nat} {M : List Pr} (h : MapP w b M) : b < w.heap.size := let ⟨_, _, h, _⟩ := h; blk_lt h
theorem MapP.block {w w' : World} {b : Nat} {M : List Pr} (h : MapP w b M) (e : w'.heap[b]? = w.heap[b]?) : MapP w' b M := let ⟨es, c, h1, h2⟩ := h; ⟨es, c, e.trans h1, h2⟩

theorem run_find (w : World) (m : Pr) (hm : PPln w m) : ∀ (es : List MapEntry) (M : List Pr) (i : Nat), es.map (fun e => e.key) = M.map Pr.val → (∀ e ∈ es, e.val = .bool true) → (∀ x ∈ M, PPln w x) →
    if m ∈ M then ∃ j, (Instr.findAsking 78 m.val es i).run Tryz.prog w = .ok (some (j, .bool true)) w else (Instr.findAsking 78 m.val es i).run Tryz.prog w = .ok none w
  | [], [], i, _, _, _ => by simp [Instr.findAsking]
  | [], _ :: _, i, h, _, _ => by simp at h
  | _ :: _, [], i, h, _, _ => by simp at h
  | e :: es, x :: M, i, h, hv, hp => by
    simp only [List.map_cons, List.cons.injEq] at h
    obtain ⟨h1, h2⟩ := h
    have hr := run_eq_pair w m x hm (hp x (by simp))
    have ih := run_find w m hm es M (i + 1) h2 (fun e he => hv e (by simp [he])) (fun y hy => hp y (by simp [hy]))
    unfold Instr.findAsking
    rw [h1]
    by_cases hx : m = x
    · subst hx
      rw [if_pos (by simp)]
      refine ⟨i, ?_⟩
      simp [hr, hv e (by simp)]
    · by_cases hM : m ∈ M
      · rw [if_pos hM] at ih
        rw [if_pos (by simp [hM])]
        simpa [hr, hx] using ih
      · rw [if_neg hM] at ih
        rw [if_neg (by simp [hx, hM])]
        simpa [hr, hx] using ih

theorem run_checkPair (w : World) (em : Bool) (m : Pr) : (Instr.checkKey em 10000 78 m.val).run Tryz.prog w = .ok () w := by
  have hu := Tryz.underlying78
  have hp0 := fun (a b : Value) => show (part 76 #[a, b] 0).run Tryz.prog w = .ok a w by
    simp [part, isAgg, run_underlying Tryz.underlying76]
  have hp1 := fun (a b : Value) => show (part 76 #[a, b] 1).run Tryz.prog w = .ok b w by
    simp [part, isAgg, run_underlying Tryz.underlying76]
  have hc := fun (d : Nat) (a : Option Addr) => show (Instr.checkKey em (d + 1) 76 (.pointer a)).run Tryz.prog w = .ok () w by
    simp [Instr.checkKey, run_underlying Tryz.underlying76]
  have hc1 := hc 9998
  rw [show 9998 + 1 = 9999 from rfl] at hc1
  unfold Pr.val
  rw [show (10000 : Nat) = 9999 + 1 from rfl, Instr.checkKey]
  simp [run_underlying hu, hp0, hp1, hc1]

theorem run_look (w : World) (m : Pr) (hm : PPln w m) (b : Nat) (M : List Pr) (h : MapP w b M) (hp : ∀ x ∈ M, PPln w x) :
    (Instr.lookup 75 (.map (some b)) m.val false).run Tryz.prog w = .ok (.bool (decide (m ∈ M))) w := by
  obtain ⟨es, clock, h1, h2, h3⟩ := h
  have hf := run_find w m hm es.toList M 0 h2 h3 hp
  have hk := run_findKey_eq (P := Tryz.prog) w (k := 78) (by rw [Tryz.underlying78]) m.val es.toList
  have hz : (zeroValue 4).run Tryz.prog w = .ok (.bool false) w := by kernel_rfl
  have hu := run_underlying (P := Tryz.prog) (w := w) Tryz.underlying75
  have hc := run_checkPair w es.isEmpty m
  by_cases hx : m ∈ M
  · rw [if_pos hx] at hf
    obtain ⟨j, hf⟩ := hf
    simp [Instr.lookup, hu, MapKept.run_getObj_map h1, hc, hk, hf, hx]
  · rw [if_neg hx] at hf
    simp [Instr.lookup, hu, MapKept.run_getObj_map h1, hc, hk, hf, hx, hz]

theorem run_put (w : World) (m : Pr) (hm : PPln w m) (b : Nat) (M : List Pr) (h : MapP w b M) (hp : ∀ x ∈ M, PPln w x) (hx : m ∉ M) :
    ∃ w', (Instr.mapUpdate 75 (.map (some b)) m.val (.bool true)).run Tryz.prog w = .ok () w' ∧ MapP w' b (M ++ [m]) ∧ w.grownBy w' (some b) := by
  obtain ⟨es, clock, h1, h2, h3⟩ := h
  have hf := run_find w m hm es.toList M 0 h2 h3 hp
  have hk := run_findKey_eq (P := Tryz.prog) w (k := 78) (by rw [Tryz.underlying78]) m.val es.toList
  have hu := run_underlying (P := Tryz.prog) (w := w) Tryz.underlying75
  have hc := run_checkPair w false m
  rw [if_neg hx] at hf
  have hbl := blk_lt h1
  refine ⟨_, by simp [Instr.mapUpdate, hu, MapKept.run_getObj_map h1, hc, hk, hf, MapKept.run_setObj_map _ h1, Result.andThen]; rfl, ⟨es.push { key := m.val, val := .bool true, born := clock }, clock + 1, ?_, ?_, ?_⟩, ?_⟩
  · simp [hbl]
  · simp [h2]
  · intro e he
    simp only [Array.toList_push, List.mem_append, List.mem_singleton] at he
    rcases he with he | rfl
    · exact h3 e he
    · rfl
  · refine ⟨rfl, rfl, rfl, by simp, fun k hk hne => ?_⟩
    have : k ≠ b := fun e => hne (by rw [e])
    simp [Array.getElem?_setIfInBounds, this.symm]
end Go.Proofs.YtahdpocaldhamaaGreat
