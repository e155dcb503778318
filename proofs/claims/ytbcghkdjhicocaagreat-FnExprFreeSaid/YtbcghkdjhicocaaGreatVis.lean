/-
  The program's visitReads: which reads come, in which order.
-/
import Derived.RangeFuncNested
import Derived.RangeFuncBound
import Derived.RangeFuncCalls
import Derived.RangeFuncLeaves
import Derived.Shelf.Abstract
import Derived.Shelf.RegionOpen
import Derived.WalkKit
import Derived.OwnWalkIn
import Derived.TacticsInMore
import Derived.LoopNIn
import Derived.LoopIn
import Derived.Test.YtbcghkdjhicocaaGreatFmtM
import Derived.Test.YtbcghkdjhicocaaGreatFreeI
namespace Go.Proofs.YtbcghkdjhicocaaGreat
set_option linter.unusedVariables false
open Go.RowKit Go.Shelf
attribute [local go_sem] Oper.semAt_some

/-- a read, as the loop's body is handed it -/
inductive RV where
  | text (s : ByteArray)
  | other (t : TypeId) (x : Value) (h : ∀ w' : World, Sem.run Tryz.prog (Instr.typeAssert (.iface t x) 42 72 true) w' = .ok (.tuple #[.agg #[.string ⟨#[]⟩], .bool false]) w')
def RV.val : RV → Value
  | .text s => .iface 72 (.agg #[.string s])
  | .other t x _ => .iface t x
/-- the path that a read names -/
def RV.nm : RV → Option ByteArray
  | .text s => some s
  | .other _ _ _ => none
def encR (x : RV) : Array Value := #[.agg #[x.val]]
/-- the path that an operand names -/
def nameOf : Fo → Option ByteArray
  | .node k s _ _ => if k = 1 then some s else none
  | .nil => none
/-- the reads, in the order of the text: the paths that they name -/
def rdl : Fo → List (Option ByteArray)
  | .nil => []
  | .node k s ks r => (if k = 2 then [nameOf ks] else []) ++ rdl ks ++ rdl r
def rd1 (k : Int) (ks : Fo) : List (Option ByteArray) := (if k = 2 then [nameOf ks] else []) ++ rdl ks
theorem rdl_node (k : Int) (s : ByteArray) (ks r : Fo) : rdl (.node k s ks r) = rd1 k ks ++ rdl r := rfl
/-- rows of nodes lie as they lay -/
def NodesKept (W W' : World) : Prop := ∀ (i : Nat) (cs : Array Value) (fr : Nat × Nat), W.heap[i]? = some (.cells cs 42 fr) → W'.heap[i]? = some (.cells cs 42 fr)
/-- what a round that goes on keeps -/
def KpN (n₀ : Nat) (W W' : World) : Prop := Below n₀ W W' ∧ NodesKept W W'
theorem KpN.refl (n₀ : Nat) (W : World) : KpN n₀ W W := ⟨Below.refl _ _, fun _ _ _ h => h⟩
theorem KpN.trans {n₀ : Nat} {W W' W'' : World} (h : KpN n₀ W W') (h2 : KpN n₀ W' W'') : KpN n₀ W W'' := ⟨h.1.trans h2.1, fun i cs fr hi => h2.2 i cs fr (h.2 i cs fr hi)⟩
theorem KpN.of {n₀ : Nat} {W W' : World} (h : Below W.heap.size W W') (hn : n₀ ≤ W.heap.size) : KpN n₀ W W' := ⟨h.mono hn, fun i cs fr hi => (h.block i (Array.getElem?_eq_some_iff.1 hi).1).trans hi⟩
/-- what 'operands' leaves: a list that stays while rounds go on -/
def OpQ (n₀ : Nat) (os : List Value) (w : World) (e : Ending) (w' : World) : Prop := ∃ o oc, e = .returned (.slice o os.length oc) ∧ (∀ W', KpN n₀ w' W' → VsAt W' o os) ∧ Below w.heap.size w w'
theorem vs_row {W W' : World} {n₀ g : Nat} {os : List Value} (h : W.heap[g]? = some (.cells os.toArray 42 (0, 0))) (hk : KpN n₀ W W') : VsAt W' (some ⟨g, 0, none⟩) os := fun _ => ⟨g, 0, rfl, fun j v hv => by
  rw [Nat.zero_add, cell_of_row _ _ _ _ _ _ (hk.2 g _ _ h)]
  simpa using hv⟩
theorem oq_text (n₀ : Nat) (s : ByteArray) (w : World) : Calls Tryz.prog 78 #[.agg #[.string s]] w (OpQ n₀ [] w) :=
  (op_text s w).mono fun e w' ⟨o, oc, he, hv, hb⟩ => ⟨o, oc, he, fun _ _ hn => absurd hn (by simp), hb⟩
theorem oq_join (n₀ : Nat) (os : List Value) (oa : Option Addr) (oc L : Nat) (w : World) (h : SlotsAt w L n₀ oa os) : Calls Tryz.prog 82 #[.agg #[.slice oa os.length oc]] w (OpQ n₀ os w) := by
  have hB := (Below.refl w.heap.size w).alloc (Nat.le_refl _) (.cells #[.slice oa os.length oc] 84)
  have HV := Lib.hid (And.intro h hB)
  clear h hB
  go_enter Tryz.func82, Tryz.ntmps82
  go_wp2_with fail
  go_ret
  refine ⟨_, _, rfl, fun W' hk hn => ?_, HV.out.2⟩
  obtain ⟨b, off, ho, _, hb, hc⟩ := HV.out.1 hn
  exact ⟨b, off, ho, fun j v hv => (hk.1.cell (p := ⟨b, off + j, none⟩) hb).trans ((World.cell?_alloc_lt w _ ⟨b, off + j, none⟩ (World.block_lt_of_cell? w _ (hc j v hv))).trans (hc j v hv))⟩
theorem oq_one (n₀ : Nat) (t : TypeId) (x : Value) (w : World) : Calls Tryz.prog 72 #[.agg #[.iface t x]] w (OpQ n₀ [.iface t x] w) := by
  have hB := ((Below.refl w.heap.size w).alloc (Nat.le_refl _) (.cells #[.iface t x] 50)).alloc (by simp) (.cells #[.iface t x] 42)
  have hV := heap_alloc_new (w.alloc (.cells #[.iface t x] 50)) (.cells #[.iface t x] 42)
  rw [World.size_alloc] at hV
  have HV := Lib.hid (And.intro hV hB)
  clear hV hB
  go_enter Tryz.func72, Tryz.ntmps72
  go_wp2_with fail
  go_ret
  exact ⟨_, _, rfl, fun W' hk => vs_row HV.out.1 hk, HV.out.2⟩

set_option maxRecDepth 100000 in
theorem oq_same (n₀ : Nat) (t0 t1 t2 t3 : TypeId) (x0 x1 x2 x3 : Value) (w : World) : Calls Tryz.prog 94 #[.agg #[.iface t0 x0, .iface t1 x1, .iface t2 x2, .iface t3 x3]] w (OpQ n₀ [.iface t0 x0, .iface t1 x1, .iface t2 x2, .iface t3 x3] w) := by
  have hB := ((Below.refl w.heap.size w).alloc (Nat.le_refl _) (.cells #[.iface t0 x0, .iface t1 x1, .iface t2 x2, .iface t3 x3] 86)).alloc (by simp) (.cells #[.iface t0 x0, .iface t1 x1, .iface t2 x2, .iface t3 x3] 42)
  have hV := heap_alloc_new (w.alloc (.cells #[.iface t0 x0, .iface t1 x1, .iface t2 x2, .iface t3 x3] 86)) (.cells #[.iface t0 x0, .iface t1 x1, .iface t2 x2, .iface t3 x3] 42)
  rw [World.size_alloc] at hV
  have HV := Lib.hid (And.intro hV hB)
  clear hV hB
  go_enter Tryz.func94, Tryz.ntmps94
  go_wp2_with fail
  go_ret
  exact ⟨_, _, rfl, fun W' hk => vs_row HV.out.1 hk, HV.out.2⟩
theorem ta_text (s : ByteArray) (w' : World) : Sem.run Tryz.prog (Instr.typeAssert (.iface 72 (.agg #[.string s])) 42 52 true) w' = .ok (.tuple #[.agg #[.nilIface], .bool false]) w' := by kernel_rfl
theorem ta_join (v : Value) (w' : World) : Sem.run Tryz.prog (Instr.typeAssert (.iface 84 (.agg #[v])) 42 52 true) w' = .ok (.tuple #[.agg #[.nilIface], .bool false]) w' := by kernel_rfl
theorem ta_same (v v1 v2 v3 : Value) (w' : World) : Sem.run Tryz.prog (Instr.typeAssert (.iface 86 (.agg #[v, v1, v2, v3])) 42 52 true) w' = .ok (.tuple #[.agg #[.nilIface], .bool false]) w' := by kernel_rfl
theorem ta_first (v : Value) (w' : World) : Sem.run Tryz.prog (Instr.typeAssert (.iface 89 (.agg #[v])) 42 52 true) w' = .ok (.tuple #[.agg #[.nilIface], .bool false]) w' := by kernel_rfl
theorem ta_rest (v : Value) (w' : World) : Sem.run Tryz.prog (Instr.typeAssert (.iface 90 (.agg #[v])) 42 52 true) w' = .ok (.tuple #[.agg #[.nilIface], .bool false]) w' := by kernel_rfl
theorem ta_count (v : Value) (w' : World) : Sem.run Tryz.prog (Instr.typeAssert (.iface 91 (.agg #[v])) 42 52 true) w' = .ok (.tuple #[.agg #[.nilIface], .bool false]) w' := by kernel_rfl
theorem ta_read (v : Value) (w' : World) : Sem.run Tryz.prog (Instr.typeAssert (.iface 52 (.agg #[v])) 42 52 true) w' = .ok (.tuple #[.agg #[v], .bool true]) w' := by kernel_rfl
theorem tb_join (x : Value) (w' : World) : Sem.run Tryz.prog (Instr.typeAssert (.iface 84 x) 42 72 true) w' = .ok (.tuple #[.agg #[.string ⟨#[]⟩], .bool false]) w' := by kernel_rfl
theorem tb_same (x : Value) (w' : World) : Sem.run Tryz.prog (Instr.typeAssert (.iface 86 x) 42 72 true) w' = .ok (.tuple #[.agg #[.string ⟨#[]⟩], .bool false]) w' := by kernel_rfl
theorem tb_read (x : Value) (w' : World) : Sem.run Tryz.prog (Instr.typeAssert (.iface 52 x) 42 72 true) w' = .ok (.tuple #[.agg #[.string ⟨#[]⟩], .bool false]) w' := by kernel_rfl
theorem tb_first (x : Value) (w' : World) : Sem.run Tryz.prog (Instr.typeAssert (.iface 89 x) 42 72 true) w' = .ok (.tuple #[.agg #[.string ⟨#[]⟩], .bool false]) w' := by kernel_rfl
theorem tb_rest (x : Value) (w' : World) : Sem.run Tryz.prog (Instr.typeAssert (.iface 90 x) 42 72 true) w' = .ok (.tuple #[.agg #[.string ⟨#[]⟩], .bool false]) w' := by kernel_rfl
theorem tb_count (x : Value) (w' : World) : Sem.run Tryz.prog (Instr.typeAssert (.iface 91 x) 42 72 true) w' = .ok (.tuple #[.agg #[.string ⟨#[]⟩], .bool false]) w' := by kernel_rfl
/-- a node, as visitReads meets it: a read that names something, or no read; its operands -/
def VisC (w : World) (n₀ : Nat) (k : Int) (ks : Fo) (os : List Value) (v : Value) : Prop := ∃ T X FO, v = .iface T X ∧
  (∀ (n : Nat) (w' : World), Sem.run Tryz.prog (method (n + 1) T X "loop.example/buildengine/impl.operands") w' = .ok (FO, X) w') ∧ (∀ (args : Array Value) (w' : World), Sem.run Tryz.prog (callFunc FO args) w' = .ok (.enter FO args) w') ∧
  (∀ w', Below n₀ w w' → Calls Tryz.prog FO #[X] w' (OpQ n₀ os w')) ∧
  ((k ≠ 2 ∧ ∀ w', Sem.run Tryz.prog (Instr.typeAssert (.iface T X) 42 52 true) w' = .ok (.tuple #[.agg #[.nilIface], .bool false]) w') ∨ (k = 2 ∧ T = 52 ∧ ∃ r : RV, X = .agg #[r.val] ∧ r.nm = nameOf ks))
theorem vis_of {w : World} {L n₀ : Nat} {k : Int} {s : ByteArray} {ks : Fo} {v : Value} (hv : NV1 w L n₀ k s ks v) (hn : nodeB k s ks.len = true) (hg : good ks = true) : ∃ os, NVs w L n₀ ks os ∧ VisC w n₀ k ks os v := by
  obtain ⟨os, oa, oc, hnv, rfl, hsl⟩ := hv
  have hol := nvs_len hnv
  refine ⟨os, hnv, ?_⟩
  rcases node_kinds hn with ⟨rfl, h0, hp⟩ | ⟨rfl, h4, rfl⟩ | ⟨rfl, h4, rfl⟩ | ⟨hk, h1, rfl⟩
  · have hz : os = [] := List.eq_nil_of_length_eq_zero (by omega)
    subst hz
    exact ⟨_, _, _, rfl, fun n w' => mo_text n s w', co_text, fun w' _ => oq_text n₀ s w', .inl ⟨by decide, fun w' => ta_text s w'⟩⟩
  · refine ⟨_, _, _, rfl, fun n w' => mo_join n _ w', co_join, fun w' hB => ?_, .inl ⟨by decide, fun w' => ta_join _ w'⟩⟩
    rw [← hol]
    exact oq_join n₀ os oa oc L w' (hsl.keep (Nat.le_refl _) (Nat.le_refl _) fun p _ h2 => hB.cell h2)
  · obtain ⟨v0, v1, v2, v3, rfl⟩ : ∃ v0 v1 v2 v3, os = [v0, v1, v2, v3] := by
      match os, (show os.length = 4 by omega) with
      | [v0, v1, v2, v3], _ => exact ⟨v0, v1, v2, v3, rfl⟩
    obtain ⟨t0, x0, rfl⟩ := nvs_iface hnv v0 (by simp)
    obtain ⟨t1, x1, rfl⟩ := nvs_iface hnv v1 (by simp)
    obtain ⟨t2, x2, rfl⟩ := nvs_iface hnv v2 (by simp)
    obtain ⟨t3, x3, rfl⟩ := nvs_iface hnv v3 (by simp)
    exact ⟨_, _, _, rfl, fun n w' => mo_same n _ _ _ _ w', co_same, fun w' _ => oq_same n₀ t0 t1 t2 t3 x0 x1 x2 x3 w', .inl ⟨by decide, fun w' => ta_same _ _ _ _ w'⟩⟩
  · obtain ⟨v0, rfl⟩ : ∃ v0, os = [v0] := by
      match os, (show os.length = 1 by omega) with
      | [v0], _ => exact ⟨v0, rfl⟩
    obtain ⟨t0, x0, rfl⟩ := nvs_iface hnv v0 (by simp)
    rcases hk with rfl | rfl | rfl | rfl
    · refine ⟨_, _, _, rfl, fun n w' => mo_read n t0 x0 w', co_read, fun w' _ => oq_one n₀ t0 x0 w', .inr ⟨rfl, rfl, ?_⟩⟩
      obtain ⟨k', s', f', rfl⟩ := len_one h1
      obtain ⟨v', vr, e, ⟨os', oa', oc', _, e2, _⟩, _⟩ := hnv
      cases e
      simp only [good, Bool.and_eq_true] at hg
      rcases node_kinds hg.1.1 with ⟨rfl, _, _⟩ | ⟨rfl, _, _⟩ | ⟨rfl, _, _⟩ | ⟨hk', _, _⟩
      · exact ⟨.text s', by rw [e2]; rfl, rfl⟩
      · exact ⟨.other t0 x0 (by rw [e2]; exact tb_join _), rfl, rfl⟩
      · exact ⟨.other t0 x0 (by rw [e2]; exact tb_same _), rfl, rfl⟩
      · refine ⟨.other t0 x0 (by rw [e2]; rcases hk' with rfl | rfl | rfl | rfl; exact tb_read _; exact tb_first _; exact tb_rest _; exact tb_count _), rfl, ?_⟩
        rcases hk' with rfl | rfl | rfl | rfl <;> rfl
    · exact ⟨_, _, _, rfl, fun n w' => mo_first n t0 x0 w', co_first, fun w' _ => oq_one n₀ t0 x0 w', .inl ⟨by decide, fun w' => ta_first _ w'⟩⟩
    · exact ⟨_, _, _, rfl, fun n w' => mo_rest n t0 x0 w', co_rest, fun w' _ => oq_one n₀ t0 x0 w', .inl ⟨by decide, fun w' => ta_rest _ w'⟩⟩
    · exact ⟨_, _, _, rfl, fun n w' => mo_count n t0 x0 w', co_count, fun w' _ => oq_one n₀ t0 x0 w', .inl ⟨by decide, fun w' => ta_count _ w'⟩⟩
end Go.Proofs.YtbcghkdjhicocaaGreat
