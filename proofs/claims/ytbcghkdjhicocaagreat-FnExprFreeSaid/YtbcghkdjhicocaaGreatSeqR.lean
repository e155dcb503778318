/-
  The iterator over reads; the program's ExprDynamic.
-/
import Derived.Test.YtbcghkdjhicocaaGreatVisI
namespace Go.Proofs.YtbcghkdjhicocaaGreat
set_option linter.unusedVariables false
open Go.RowKit Go.Shelf
attribute [local go_sem] Oper.semAt_some

theorem vis_all (l n₀ N : Nat) (J Jx : List RV → World → Prop) (hJ : ∀ pre W W', J pre W → Below W.heap.size W W' → J pre W')
    (hY : ∀ m pre x W, n₀ ≤ W.heap.size → J pre W → pre.length < N → YieldAt Fence.wide m Tryz.prog l (encR x) W fun e W' => (e = .returned (.bool true) ∧ J (pre ++ [x]) W' ∧ KpN n₀ W W') ∨ (e = .returned (.bool false) ∧ Jx (pre ++ [x]) W'))
    (M : Nat) : ∀ k s ks, Fo.size ks ≤ M → VisS l n₀ N J Jx k s ks := by
  induction M with
  | zero => exact fun k s ks hM => vis_in l n₀ N J Jx hJ hY k s ks fun k' s' ks' h => absurd h (by omega)
  | succ M ih => exact fun k s ks hM => vis_in l n₀ N J Jx hJ hY k s ks fun k' s' ks' h => ih k' s' ks' (by omega)
theorem room_any (k : Nat) : Fence.wide.room k := fun d h => by cases h
theorem roundAny {m m' : Nat} {P : Program} {l : Nat} {f : FuncId} {tmps : Array Value} {assign body : Code} {w : World} {R : Ending → World → Prop}
    (h : RoundIn Fence.wide m P l f tmps assign body w R) : RoundIn Fence.wide m' P l f tmps assign body w R := ⟨h.1, fun c cs _ => h.2 c cs (room_any _)⟩
theorem yieldAny {m : Nat} (m' : Nat) {P : Program} {l : Nat} {args : Array Value} {W : World} {R : Ending → World → Prop} (h : YieldAt Fence.wide m P l args W R) : YieldAt Fence.wide m' P l args W R := by
  obtain ⟨fn, tmps, assign, body, hy, hR⟩ := h
  exact ⟨fn, tmps, assign, body, hy, roundAny hR⟩

set_option maxRecDepth 100000 in
set_option maxHeartbeats 1000000 in
/-- the closure -/
theorem seq1_in (n l Bn n₀ L : Nat) (k : Int) (s : ByteArray) (ks : Fo) (v : Value) (hn1 : nodeB k s ks.len = true) (hg : good ks = true) (hz : ks.size ≤ 1000) (J Jx : List RV → World → Prop)
    (hY : ∀ pre x W, J pre W → pre.length < (rd1 k ks).length → YieldAt Fence.wide (n - 1) Tryz.prog l (encR x) W fun e W' =>
      (e = .returned (.bool true) ∧ J (pre ++ [x]) W' ∧ KpN n₀ W W') ∨ (e = .returned (.bool false) ∧ Jx (pre ++ [x]) W'))
    (W : World) (hJ : AbidesFrom W.heap.size J) (hn₀ : n₀ ≤ W.heap.size) (hBn : W.cell? ⟨Bn, 0, none⟩ = some v) (hv : NV1 W L n₀ k s ks v) (h0 : J [] W) :
    CallsIn Fence.wide n Tryz.prog 33 #[.func (.yield l) #[] #[], .pointer (some ⟨Bn, 0, none⟩)] W fun e W' => (∃ v, e = .returned v) ∧
      ((∃ ys, ys.map RV.nm = rd1 k ks ∧ J ys W') ∨ (∃ pre, (∃ q, pre.map RV.nm ++ q = rd1 k ks) ∧ Jx pre W')) := by
  have hp := vis_all l n₀ (rd1 k ks).length J Jx (fun pre W1 W2 hj hb => hJ pre W1 W2 none hj (growB hb) (fun r h => nomatch h)) (fun m pre x W _ hj hl => yieldAny m (hY pre x W hj hl)) ks.size k s ks (Nat.le_refl _) (n - 1) v L [] W hv hn1 hg hz hn₀ h0 (by simp)
  have Hp := Lib.hid hp
  obtain ⟨t, x, rfl⟩ := hv.iface
  clear hp hY hJ hv h0
  refine callsIn_of_wp Tryz.func33 rfl trivial ?_ rfl
  simp only [Tryz.ntmps33, List.size_toArray, List.length_cons, List.length_nil, Nat.reduceAdd, Nat.reduceSub, Array.replicate_succ, Array.replicate_zero, List.push_toArray, List.append_toArray, List.nil_append, List.cons_append]
  gi_wp2_with fail
  refine ⟨trivial, fun h => (by cases h), ?_⟩
  refine Hp.out.mono ?_
  rintro e W1 (⟨rfl, ys, hy, hJ1, _⟩ | ⟨rfl, ys, hq, hJx1⟩)
  · have HJ := Lib.hid (And.intro hy hJ1)
    clear hy hJ1
    gi_wp2_with fail
    go_end0
    exact ⟨⟨_, rfl⟩, .inl ⟨ys, HJ.out.1, HJ.out.2⟩⟩
  · have HJ := Lib.hid (And.intro hq hJx1)
    clear hq hJx1
    gi_wp2_with fail
    go_end0
    exact ⟨⟨_, rfl⟩, .inr ⟨ys, HJ.out.1, HJ.out.2⟩⟩
/-- readsOf: the node is boxed; the function value captures the box -/
theorem seq_make (n : Nat) (t : TypeId) (x : Value) (w : World) :
    CallsIn Fence.wide n Tryz.prog 20 #[.iface t x] w fun e w' => e = .returned (.func (.func 33) #[] #[.pointer (some ⟨w.heap.size, 0, none⟩)]) ∧ w' = w.alloc (.cells #[.iface t x] 42) := by
  refine callsIn_wide.2 ?_
  go_enter Tryz.func20, Tryz.ntmps20
  go_wp2_with fail
  go_ret
  exact ⟨rfl, rfl⟩
theorem seq_stops (n Bn n₀ L : Nat) (k : Int) (s : ByteArray) (ks : Fo) (v : Value) (w : World) (hn1 : nodeB k s ks.len = true) (hg : good ks = true) (hz : ks.size ≤ 1000) (hBn : Bn < w.heap.size) (hn₀ : n₀ ≤ w.heap.size) (hc : w.cell? ⟨Bn, 0, none⟩ = some v) (hv : NV1 w L n₀ k s ks v) :
    SeqStopsK Fence.wide n Tryz.prog 33 #[.pointer (some ⟨Bn, 0, none⟩)] encR (KpN n₀) (fun ys => ys.map RV.nm = rd1 k ks) (fun pre => ∃ q, pre.map RV.nm ++ q = rd1 k ks) (rd1 k ks).length w := fun l J Jx W hW hJ _ hY h0 =>
  seq1_in n l Bn n₀ L k s ks v hn1 hg hz J Jx hY W hJ (Nat.le_trans hn₀ hW.size) ((hW.cell (p := ⟨Bn, 0, none⟩) hBn).trans hc) (hv.keep (Nat.le_refl _) (Nat.le_refl _) fun p _ h2 => hW.cell (by omega)) h0
theorem tt_text (s : ByteArray) (w' : World) : Sem.run Tryz.prog (Instr.typeAssert (.iface 72 (.agg #[.string s])) 42 72 true) w' = .ok (.tuple #[.agg #[.string s], .bool true]) w' := by kernel_rfl
/-- the path that a read names, and whether it names one -/
theorem name_any (r : RV) (w : World) : Calls Tryz.prog 21 #[.agg #[r.val]] w fun e w' => e = .returned (.tuple #[.string (r.nm.getD .empty), .bool r.nm.isSome]) ∧ Below w.heap.size w w' := by
  cases r with
  | text s =>
    have h := tt_text s
    simp only [RV.val, RV.nm, Option.getD_some, Option.isSome_some]
    go_enter Tryz.func21, Tryz.ntmps21
    go_wp2_with fail
    go_ret2
    exact ⟨rfl, by first | exact Below.refl _ _ | exact (Below.refl _ _).alloc (Nat.le_refl _) _ | exact ((Below.refl _ _).alloc (Nat.le_refl _) _).alloc (by simp) _⟩
  | other t x h =>
    simp only [RV.val, RV.nm, Option.getD_none, Option.isSome_none]
    go_enter Tryz.func21, Tryz.ntmps21
    go_wp2_with fail
    go_ret2
    exact ⟨rfl, by first | exact Below.refl _ _ | exact (Below.refl _ _).alloc (Nat.le_refl _) _ | exact ((Below.refl _ _).alloc (Nat.le_refl _) _).alloc (by simp) _⟩
end Go.Proofs.YtbcghkdjhicocaaGreat
