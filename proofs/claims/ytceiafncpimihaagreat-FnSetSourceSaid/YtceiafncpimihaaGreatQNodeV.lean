/-
  The values of the program's nodes, as they lie in memory; the counter.
-/
import Derived.Test.YtceiafncpimihaaGreatQNode
import Derived.Test.YtceiafncpimihaaGreatGone
namespace Go.Proofs.YtceiafncpimihaaGreat
set_option linter.unusedVariables false
open Go.RowKit

/-- values that lie side by side in a block from L to B -/
def SlotsAt (w : World) (L B : Nat) (o : Option Addr) (os : List Value) : Prop := 0 < os.length → ∃ b off, o = some ⟨b, off, none⟩ ∧ L ≤ b ∧ b < B ∧ ∀ j v, os[j]? = some v → w.cell? ⟨b, off + j, none⟩ = some v
/-- the nodes of a list of expressions -/
def NVs (w : World) (L B : Nat) : Fo → List Value → Prop
  | .nil, vs => vs = []
  | .node k s ks r, vs => ∃ v vr, vs = v :: vr ∧ (∃ os o oc, NVs w L B ks os ∧ v = nodeV k s (.slice o ks.len oc) os ∧ SlotsAt w L B o os) ∧ NVs w L B r vr
/-- the node of an expression -/
def NV1 (w : World) (L B : Nat) (k : Int) (s : ByteArray) (ks : Fo) (v : Value) : Prop := ∃ os o oc, NVs w L B ks os ∧ v = nodeV k s (.slice o ks.len oc) os ∧ SlotsAt w L B o os
theorem nodeV_iface (k : Int) (s : ByteArray) (J : Value) (os : List Value) : ∃ t x, nodeV k s J os = .iface t x := by
  unfold nodeV
  split
  · exact ⟨_, _, rfl⟩
  · split
    · exact ⟨_, _, rfl⟩
    · split <;> exact ⟨_, _, rfl⟩
section
variable {w w' : World} {L L' B B' : Nat} {o : Option Addr} {os : List Value} {f ks : Fo} {k : Int} {s : ByteArray} {v : Value}
theorem NV1.iface (h : NV1 w L B k s ks v) : ∃ t x, v = .iface t x := by
  obtain ⟨os, o, oc, _, rfl, _⟩ := h
  exact nodeV_iface _ _ _ _
theorem SlotsAt.keep (h : SlotsAt w L B o os) (hL : L' ≤ L) (hB : B ≤ B') (hk : ∀ p : Addr, L ≤ p.block → p.block < B → w'.cell? p = w.cell? p) : SlotsAt w' L' B' o os := fun hn =>
  let ⟨b, off, ho, h1, h2, hc⟩ := h hn
  ⟨b, off, ho, by omega, by omega, fun j v hv => (hk ⟨b, off + j, none⟩ h1 h2).trans (hc j v hv)⟩
theorem nvs_keep (hL : L' ≤ L) (hB : B ≤ B') (hk : ∀ p : Addr, L ≤ p.block → p.block < B → w'.cell? p = w.cell? p) : ∀ {f : Fo} {vs : List Value}, NVs w L B f vs → NVs w' L' B' f vs
  | .nil, _, h => h
  | .node k s ks r, _, ⟨v, vr, e, ⟨os, o, oc, h1, h2, h3⟩, h4⟩ => ⟨v, vr, e, ⟨os, o, oc, nvs_keep hL hB hk h1, h2, h3.keep hL hB hk⟩, nvs_keep hL hB hk h4⟩
theorem NV1.keep (h : NV1 w L B k s ks v) (hL : L' ≤ L) (hB : B ≤ B') (hk : ∀ p : Addr, L ≤ p.block → p.block < B → w'.cell? p = w.cell? p) : NV1 w' L' B' k s ks v :=
  let ⟨os, o, oc, h1, h2, h3⟩ := h
  ⟨os, o, oc, nvs_keep hL hB hk h1, h2, h3.keep hL hB hk⟩
theorem NV1.more (h : NV1 w L B k s ks v) (hL : L' ≤ L) (hB : B ≤ B') : NV1 w L' B' k s ks v := h.keep hL hB fun _ _ _ => rfl
theorem NV1.grown {r : Option Nat} (h : NV1 w L B k s ks v) (hg : w.grownBy w' r) (hB : B ≤ w.heap.size) (hr : ∀ g, r = some g → g < L ∨ B ≤ g) : NV1 w' L B k s ks v :=
  h.keep (Nat.le_refl _) (Nat.le_refl _) fun p h1 h2 => World.cell?_of_block (hg.block p.block (by omega) (fun e => by have := hr p.block e.symm; omega))
theorem nvs_len : ∀ {f : Fo} {vs : List Value}, NVs w L B f vs → vs.length = f.len
  | .nil, _, h => by simp only [NVs] at h; subst h; rfl
  | .node k s ks r, _, ⟨v, vr, e, _, h4⟩ => by subst e; simp only [List.length_cons, Fo.len, nvs_len h4]
theorem nvs_get : ∀ {f : Fo} {vs : List Value} {i : Nat} {k : Int} {s : ByteArray} {ks : Fo}, NVs w L B f vs → f.get i = some (k, s, ks) → ∃ v, vs[i]? = some v ∧ NV1 w L B k s ks v
  | .nil, _, _, _, _, _, _, hg => by simp [Fo.get] at hg
  | .node k s ks r, _, 0, _, _, _, ⟨v, vr, e, h1, h4⟩, hg => by
    simp only [Fo.get, Option.some.injEq, Prod.mk.injEq] at hg
    obtain ⟨rfl, rfl, rfl⟩ := hg
    subst e
    exact ⟨v, rfl, h1⟩
  | .node k s ks r, _, i + 1, _, _, _, ⟨v, vr, e, h1, h4⟩, hg => by
    subst e
    obtain ⟨v', h5, h6⟩ := nvs_get (f := r) (vs := vr) (i := i) h4 hg
    exact ⟨v', by simpa using h5, h6⟩
theorem nvs_of : ∀ {f : Fo} {vs : List Value}, vs.length = f.len → (∀ i k s ks, f.get i = some (k, s, ks) → ∃ v, vs[i]? = some v ∧ NV1 w L B k s ks v) → NVs w L B f vs
  | .nil, vs, hl, _ => List.eq_nil_of_length_eq_zero hl
  | .node k s ks r, [], hl, _ => by simp [Fo.len] at hl
  | .node k s ks r, v :: vr, hl, h => by
    obtain ⟨v', e, h1⟩ := h 0 k s ks rfl
    simp only [List.getElem?_cons_zero, Option.some.injEq] at e
    subst e
    exact ⟨v, vr, rfl, h1, nvs_of (f := r) (by simpa [Fo.len] using hl) fun i k s ks hg => by simpa using h (i + 1) k s ks hg⟩
theorem nvs_iface : ∀ {f : Fo} {vs : List Value}, NVs w L B f vs → ∀ v ∈ vs, ∃ t x, v = .iface t x
  | .nil, _, h, v, hv => by simp only [NVs] at h; subst h; cases hv
  | .node k s ks r, _, ⟨v', vr, e, h1, h4⟩, v, hv => by
    subst e
    rcases List.mem_cons.1 hv with rfl | hv
    · exact NV1.iface h1
    · exact nvs_iface h4 v hv
/-- the nodes of the first operands stand in a row of the call's own, each with memory of its own -/
def DoneN (w : World) (lo : Nat) (o : Value) (f : Fo) (os : List Value) : Prop := ∀ i k s ks, i < os.length → f.get i = some (k, s, ks) →
  ∃ v L B, os[i]? = some v ∧ lo ≤ L ∧ B ≤ w.heap.size ∧ (∀ g, o.ownBlock = some g → g < L ∨ B ≤ g) ∧ NV1 w L B k s ks v
theorem DoneN.nil {lo : Nat} {o : Value} : DoneN w lo o f [] := fun i k s ks h => absurd h (by simp)
theorem DoneN.grown {lo P : Nat} {o : Value} (h : DoneN w lo o f os) (hg : w.grownBy w' (some P)) (hP : P < lo) : DoneN w' lo o f os := fun i k s ks hi hgt =>
  let ⟨v, L, B, h1, h2, h3, h4, h5⟩ := h i k s ks hi hgt
  ⟨v, L, B, h1, h2, Nat.le_trans h3 hg.size, h4, h5.grown hg h3 fun g e => by injection e with e; omega⟩
theorem DoneN.snoc {lo : Nat} {o o' : Value} (h : DoneN w lo o f os) (hg : w.grownBy w' o.ownBlock) (ho : o'.ownBlock = o.ownBlock ∨ ∀ g, o'.ownBlock = some g → w.heap.size ≤ g)
    {L B : Nat} (hgt : f.get os.length = some (k, s, ks)) (hv : NV1 w L B k s ks v) (hL : lo ≤ L) (hB : B ≤ w.heap.size) (hown : ∀ g, o.ownBlock = some g → g < L) : DoneN w' lo o' f (os ++ [v]) := by
  intro i k' s' ks' hi hgi
  by_cases e : i = os.length
  · subst e
    rw [hgt] at hgi
    simp only [Option.some.injEq, Prod.mk.injEq] at hgi
    obtain ⟨rfl, rfl, rfl⟩ := hgi
    refine ⟨v, L, B, by simp, hL, Nat.le_trans hB hg.size, fun g hgo => ?_, hv.grown hg hB fun g e => .inl (hown g e)⟩
    rcases ho with ho | ho
    · exact .inl (hown g (ho ▸ hgo))
    · exact .inr (Nat.le_trans hB (ho g hgo))
  · have hi' : i < os.length := by simp at hi; omega
    obtain ⟨v', L', B', h1, h2, h3, h4, h5⟩ := h i k' s' ks' hi' hgi
    refine ⟨v', L', B', by rw [List.getElem?_append_left hi']; exact h1, h2, Nat.le_trans h3 hg.size, fun g hgo => ?_, h5.grown hg h3 h4⟩
    rcases ho with ho | ho
    · exact h4 g (ho ▸ hgo)
    · exact .inr (Nat.le_trans h3 (ho g hgo))
theorem DoneN.all {lo : Nat} {o : Value} (h : DoneN w lo o f os) (hl : os.length = f.len) : NVs w lo w.heap.size f os :=
  nvs_of hl fun i k s ks hg =>
    let ⟨v, L, B, h1, h2, h3, _, h5⟩ := h i k s ks (by rw [hl]; exact Fo.get_lt hg) hg
    ⟨v, h1, h5.more h2 h3⟩
end
/-- the counter -/
def Ctr (w : World) (P m : Nat) : Prop := w.heap[P]? = some (.cells #[.int .i64 m] 117 (0, 0))
theorem Ctr.cell {w : World} {P m : Nat} (h : Ctr w P m) : w.cell? ⟨P, 0, none⟩ = some (.int .i64 m) := by rw [cell_of_row _ _ _ _ _ _ h]; rfl
theorem admit_any (P m : Nat) (w : World) (hc : Ctr w P m) (hm : m ≤ 1000) :
    Calls Tryz.prog 95 #[.pointer (some ⟨P, 0, none⟩)] w fun e w' => e = .returned (.bool (decide (m + 1 ≤ 20))) ∧ Ctr w' P (m + 1) ∧ w.grownBy w' (some P) ∧ w'.heap.size = w.heap.size := by
  have h0 := hc.cell
  have hf := blk_frozen hc 0
  have hc' : Ctr (w.setCell ⟨P, 0, none⟩ (.int .i64 ((m : Int) + 1))) P (m + 1) := blk_set hc 0 _
  have hg : w.grownBy (w.setCell ⟨P, 0, none⟩ (.int .i64 ((m : Int) + 1))) (some P) := ⟨rfl, rfl, rfl, by simp [World.setCell], fun k _ hk => Below.heap_setCell w _ _ k (fun e => hk (by simpa using e))⟩
  have Hc := Lib.hid (And.intro hc' hg)
  clear hc hc' hg
  go_enter Tryz.func95, Tryz.ntmps95
  go_wp2_with fail
  go_ret
  exact ⟨ret_bool (Bool.eq_iff_iff.2 (by simp; try omega)), Hc.out.1, Hc.out.2, by simp [World.setCell]⟩
end Go.Proofs.YtceiafncpimihaaGreat
