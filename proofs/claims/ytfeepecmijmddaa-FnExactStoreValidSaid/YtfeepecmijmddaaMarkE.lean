/-
  The law's helper markExpr: what it writes to, and what it leaves.
-/
import Derived.Test.YtfeepecmijmddaaProg
import Derived.Test.YtfeepecmijmddaaTree
import Derived.Test.YtfeepecmijmddaaMarkT
namespace Go.Proofs.Ytfeepecmijmddaa
set_option linter.unusedVariables false
open Go.RowKit

/-- block b is a row of n expressions -/
def RowE (w : World) (b n : Nat) : Prop := ∃ cs : Array Value, w.heap[b]? = some (.cells cs 24 (0, 0)) ∧ cs.size = n * 3
/-- the slices of operands, from a place of a row on: each begins a row of its own -/
def SkS (w : World) (L B : Nat) : Fo → Nat → Nat → Prop
  | .nil, _, _ => True
  | .node k s ks r, b, j => (∃ a n c, w.cell? ⟨b, j * 3 + 2, none⟩ = some (.slice a n c) ∧ ks.len = n ∧ (0 < n → ∃ b', a = some ⟨b', 0, none⟩ ∧ L ≤ b' ∧ b' < B ∧ RowE w b' n ∧ SkS w L B ks b' 0)) ∧ SkS w L B r b (j + 1)
def SkA (w : World) (L B : Nat) (f : Fo) (a : Option Addr) (n : Nat) : Prop := f.len = n ∧ (0 < n → ∃ b, a = some ⟨b, 0, none⟩ ∧ L ≤ b ∧ b < B ∧ RowE w b n ∧ SkS w L B f b 0)
/-- what marks may turn: kinds and texts of expressions in blocks from L to B -/
structure MkStep (L B : Nat) (w w' : World) : Prop where
  os : w'.os = w.os
  tape : w'.tape = w.tape
  output : w'.output = w.output
  size : w.heap.size ≤ w'.heap.size
  out : ∀ g : Nat, g < w.heap.size → g < L ∨ B ≤ g → w'.heap[g]? = w.heap[g]?
  row : ∀ (g : Nat) (cs : Array Value), w.heap[g]? = some (.cells cs 24 (0, 0)) → ∃ cs' : Array Value, w'.heap[g]? = some (.cells cs' 24 (0, 0)) ∧ cs'.size = cs.size ∧ ∀ i, i % 3 = 2 → cs'[i]? = cs[i]?
section
variable {w w' w'' : World} {L B b j n i : Nat} {f ks : Fo} {k : Int} {s : ByteArray} {a : Option Addr}
theorem MkStep.refl (L B : Nat) (w : World) : MkStep L B w w := ⟨rfl, rfl, rfl, Nat.le_refl _, fun _ _ _ => rfl, fun g cs h => ⟨cs, h, rfl, fun _ _ => rfl⟩⟩
theorem MkStep.trans (h : MkStep L B w w') (h2 : MkStep L B w' w'') : MkStep L B w w'' := ⟨h2.os.trans h.os, h2.tape.trans h.tape, h2.output.trans h.output, Nat.le_trans h.size h2.size,
  fun g hg ho => (h2.out g (Nat.lt_of_lt_of_le hg h.size) ho).trans (h.out g hg ho), fun g cs hg => by
    obtain ⟨c1, h3, h4, h5⟩ := h.row g cs hg
    obtain ⟨c2, h6, h7, h8⟩ := h2.row g c1 h3
    exact ⟨c2, h6, h7.trans h4, fun i hi => (h8 i hi).trans (h5 i hi)⟩⟩
theorem MkStep.of (h : Below w.heap.size w w') : MkStep L B w w' := ⟨h.os, h.tape, h.output, h.size, fun g hg _ => h.block g hg, fun g cs hg => ⟨cs, (h.block g (Array.getElem?_eq_some_iff.1 hg).1).trans hg, rfl, fun _ _ => rfl⟩⟩
theorem set_block (w : World) (g i : Nat) (v : Value) (h : g < w.heap.size) : (w.setCell ⟨g, i, none⟩ v).heap[g]? = match w.heap[g]? with
    | some (.cells c e fr) => some (.cells (c.setIfInBounds i v) e fr)
    | o => o := by
  simp only [World.setCell]
  rw [Array.getElem?_modify, if_pos rfl]
  cases hx : w.heap[g]? with
  | none => rfl
  | some o => cases o <;> rfl
theorem MkStep.set (hL : L ≤ b) (hB : b < B) (hi : i % 3 ≠ 2) (v : Value) : MkStep L B w (w.setCell ⟨b, i, none⟩ v) := by
  refine ⟨rfl, rfl, rfl, by simp, fun g hg ho => Below.heap_setCell w ⟨b, i, none⟩ v g (by show g ≠ b; omega), fun g cs hg => ?_⟩
  by_cases hgb : g = b
  · subst hgb
    refine ⟨cs.setIfInBounds i v, ?_, by simp, fun i' hi' => by rw [Array.getElem?_setIfInBounds_ne (by rintro rfl; exact hi hi')]⟩
    have := (Array.getElem?_eq_some_iff.1 hg).1
    rw [set_block w g i v this, hg]
  · exact ⟨cs, (Below.heap_setCell w ⟨b, i, none⟩ v g hgb).trans hg, rfl, fun _ _ => rfl⟩
theorem RowE.step (h : RowE w b n) (hs : MkStep L B w w') : RowE w' b n := by
  obtain ⟨cs, h1, h2⟩ := h
  obtain ⟨c2, h3, h4, _⟩ := hs.row b cs h1
  exact ⟨c2, h3, h4.trans h2⟩
theorem RowE.slice (h : RowE w b n) (hs : MkStep L B w w') {v : Value} (hc : w.cell? ⟨b, j * 3 + 2, none⟩ = some v) : w'.cell? ⟨b, j * 3 + 2, none⟩ = some v := by
  obtain ⟨cs, h1, h2⟩ := h
  obtain ⟨c2, h3, h4, h5⟩ := hs.row b cs h1
  rw [cell_of_row _ _ _ _ _ _ h3, h5 _ (by omega), ← cell_of_row _ _ _ _ _ _ h1]
  exact hc
theorem sk_step (hs : MkStep L B w w') : ∀ {f : Fo} {b j n : Nat}, RowE w b n → SkS w L B f b j → SkS w' L B f b j
  | .nil, _, _, _, _, _ => trivial
  | .node k s ks r, b, j, n, hr, ⟨⟨a, m, c, h1, h2, h3⟩, h4⟩ => ⟨⟨a, m, c, hr.slice hs h1, h2, fun hm => let ⟨b', e, hl, hb, hr', hk⟩ := h3 hm; ⟨b', e, hl, hb, hr'.step hs, sk_step hs hr' hk⟩⟩, sk_step hs hr h4⟩
theorem SkA.step (h : SkA w L B f a n) (hs : MkStep L B w w') : SkA w' L B f a n := ⟨h.1, fun hn => let ⟨b, e, hl, hb, hr, hk⟩ := h.2 hn; ⟨b, e, hl, hb, hr.step hs, sk_step hs hr hk⟩⟩
theorem sk_get : ∀ {f : Fo} {b j i : Nat}, SkS w L B f b j → i < f.len → ∃ k s ks a n c, f.get i = some (k, s, ks) ∧ w.cell? ⟨b, (j + i) * 3 + 2, none⟩ = some (.slice a n c) ∧ SkA w L B ks a n
  | .node k s ks r, b, j, 0, ⟨⟨a, m, c, h1, h2, h3⟩, _⟩, _ => ⟨k, s, ks, a, m, c, rfl, h1, h2, h3⟩
  | .node k s ks r, b, j, i + 1, ⟨_, h4⟩, hi => by
    obtain ⟨k', s', ks', a, n, c, h1, h2, h3⟩ := sk_get (f := r) (i := i) h4 (by simp only [Fo.len] at hi; omega)
    exact ⟨k', s', ks', a, n, c, h1, by rw [show j + (i + 1) = j + 1 + i from by omega]; exact h2, h3⟩
  | .nil, _, _, _, _, h => absurd h (by simp [Fo.len])
theorem RowE.cells (h : RowE w b n) (hi : i < n * 3) : ∃ v, w.cell? ⟨b, i, none⟩ = some v := by
  obtain ⟨cs, h1, h2⟩ := h
  rw [cell_of_row _ _ _ _ _ _ h1]
  exact ⟨_, Array.getElem?_eq_getElem (by omega)⟩
theorem RowE.frozen (h : RowE w b n) (i : Nat) : w.frozen? ⟨b, i, none⟩ = false := by
  obtain ⟨cs, h1, h2⟩ := h
  exact blk_frozen h1 i
end
/-- the contract of markExprS at one list -/
def MkC (f : Fo) : Prop := ∀ (a : Option Addr) (n c k L B : Nat) (w : World), SkA w L B f a n → B ≤ w.heap.size → 1 ≤ k → k + 2 * f.size ≤ 8388600 → n ≤ maxLen →
  Calls Try.prog 26 #[.slice a n c, .int .i64 k] w fun e w' => e = .returned (.int .i64 (k + 2 * f.size : Nat)) ∧ MkStep L B w w'

set_option maxRecDepth 100000 in
set_option maxHeartbeats 2000000 in
theorem mk_of (f : Fo) (ih : ∀ f' : Fo, f'.size < f.size → MkC f') : MkC f := by
  intro a n c k L B w hk hB h1 hb hn
  obtain rfl : f.len = n := hk.1
  unfold maxLen at hn
  go_enter Try.func26, Try.ntmps26
  go_wp2_with fail
  go_loopw [1, 5] (fun x i wr => ∃ (j m : Nat), j ≤ f.len ∧ i = .int .i64 j ∧ x = .int .i64 m ∧ m + 2 * (f.drop j).size = k + 2 * f.size ∧ 1 ≤ m ∧ MkStep L B w wr) (fun _ i _ => f.len - (intOf i).toNat)
  case atStart => exact ⟨0, k, Nat.zero_le _, rfl, rfl, by rw [Fo.drop_zero], h1, MkStep.refl _ _ _⟩
  case round =>
    obtain ⟨j, m, hj, rfl, rfl, hm, hm1, hst⟩ := hrel
    have hwr : B ≤ wr.heap.size := Nat.le_trans hB hst.size
    by_cases hlt : j < f.len
    · obtain ⟨b, rfl, hLb, hbB, hrow, hsk⟩ := (hk.step hst).2 (by omega)
      obtain ⟨k', s', ks', a', n', c', hg, hc, hka⟩ := sk_get hsk hlt
      rw [Nat.zero_add] at hc
      have hsz := Fo.get_size hg
      have hds : (f.drop j).size = ks'.size + (f.drop (j + 1)).size + 1 := by rw [Fo.drop_get hg]; rfl
      have hmm : m + 2 * ks'.size + 2 ≤ 8388600 := by omega
      have hln : f.len ≤ f.size := f.len_size
      obtain ⟨v0, hv0⟩ := hrow.cells (i := j * 3) (by omega)
      have hf0 := hrow.frozen (j * 3)
      have hs1 : MkStep L B wr (wr.setCell ⟨b, j * 3, none⟩ (.int .i64 m)) := MkStep.set hLb hbB (by omega) _
      have Hf := Lib.hid (And.intro hst (And.intro hrow (And.intro hka (And.intro hg (And.intro hc hs1)))))
      clear hst hrow hsk hka hg hc hs1
      go_wp2_with fail
      refine (markText_at (m + 1) _ (by omega) (by omega) (by omega)).mono ?_
      rintro e w2 ⟨rfl, hB2⟩
      have hr2 := (Hf.out.2.1.step Hf.out.2.2.2.2.2).step (MkStep.of (L := L) (B := B) hB2)
      obtain ⟨v1, hv1⟩ := hr2.cells (i := j * 3 + 1) (by omega)
      have hf1 := hr2.frozen (j * 3 + 1)
      have hs2 : MkStep L B wr (w2.setCell ⟨b, j * 3 + 1, none⟩ (.string (mkS (m + 1)))) := (Hf.out.2.2.2.2.2.trans (MkStep.of hB2)).trans (MkStep.set hLb hbB (by omega) _)
      have hc2 := Hf.out.2.1.slice hs2 Hf.out.2.2.2.2.1
      have hw2 := hs2.size
      have Hih := Lib.hid (ih ks' (by omega) a' n' c' (m + 2) L B _ (Hf.out.2.2.1.step hs2) (by omega) (by omega) (by omega) (by have := Hf.out.2.2.1.1; have := ks'.len_size; unfold maxLen; omega))
      have Hs2 := Lib.hid hs2
      clear hr2 hs2 hB2
      go_wp2_with fail
      rw [show ((m : Int) + 1 + 1) = ((m + 2 : Nat) : Int) by omega]
      refine Hih.out.mono ?_
      rintro e w4 ⟨rfl, hs4⟩
      have Hs4 := Lib.hid (Hf.out.1.trans (Hs2.out.trans hs4))
      clear hs4
      go_wp2_with fail
      go_roundw
      case rel => exact ⟨j + 1, m + 2 + 2 * ks'.size, by omega, by go_num, by go_num, by omega, by omega, Hs4.out⟩
      case measure => simp [intOf]; omega
    · have e0 : j = f.len := by omega
      rw [Fo.drop_all (by omega)] at hm
      have hge : ¬ ((j : Int) < (f.len : Int)) := by omega
      go_wp2_with fail
      go_ret
      exact ⟨ret_int (by simp only [Fo.size] at hm; omega), hst⟩
theorem mk_all (N : Nat) : ∀ f : Fo, f.size ≤ N → MkC f := by
  induction N with
  | zero => exact fun f hN => mk_of f fun f' h => absurd h (by omega)
  | succ N ih => exact fun f hN => mk_of f fun f' h => ih f' (by omega)

set_option maxHeartbeats 400000 in
/-- markExpr: the operands are marked, below and nowhere else -/
theorem markE_any (k : Int) (s : ByteArray) (f : Fo) (a : Option Addr) (n c m L B : Nat) (w : World) (hk : SkA w L B f a n) (hB : B ≤ w.heap.size) (h1 : 1 ≤ m) (hb : m + 2 * f.size ≤ 8388600) (hn : n ≤ maxLen) :
    Calls Try.prog 9 #[.agg #[.int .i64 k, .string s, .slice a n c], .int .i64 m] w fun e w' => e = .returned (.int .i64 (m + 2 * f.size : Nat)) ∧ MkStep L B w w' := by
  have hs0 : MkStep L B w (w.alloc (.cells #[.int .i64 k, .string s, .slice a n c] 24)) := MkStep.of ((Below.refl w.heap.size w).alloc (Nat.le_refl _) _)
  have Hm := Lib.hid (mk_all f.size f (Nat.le_refl _) a n c m L B _ (hk.step hs0) (by simp; omega) h1 hb hn)
  have Hs := Lib.hid hs0
  clear hk hs0
  go_enter Try.func9, Try.ntmps9
  go_wp2_with fail
  refine Hm.out.mono ?_
  rintro e w1 ⟨rfl, hs1⟩
  have Hs1 := Lib.hid (Hs.out.trans hs1)
  clear hs1
  go_wp2_with fail
  go_ret
  exact ⟨ret_int (by omega), Hs1.out⟩
end Go.Proofs.Ytfeepecmijmddaa
