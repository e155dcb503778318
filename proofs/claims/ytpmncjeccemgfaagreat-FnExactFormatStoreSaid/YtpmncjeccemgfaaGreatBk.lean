/-
  Rows of expressions that share no block: what markExpr leaves and heldExpr finds.
-/
import Derived.Test.YtpmncjeccemgfaaGreatMarkE
import Derived.Deep.RegionHeld3
namespace Go.Proofs.YtpmncjeccemgfaaGreat
set_option linter.unusedVariables false
set_option linter.unusedSimpArgs false
open Go.RowKit

/-- the blocks of the rows below (a node's kind is the block of its operands' row) -/
def Fo.blks : Fo → List Nat
  | .nil => []
  | .node k _ ks r => (if ks.len = 0 then [] else k.toNat :: ks.blks) ++ r.blks
/-- the blocks of a list whose row is block g -/
def blksA (g : Nat) (bk : Fo) : List Nat := if bk.len = 0 then [] else g :: bk.blks
/-- block b is a row with room for n expressions -/
def RowC (w : World) (b n : Nat) : Prop := ∃ cs : Array Value, w.heap[b]? = some (.cells cs 59 (0, 0)) ∧ n * 3 ≤ cs.size
/-- the slices of operands, each with a row of its own -/
def Sep (w : World) : Fo → Nat → Nat → Prop
  | .nil, _, _ => True
  | .node k _ ks r, b, j => (∃ a c, w.cell? ⟨b, j * 3 + 2, none⟩ = some (.slice a ks.len c) ∧ (0 < ks.len → a = some ⟨k.toNat, 0, none⟩ ∧ RowC w k.toNat ks.len ∧ Sep w ks k.toNat 0)) ∧ Sep w r b (j + 1)
def SepA (w : World) (bk : Fo) (g : Nat) (a : Option Addr) (n : Nat) : Prop := bk.len = n ∧ (0 < n → a = some ⟨g, 0, none⟩ ∧ RowC w g n ∧ Sep w bk g 0)
def SepN (w : World) (b i g : Nat) (ks : Fo) : Prop := ∃ a c, w.cell? ⟨b, i * 3 + 2, none⟩ = some (.slice a ks.len c) ∧ SepA w ks g a ks.len
/-- the same rows, marked -/
def Mkd (w : World) : Fo → Nat → Nat → Nat → Prop
  | .nil, _, _, _ => True
  | .node k _ ks r, b, j, m => (w.cell? ⟨b, j * 3, none⟩ = some (.int .i64 m) ∧ w.cell? ⟨b, j * 3 + 1, none⟩ = some (.string (mkS (m + 1))) ∧
      ∃ a c, w.cell? ⟨b, j * 3 + 2, none⟩ = some (.slice a ks.len c) ∧ (0 < ks.len → a = some ⟨k.toNat, 0, none⟩ ∧ RowC w k.toNat ks.len ∧ Mkd w ks k.toNat 0 (m + 2))) ∧ Mkd w r b (j + 1) (m + 2 + 2 * ks.size)
def MkdA (w : World) (bk : Fo) (g : Nat) (a : Option Addr) (n m : Nat) : Prop := bk.len = n ∧ (0 < n → a = some ⟨g, 0, none⟩ ∧ RowC w g n ∧ Mkd w bk g 0 m)
def MkdN (w : World) (b i m g : Nat) (ks : Fo) : Prop := w.cell? ⟨b, i * 3, none⟩ = some (.int .i64 m) ∧ w.cell? ⟨b, i * 3 + 1, none⟩ = some (.string (mkS (m + 1))) ∧ ∃ a c, w.cell? ⟨b, i * 3 + 2, none⟩ = some (.slice a ks.len c) ∧ MkdA w ks g a ks.len (m + 2)
section
variable {w w' w'' : World} {b j i g n m : Nat} {bk ks : Fo} {k : Int} {s : ByteArray} {a : Option Addr}
theorem RowC.lt (h : RowC w b n) : b < w.heap.size := by
  obtain ⟨cs, h1, _⟩ := h
  exact blk_lt h1
theorem RowC.keep (h : RowC w b n) (hb : w'.heap[b]? = w.heap[b]?) : RowC w' b n := by
  obtain ⟨cs, h1, h2⟩ := h
  exact ⟨cs, hb.trans h1, h2⟩
theorem RowC.cells (h : RowC w b n) (hi : i < n * 3) : ∃ v, w.cell? ⟨b, i, none⟩ = some v := by
  obtain ⟨cs, h1, h2⟩ := h
  rw [cell_of_row _ _ _ _ _ _ h1]
  exact ⟨_, Array.getElem?_eq_getElem (by omega)⟩
theorem RowC.frozen (h : RowC w b n) (i : Nat) : w.frozen? ⟨b, i, none⟩ = false := by
  obtain ⟨cs, h1, h2⟩ := h
  exact blk_frozen h1 i
theorem RowC.set (h : RowC w b n) (g i : Nat) (v : Value) : RowC (w.setCell ⟨g, i, none⟩ v) b n := by
  obtain ⟨cs, h1, h2⟩ := h
  by_cases e : b = g
  · subst e
    exact ⟨_, blk_set h1 i v, by simpa using h2⟩
  · exact ⟨cs, (Below.heap_setCell w ⟨g, i, none⟩ v b e).trans h1, h2⟩
theorem cell_same (hb : w'.heap[b]? = w.heap[b]?) : w'.cell? ⟨b, i, none⟩ = w.cell? ⟨b, i, none⟩ := World.cell?_of_block hb
theorem blks_mem (h : bk.get i = some (k, s, ks)) : ∀ x, x ∈ blksA k.toNat ks → x ∈ bk.blks := by
  induction bk generalizing i with
  | nil => simp [Fo.get] at h
  | node k' s' ks' r _ ih =>
    intro x hx
    cases i with
    | zero =>
      simp only [Fo.get, Option.some.injEq, Prod.mk.injEq] at h
      obtain ⟨rfl, rfl, rfl⟩ := h
      exact List.mem_append_left _ hx
    | succ i => exact List.mem_append_right _ (ih h x hx)
theorem blks_nodup (hn : bk.blks.Nodup) (h : bk.get i = some (k, s, ks)) : (blksA k.toNat ks).Nodup := by
  induction bk generalizing i with
  | nil => simp [Fo.get] at h
  | node k' s' ks' r _ ih =>
    have hn' := List.nodup_append.1 hn
    cases i with
    | zero =>
      simp only [Fo.get, Option.some.injEq, Prod.mk.injEq] at h
      obtain ⟨rfl, rfl, rfl⟩ := h
      exact hn'.1
    | succ i => exact ih hn'.2.1 h
theorem blks_apart {i' : Nat} {k' : Int} {s' : ByteArray} {ks' : Fo} (hn : bk.blks.Nodup) (h : bk.get i = some (k, s, ks)) (h' : bk.get i' = some (k', s', ks')) (hi : i ≠ i') : ∀ x, x ∈ blksA k.toNat ks → x ∉ blksA k'.toNat ks' := by
  induction bk generalizing i i' with
  | nil => simp [Fo.get] at h
  | node k0 s0 ks0 r _ ih =>
    have hn' := List.nodup_append.1 hn
    intro x hx hx'
    cases i with
    | zero =>
      cases i' with
      | zero => exact hi rfl
      | succ i' =>
        simp only [Fo.get, Option.some.injEq, Prod.mk.injEq] at h
        obtain ⟨rfl, rfl, rfl⟩ := h
        exact hn'.2.2 x hx x (blks_mem (bk := r) h' x hx') rfl
    | succ i =>
      cases i' with
      | zero =>
        simp only [Fo.get, Option.some.injEq, Prod.mk.injEq] at h'
        obtain ⟨rfl, rfl, rfl⟩ := h'
        exact hn'.2.2 x hx' x (blks_mem (bk := r) h x hx) rfl
      | succ i' => exact ih hn'.2.1 h h' (by omega) x hx hx'
theorem sep_keep : ∀ {bk : Fo} {b j : Nat}, b < w.heap.size → (∀ x, x ∈ b :: bk.blks → x < w.heap.size → w'.heap[x]? = w.heap[x]?) → Sep w bk b j → Sep w' bk b j
  | .nil, _, _, _, _, _ => trivial
  | .node k s ks r, b, j, hb, hk, ⟨⟨a, c, h1, h2⟩, h3⟩ => by
    refine ⟨⟨a, c, (cell_same (hk b (List.mem_cons_self ..) hb)).trans h1, fun hn => ?_⟩, sep_keep hb (fun x hx => hk x ?_) h3⟩
    · obtain ⟨h4, h5, h6⟩ := h2 hn
      have hin : ∀ x, x ∈ k.toNat :: ks.blks → x ∈ b :: (Fo.node k s ks r).blks := fun x hx => List.mem_cons_of_mem _ (List.mem_append_left _ (by rw [if_neg (by omega)]; exact hx))
      exact ⟨h4, h5.keep (hk _ (hin _ (List.mem_cons_self ..)) h5.lt), sep_keep h5.lt (fun x hx => hk x (hin x hx)) h6⟩
    · rcases List.mem_cons.1 hx with rfl | hx
      · exact List.mem_cons_self ..
      · exact List.mem_cons_of_mem _ (List.mem_append_right _ hx)
theorem SepA.keep (h : SepA w bk g a n) (hk : ∀ x, x ∈ blksA g bk → x < w.heap.size → w'.heap[x]? = w.heap[x]?) : SepA w' bk g a n := by
  refine ⟨h.1, fun hn => ?_⟩
  obtain ⟨h4, h5, h6⟩ := h.2 hn
  have e : blksA g bk = g :: bk.blks := by unfold blksA; rw [if_neg (by have := h.1; omega)]
  rw [e] at hk
  exact ⟨h4, h5.keep (hk _ (List.mem_cons_self ..) h5.lt), sep_keep h5.lt hk h6⟩
theorem mkd_keep : ∀ {bk : Fo} {b j m : Nat}, b < w.heap.size → (∀ x, x ∈ b :: bk.blks → x < w.heap.size → w'.heap[x]? = w.heap[x]?) → Mkd w bk b j m → Mkd w' bk b j m
  | .nil, _, _, _, _, _, _ => trivial
  | .node k s ks r, b, j, m, hb, hk, ⟨⟨h00, h01, a, c, h1, h2⟩, h3⟩ => by
    have hbb := hk b (List.mem_cons_self ..) hb
    refine ⟨⟨(cell_same hbb).trans h00, (cell_same hbb).trans h01, a, c, (cell_same hbb).trans h1, fun hn => ?_⟩, mkd_keep hb (fun x hx => hk x ?_) h3⟩
    · obtain ⟨h4, h5, h6⟩ := h2 hn
      have hin : ∀ x, x ∈ k.toNat :: ks.blks → x ∈ b :: (Fo.node k s ks r).blks := fun x hx => List.mem_cons_of_mem _ (List.mem_append_left _ (by rw [if_neg (by omega)]; exact hx))
      exact ⟨h4, h5.keep (hk _ (hin _ (List.mem_cons_self ..)) h5.lt), mkd_keep h5.lt (fun x hx => hk x (hin x hx)) h6⟩
    · rcases List.mem_cons.1 hx with rfl | hx
      · exact List.mem_cons_self ..
      · exact List.mem_cons_of_mem _ (List.mem_append_right _ hx)
theorem MkdA.keep (h : MkdA w bk g a n m) (hk : ∀ x, x ∈ blksA g bk → x < w.heap.size → w'.heap[x]? = w.heap[x]?) : MkdA w' bk g a n m := by
  refine ⟨h.1, fun hn => ?_⟩
  obtain ⟨h4, h5, h6⟩ := h.2 hn
  have e : blksA g bk = g :: bk.blks := by unfold blksA; rw [if_neg (by have := h.1; omega)]
  rw [e] at hk
  exact ⟨h4, h5.keep (hk _ (List.mem_cons_self ..) h5.lt), mkd_keep h5.lt hk h6⟩
theorem sep_get : ∀ {bk : Fo} {b j i : Nat} {k : Int} {s : ByteArray} {ks : Fo}, Sep w bk b j → bk.get i = some (k, s, ks) → SepN w b (j + i) k.toNat ks
  | .nil, _, _, _, _, _, _, _, h => by simp [Fo.get] at h
  | .node k s ks r, b, j, 0, _, _, _, ⟨⟨a, c, h1, h2⟩, _⟩, h => by
    simp only [Fo.get, Option.some.injEq, Prod.mk.injEq] at h
    obtain ⟨rfl, rfl, rfl⟩ := h
    exact ⟨a, c, h1, rfl, h2⟩
  | .node k s ks r, b, j, i + 1, _, _, _, ⟨_, h3⟩, h => by
    have := sep_get (bk := r) (i := i) h3 h
    rwa [show j + (i + 1) = j + 1 + i from by omega]
theorem mkd_get : ∀ {bk : Fo} {b j i m : Nat} {k : Int} {s : ByteArray} {ks : Fo}, Mkd w bk b j m → bk.get i = some (k, s, ks) → MkdN w b (j + i) (m + 2 * bk.size - 2 * (bk.drop i).size) k.toNat ks
  | .nil, _, _, _, _, _, _, _, _, h => by simp [Fo.get] at h
  | .node k s ks r, b, j, 0, m, _, _, _, ⟨⟨h00, h01, a, c, h1, h2⟩, _⟩, h => by
    simp only [Fo.get, Option.some.injEq, Prod.mk.injEq] at h
    obtain ⟨rfl, rfl, rfl⟩ := h
    rw [Fo.drop_zero, Nat.add_sub_cancel]
    exact ⟨h00, h01, a, c, h1, rfl, h2⟩
  | .node k s ks r, b, j, i + 1, m, _, _, _, ⟨_, h3⟩, h => by
    have h4 := mkd_get (bk := r) (i := i) h3 h
    have hd : (Fo.node k s ks r).drop (i + 1) = r.drop i := rfl
    rw [hd, show j + (i + 1) = j + 1 + i from by omega, show m + 2 * (Fo.node k s ks r).size - 2 * (r.drop i).size = m + 2 + 2 * ks.size + 2 * r.size - 2 * (r.drop i).size from by simp only [Fo.size]; omega]
    exact h4
theorem drop_size_le : ∀ (bk : Fo) (i : Nat), (bk.drop i).size ≤ bk.size
  | .nil, 0 => Nat.le_refl _
  | .nil, _ + 1 => Nat.le_refl _
  | .node _ _ _ _, 0 => Nat.le_refl _
  | .node k s ks r, i + 1 => by have := drop_size_le r i; simp only [Fo.drop, Fo.size]; omega
theorem mkd_of : ∀ {bk : Fo} {b j m : Nat}, (∀ i k s ks, bk.get i = some (k, s, ks) → MkdN w b (j + i) (m + 2 * bk.size - 2 * (bk.drop i).size) k.toNat ks) → Mkd w bk b j m
  | .nil, _, _, _, _ => trivial
  | .node k s ks r, b, j, m, h => by
    have h0 := h 0 k s ks rfl
    rw [Fo.drop_zero, Nat.add_sub_cancel, Nat.add_zero] at h0
    obtain ⟨h00, h01, a, c, h1, h2⟩ := h0
    refine ⟨⟨h00, h01, a, c, h1, h2.2⟩, mkd_of fun i k' s' ks' hg => ?_⟩
    have h4 := h (i + 1) k' s' ks' hg
    have hd : (Fo.node k s ks r).drop (i + 1) = r.drop i := rfl
    rw [hd, show j + (i + 1) = j + 1 + i from by omega, show m + 2 * (Fo.node k s ks r).size - 2 * (r.drop i).size = m + 2 + 2 * ks.size + 2 * r.size - 2 * (r.drop i).size from by simp only [Fo.size]; omega] at h4
    exact h4
/-- only these blocks may have been written to -/
structure TchL (bs : List Nat) (w w' : World) : Prop where
  os : w'.os = w.os
  tape : w'.tape = w.tape
  output : w'.output = w.output
  size : w.heap.size ≤ w'.heap.size
  out : ∀ g : Nat, g < w.heap.size → g ∉ bs → w'.heap[g]? = w.heap[g]?
theorem TchL.refl (bs : List Nat) (w : World) : TchL bs w w := ⟨rfl, rfl, rfl, Nat.le_refl _, fun _ _ _ => rfl⟩
theorem TchL.trans {bs : List Nat} (h : TchL bs w w') (h2 : TchL bs w' w'') : TchL bs w w'' := ⟨h2.os.trans h.os, h2.tape.trans h.tape, h2.output.trans h.output, Nat.le_trans h.size h2.size, fun g hg ho => (h2.out g (Nat.lt_of_lt_of_le hg h.size) ho).trans (h.out g hg ho)⟩
theorem TchL.of {bs : List Nat} (h : Below w.heap.size w w') : TchL bs w w' := ⟨h.os, h.tape, h.output, h.size, fun g hg _ => h.block g hg⟩
theorem TchL.set {bs : List Nat} (hL : g ∈ bs) (v : Value) : TchL bs w (w.setCell ⟨g, i, none⟩ v) := ⟨rfl, rfl, rfl, by simp, fun g' hg ho => Below.heap_setCell w ⟨g, i, none⟩ v g' (by show g' ≠ g; rintro rfl; exact ho hL)⟩
theorem TchL.more {bs bs' : List Nat} (h : TchL bs w w') (hL : ∀ x, x ∈ bs → x ∈ bs') : TchL bs' w w' := ⟨h.os, h.tape, h.output, h.size, fun g hg ho => h.out g hg fun hx => ho (hL g hx)⟩
end
end Go.Proofs.YtpmncjeccemgfaaGreat
