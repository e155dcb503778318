/-
  The law's helpers markRuleS and heldRuleS, over rules whose rows share no block.
-/
import Derived.Test.YtmmjeokmoffdpaaGreatQBkW
import Derived.Test.YtmmjeokmoffdpaaGreatGone
namespace Go.Proofs.YtmmjeokmoffdpaaGreat
set_option linter.unusedVariables false
set_option linter.unusedSimpArgs false
open Go.RowKit

/-- block b is a row with room for n rules -/
def RowQ (w : World) (b n : Nat) : Prop := ∃ cs : Array Value, w.heap[b]? = some (.cells cs 44 (0, 0)) ∧ n * 4 ≤ cs.size
/-- the blocks of the rows below a list of rules -/
def rblks (bs : List (Nat × Fo)) : List Nat := bs.flatMap fun x => blksA x.1 x.2
/-- how many marks these rules take -/
def bsz : List (Nat × Fo) → Nat
  | [] => 0
  | x :: r => 3 + 2 * x.2.size + bsz r
def SepQ (w : World) (b i g : Nat) (ks : Fo) : Prop := ∃ a c, w.cell? ⟨b, i * 4 + 3, none⟩ = some (.slice a ks.len c) ∧ SepA w ks g a ks.len
def MkdQ (w : World) (b i m g : Nat) (ks : Fo) : Prop := w.cell? ⟨b, i * 4, none⟩ = some (.string (mkS m)) ∧ w.cell? ⟨b, i * 4 + 1, none⟩ = some (.int .i64 (m + 1 : Nat)) ∧ w.cell? ⟨b, i * 4 + 2, none⟩ = some (.string (mkS (m + 2))) ∧ ∃ a c, w.cell? ⟨b, i * 4 + 3, none⟩ = some (.slice a ks.len c) ∧ MkdA w ks g a ks.len (m + 3)
/-- a slice of rules whose rows share no block -/
def SepRA (w : World) (bs : List (Nat × Fo)) (g : Nat) (a : Option Addr) (n : Nat) : Prop := bs.length = n ∧ (0 < n → a = some ⟨g, 0, none⟩ ∧ RowQ w g n ∧ ∀ i x, bs[i]? = some x → SepQ w g i x.1 x.2)
/-- the same, marked -/
def MkdRA (w : World) (bs : List (Nat × Fo)) (g : Nat) (a : Option Addr) (n m : Nat) : Prop := bs.length = n ∧ (0 < n → a = some ⟨g, 0, none⟩ ∧ RowQ w g n ∧ ∀ i x, bs[i]? = some x → MkdQ w g i (m + bsz (bs.take i)) x.1 x.2)
def rblksA (g : Nat) (bs : List (Nat × Fo)) : List Nat := if bs.length = 0 then [] else g :: rblks bs
theorem bsz_take {bs : List (Nat × Fo)} {j : Nat} {x : Nat × Fo} (h : bs[j]? = some x) : bsz (bs.take (j + 1)) = bsz (bs.take j) + (3 + 2 * x.2.size) := by
  induction bs generalizing j with
  | nil => simp at h
  | cons y bs ih =>
    cases j with
    | zero => simp at h; subst h; simp [bsz]
    | succ j => simp only [List.take_succ_cons, bsz]; rw [ih (by simpa using h)]; omega
theorem bsz_le (bs : List (Nat × Fo)) (j : Nat) : bsz (bs.take j) ≤ bsz bs := by
  induction bs generalizing j with
  | nil => simp [bsz]
  | cons y bs ih =>
    cases j with
    | zero => simp [bsz]
    | succ j => have := ih j; simp only [List.take_succ_cons, bsz]; omega
section
variable {w w' wr w2 w3 : World} {b i j g n m : Nat} {bs : List (Nat × Fo)} {ks : Fo} {x : Nat × Fo} {a : Option Addr}
theorem RowQ.lt (h : RowQ w b n) : b < w.heap.size := by
  obtain ⟨cs, h1, _⟩ := h
  exact blk_lt h1
theorem RowQ.keep (h : RowQ w b n) (hb : w'.heap[b]? = w.heap[b]?) : RowQ w' b n := by
  obtain ⟨cs, h1, h2⟩ := h
  exact ⟨cs, hb.trans h1, h2⟩
theorem RowQ.cells (h : RowQ w b n) (hi : i < n * 4) : ∃ v, w.cell? ⟨b, i, none⟩ = some v := by
  obtain ⟨cs, h1, h2⟩ := h
  rw [cell_of_row _ _ _ _ _ _ h1]
  exact ⟨_, Array.getElem?_eq_getElem (by omega)⟩
theorem RowQ.frozen (h : RowQ w b n) (i : Nat) : w.frozen? ⟨b, i, none⟩ = false := by
  obtain ⟨cs, h1, h2⟩ := h
  exact blk_frozen h1 i
theorem RowQ.set (h : RowQ w b n) (i : Nat) (v : Value) : RowQ (w.setCell ⟨b, i, none⟩ v) b n := by
  obtain ⟨cs, h1, h2⟩ := h
  exact ⟨_, blk_set h1 i v, by simpa using h2⟩
theorem RowQ.setSame (h : RowQ w b n) (hi : i < n * 4) (v : Value) : (w.setCell ⟨b, i, none⟩ v).cell? ⟨b, i, none⟩ = some v := by
  obtain ⟨cs, h1, h2⟩ := h
  rw [cell_of_row _ _ _ _ _ _ (blk_set h1 i v), Array.getElem?_setIfInBounds_self_of_lt (by omega)]
theorem rblks_mem (h : bs[i]? = some x) : ∀ y, y ∈ blksA x.1 x.2 → y ∈ rblks bs := fun y hy => List.mem_flatMap.2 ⟨x, List.mem_of_getElem? h, hy⟩
theorem rblks_nodup (hn : (rblks bs).Nodup) (h : bs[i]? = some x) : (blksA x.1 x.2).Nodup := by
  induction bs generalizing i with
  | nil => simp at h
  | cons y bs ih =>
    have hn' := List.nodup_append.1 (show (blksA y.1 y.2 ++ rblks bs).Nodup from hn)
    cases i with
    | zero => simp at h; subst h; exact hn'.1
    | succ i => exact ih hn'.2.1 (by simpa using h)
theorem rblks_apart {i' : Nat} {x' : Nat × Fo} (hn : (rblks bs).Nodup) (h : bs[i]? = some x) (h' : bs[i']? = some x') (hi : i ≠ i') : ∀ y, y ∈ blksA x.1 x.2 → y ∉ blksA x'.1 x'.2 := by
  induction bs generalizing i i' with
  | nil => simp at h
  | cons z bs ih =>
    have hn' := List.nodup_append.1 (show (blksA z.1 z.2 ++ rblks bs).Nodup from hn)
    intro y hy hy'
    cases i with
    | zero =>
      cases i' with
      | zero => exact hi rfl
      | succ i' =>
        simp at h
        subst h
        exact hn'.2.2 y hy y (rblks_mem (bs := bs) (by simpa using h') y hy') rfl
    | succ i =>
      cases i' with
      | zero =>
        simp at h'
        subst h'
        exact hn'.2.2 y hy' y (rblks_mem (bs := bs) (by simpa using h) y hy) rfl
      | succ i' => exact ih hn'.2.1 (by simpa using h) (by simpa using h') (by omega) y hy hy'
theorem SepQ.keep (h : SepQ w b i g ks) (hc : w'.cell? ⟨b, i * 4 + 3, none⟩ = w.cell? ⟨b, i * 4 + 3, none⟩) (hk : ∀ x, x ∈ blksA g ks → x < w.heap.size → w'.heap[x]? = w.heap[x]?) : SepQ w' b i g ks := by
  obtain ⟨a, c, h1, h2⟩ := h
  exact ⟨a, c, hc.trans h1, h2.keep hk⟩
theorem MkdQ.keep (h : MkdQ w b i m g ks) (hc : ∀ d, d < 4 → w'.cell? ⟨b, i * 4 + d, none⟩ = w.cell? ⟨b, i * 4 + d, none⟩) (hk : ∀ x, x ∈ blksA g ks → x < w.heap.size → w'.heap[x]? = w.heap[x]?) : MkdQ w' b i m g ks := by
  obtain ⟨h0, h1, h2, a, c, h3, h4⟩ := h
  exact ⟨(hc 0 (by omega)).trans h0, (hc 1 (by omega)).trans h1, (hc 2 (by omega)).trans h2, a, c, (hc 3 (by omega)).trans h3, h4.keep hk⟩
theorem MkdRA.keep (h : MkdRA w bs g a n m) (hk : ∀ x, x ∈ rblksA g bs → x < w.heap.size → w'.heap[x]? = w.heap[x]?) : MkdRA w' bs g a n m := by
  refine ⟨h.1, fun hn => ?_⟩
  obtain ⟨h1, h2, h3⟩ := h.2 hn
  have e : rblksA g bs = g :: rblks bs := by unfold rblksA; rw [if_neg (by have := h.1; omega)]
  rw [e] at hk
  have hb := hk g (List.mem_cons_self ..) h2.lt
  exact ⟨h1, h2.keep hb, fun i x hx => (h3 i x hx).keep (fun d _ => cell_same hb) fun y hy hys => hk y (List.mem_cons_of_mem _ (rblks_mem hx y hy)) hys⟩
theorem SepRA.keep (h : SepRA w bs g a n) (hk : ∀ x, x ∈ rblksA g bs → x < w.heap.size → w'.heap[x]? = w.heap[x]?) : SepRA w' bs g a n := by
  refine ⟨h.1, fun hn => ?_⟩
  obtain ⟨h1, h2, h3⟩ := h.2 hn
  have e : rblksA g bs = g :: rblks bs := by unfold rblksA; rw [if_neg (by have := h.1; omega)]
  rw [e] at hk
  have hb := hk g (List.mem_cons_self ..) h2.lt
  exact ⟨h1, h2.keep hb, fun i x hx => (h3 i x hx).keep (cell_same hb) fun y hy hys => hk y (List.mem_cons_of_mem _ (rblks_mem hx y hy)) hys⟩
/-- between two rounds of markRuleS: the first j rules are marked, the others are as they were -/
def MrI (w : World) (bs : List (Nat × Fo)) (g n m j : Nat) (wr : World) : Prop :=
  (∀ i x, i < j → bs[i]? = some x → MkdQ wr g i (m + bsz (bs.take i)) x.1 x.2) ∧ (∀ i x, j ≤ i → bs[i]? = some x → SepQ wr g i x.1 x.2) ∧ RowQ wr g n ∧ TchL (rblksA g bs) w wr
theorem mrI_below (h : MrI w bs g n m j wr) (hB : Below wr.heap.size wr w') : MrI w bs g n m j w' := by
  obtain ⟨h1, h2, h3, h4⟩ := h
  have hg := h3.lt
  exact ⟨fun i x hi hgt => (h1 i x hi hgt).keep (fun d _ => cell_same (hB.block g hg)) fun y _ hx => hB.block y hx, fun i x hi hgt => (h2 i x hi hgt).keep (cell_same (hB.block g hg)) fun y _ hx => hB.block y hx, h3.keep (hB.block g hg), h4.trans (TchL.of hB)⟩
theorem mrI_set (h : MrI w bs g n m j wr) (hnd : g ∉ rblks bs) (hl : 0 < bs.length) {p : Nat} (hp : p = j * 4 ∨ p = j * 4 + 1 ∨ p = j * 4 + 2) (v : Value) : MrI w bs g n m j (wr.setCell ⟨g, p, none⟩ v) := by
  obtain ⟨h1, h2, h3, h4⟩ := h
  have hne : ∀ x, x ∈ rblks bs → (wr.setCell ⟨g, p, none⟩ v).heap[x]? = wr.heap[x]? := fun x hx => Below.heap_setCell wr ⟨g, p, none⟩ v x (by show x ≠ g; rintro rfl; exact hnd hx)
  have hgm : g ∈ rblksA g bs := by unfold rblksA; rw [if_neg (by omega)]; exact List.mem_cons_self ..
  refine ⟨fun i x hi hgt => (h1 i x hi hgt).keep (fun d' hd' => World.cell?_setCell_other wr _ _ _ ?_) fun y hy _ => hne y (rblks_mem hgt y hy), fun i x hi hgt => (h2 i x hi hgt).keep (World.cell?_setCell_other wr _ _ _ ?_) fun y hy _ => hne y (rblks_mem hgt y hy), h3.set _ _, h4.trans (TchL.set hgm v)⟩
  · intro e; injection e with _ e2; omega
  · intro e; injection e with _ e2; omega
theorem mrI_step (h : MrI w bs g n m j w2) (hnd : g ∉ rblks bs) (hnd2 : (rblks bs).Nodup) (hl : 0 < bs.length) (hgt : bs[j]? = some x) {m' : Nat} (hm : m' = m + bsz (bs.take j))
    (hc0 : w2.cell? ⟨g, j * 4, none⟩ = some (.string (mkS m'))) (hc1 : w2.cell? ⟨g, j * 4 + 1, none⟩ = some (.int .i64 (m' + 1 : Nat))) (hc2 : w2.cell? ⟨g, j * 4 + 2, none⟩ = some (.string (mkS (m' + 2)))) {c : Nat} (hc3 : w2.cell? ⟨g, j * 4 + 3, none⟩ = some (.slice a x.2.len c))
    (hmk : MkdA w3 x.2 x.1 a x.2.len (m' + 3)) (hT : TchL (blksA x.1 x.2) w2 w3) : MrI w bs g n m (j + 1) w3 := by
  obtain ⟨h1, h2, h3, h4⟩ := h
  have hg := h3.lt
  have hb : w3.heap[g]? = w2.heap[g]? := hT.out g hg fun hx => hnd (rblks_mem hgt g hx)
  have hother : ∀ i x', i ≠ j → bs[i]? = some x' → ∀ y, y ∈ blksA x'.1 x'.2 → y < w2.heap.size → w3.heap[y]? = w2.heap[y]? := fun i x' hi hg' y hy hys => hT.out y hys (rblks_apart hnd2 hg' hgt hi y hy)
  refine ⟨fun i x' hi hg' => ?_, fun i x' hi hg' => (h2 i x' (by omega) hg').keep (cell_same hb) (hother i x' (by omega) hg'), h3.keep hb, h4.trans (hT.more fun y hy => ?_)⟩
  · by_cases e : i = j
    · subst e
      rw [hgt] at hg'
      cases hg'
      rw [← hm]
      exact ⟨(cell_same hb).trans hc0, (cell_same hb).trans hc1, (cell_same hb).trans hc2, a, c, (cell_same hb).trans hc3, hmk⟩
    · exact (h1 i x' (by omega) hg').keep (fun d _ => cell_same hb) (hother i x' e hg')
  · unfold rblksA
    rw [if_neg (by omega)]
    exact List.mem_cons_of_mem _ (rblks_mem hgt y hy)
end
end Go.Proofs.YtmmjeokmoffdpaaGreat
