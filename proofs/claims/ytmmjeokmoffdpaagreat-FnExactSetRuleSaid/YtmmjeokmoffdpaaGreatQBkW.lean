/-
  The law's helpers markExpr and heldExpr, over rows that share no block.
-/
import Derived.Test.YtmmjeokmoffdpaaGreatGone
namespace Go.Proofs.YtmmjeokmoffdpaaGreat
set_option linter.unusedVariables false
set_option linter.unusedSimpArgs false
open Go.RowKit

/-- between two rounds of markExprS: the first j nodes are marked, the others are as they were -/
def MsI (w : World) (bk : Fo) (g n m j : Nat) (wr : World) : Prop :=
  (∀ i k s ks, i < j → bk.get i = some (k, s, ks) → MkdN wr g i (m + 2 * bk.size - 2 * (bk.drop i).size) k.toNat ks) ∧ (∀ i k s ks, j ≤ i → bk.get i = some (k, s, ks) → SepN wr g i k.toNat ks) ∧ RowC wr g n ∧ TchL (blksA g bk) w wr
/-- the contract of markExprS at one list of rows -/
def MsC (bk : Fo) : Prop := ∀ (a : Option Addr) (g n c m : Nat) (w : World), SepA w bk g a n → (blksA g bk).Nodup → 1 ≤ m → m + 2 * bk.size ≤ 8388600 → n ≤ maxLen →
  Calls Tryz.prog 52 #[.slice a n c, .int .i64 m] w fun e w' => e = .returned (.int .i64 (m + 2 * bk.size : Nat)) ∧ MkdA w' bk g a n m ∧ TchL (blksA g bk) w w'
section
variable {w w' wr w2 w3 : World} {b i j g n m : Nat} {bk ks : Fo} {k : Int} {s : ByteArray} {a : Option Addr}
theorem SepN.keep (h : SepN w b i g ks) (hc : w'.cell? ⟨b, i * 3 + 2, none⟩ = w.cell? ⟨b, i * 3 + 2, none⟩) (hk : ∀ x, x ∈ blksA g ks → x < w.heap.size → w'.heap[x]? = w.heap[x]?) : SepN w' b i g ks := by
  obtain ⟨a, c, h1, h2⟩ := h
  exact ⟨a, c, hc.trans h1, h2.keep hk⟩
theorem MkdN.keep (h : MkdN w b i m g ks) (hc : ∀ d, d < 3 → w'.cell? ⟨b, i * 3 + d, none⟩ = w.cell? ⟨b, i * 3 + d, none⟩) (hk : ∀ x, x ∈ blksA g ks → x < w.heap.size → w'.heap[x]? = w.heap[x]?) : MkdN w' b i m g ks := by
  obtain ⟨h0, h1, a, c, h2, h3⟩ := h
  exact ⟨(hc 0 (by omega)).trans h0, (hc 1 (by omega)).trans h1, a, c, (hc 2 (by omega)).trans h2, h3.keep hk⟩
theorem msI_below (h : MsI w bk g n m j wr) (hB : Below wr.heap.size wr w') : MsI w bk g n m j w' := by
  obtain ⟨h1, h2, h3, h4⟩ := h
  have hg := h3.lt
  exact ⟨fun i k s ks hi hgt => (h1 i k s ks hi hgt).keep (fun d _ => cell_same (hB.block g hg)) fun x _ hx => hB.block x hx, fun i k s ks hi hgt => (h2 i k s ks hi hgt).keep (cell_same (hB.block g hg)) fun x _ hx => hB.block x hx, h3.keep (hB.block g hg), h4.trans (TchL.of hB)⟩
theorem RowC.setSame (h : RowC w b n) (hi : i < n * 3) (v : Value) : (w.setCell ⟨b, i, none⟩ v).cell? ⟨b, i, none⟩ = some v := by
  obtain ⟨cs, h1, h2⟩ := h
  rw [cell_of_row _ _ _ _ _ _ (blk_set h1 i v), Array.getElem?_setIfInBounds_self_of_lt (by omega)]
/-- a cell of node j that is no slice is written to -/
theorem msI_set (h : MsI w bk g n m j wr) (hnd : g ∉ bk.blks) (hl : 0 < bk.len) {p : Nat} (hp : p = j * 3 ∨ p = j * 3 + 1) (v : Value) : MsI w bk g n m j (wr.setCell ⟨g, p, none⟩ v) := by
  obtain ⟨h1, h2, h3, h4⟩ := h
  have hne : ∀ x, x ∈ bk.blks → (wr.setCell ⟨g, p, none⟩ v).heap[x]? = wr.heap[x]? := fun x hx => Below.heap_setCell wr ⟨g, p, none⟩ v x (by show x ≠ g; rintro rfl; exact hnd hx)
  have hgm : g ∈ blksA g bk := by unfold blksA; rw [if_neg (by omega)]; exact List.mem_cons_self ..
  refine ⟨fun i k s ks hi hgt => (h1 i k s ks hi hgt).keep (fun d' hd' => World.cell?_setCell_other wr _ _ _ ?_) fun x hx _ => hne x (blks_mem hgt x hx), fun i k s ks hi hgt => (h2 i k s ks hi hgt).keep (World.cell?_setCell_other wr _ _ _ ?_) fun x hx _ => hne x (blks_mem hgt x hx), h3.set _ _ _, h4.trans (TchL.set hgm v)⟩
  · intro e; injection e with _ e2; omega
  · intro e; injection e with _ e2; omega
/-- node j's operands are marked: so is node j -/
theorem msI_step (h : MsI w bk g n m j w2) (hnd : g ∉ bk.blks) (hnd2 : bk.blks.Nodup) (hl : 0 < bk.len) (hgt : bk.get j = some (k, s, ks)) {m' : Nat} (hm : m' = m + 2 * bk.size - 2 * (bk.drop j).size)
    (hc0 : w2.cell? ⟨g, j * 3, none⟩ = some (.int .i64 m')) (hc1 : w2.cell? ⟨g, j * 3 + 1, none⟩ = some (.string (mkS (m' + 1)))) {c : Nat} (hc2 : w2.cell? ⟨g, j * 3 + 2, none⟩ = some (.slice a ks.len c))
    (hmk : MkdA w3 ks k.toNat a ks.len (m' + 2)) (hT : TchL (blksA k.toNat ks) w2 w3) : MsI w bk g n m (j + 1) w3 := by
  obtain ⟨h1, h2, h3, h4⟩ := h
  have hg := h3.lt
  have hb : w3.heap[g]? = w2.heap[g]? := hT.out g hg fun hx => hnd (blks_mem hgt g hx)
  have hother : ∀ i k' s' ks', i ≠ j → bk.get i = some (k', s', ks') → ∀ x, x ∈ blksA k'.toNat ks' → x < w2.heap.size → w3.heap[x]? = w2.heap[x]? := fun i k' s' ks' hi hg' x hx hxs => hT.out x hxs (blks_apart hnd2 hg' hgt hi x hx)
  refine ⟨fun i k' s' ks' hi hg' => ?_, fun i k' s' ks' hi hg' => (h2 i k' s' ks' (by omega) hg').keep (cell_same hb) (hother i k' s' ks' (by omega) hg'), h3.keep hb, h4.trans (hT.more fun x hx => ?_)⟩
  · by_cases e : i = j
    · subst e
      rw [hgt] at hg'
      simp only [Option.some.injEq, Prod.mk.injEq] at hg'
      obtain ⟨rfl, rfl, rfl⟩ := hg'
      rw [← hm]
      exact ⟨(cell_same hb).trans hc0, (cell_same hb).trans hc1, a, c, (cell_same hb).trans hc2, hmk⟩
    · exact (h1 i k' s' ks' (by omega) hg').keep (fun d _ => cell_same hb) (hother i k' s' ks' e hg')
  · unfold blksA
    rw [if_neg (by omega)]
    exact List.mem_cons_of_mem _ (blks_mem hgt x hx)
end

set_option maxRecDepth 100000 in
set_option maxHeartbeats 4000000 in
theorem ms_of (bk : Fo) (ih : ∀ f' : Fo, f'.size < bk.size → MsC f') : MsC bk := by
  intro a g n c m w hk hnd h1 hb hn
  obtain rfl : bk.len = n := hk.1
  unfold maxLen at hn
  by_cases h0 : bk.len = 0
  · have hz : bk.size = 0 := by cases bk with
      | nil => rfl
      | node _ _ _ _ => simp [Fo.len] at h0
    have Hk := Lib.hid (show MkdA w bk g a 0 m from ⟨h0, fun h => absurd h (by omega)⟩)
    rw [h0, hz]
    go_enter Tryz.func52, Tryz.ntmps52
    go_wp2_with fail
    go_loopw [1, 5] (fun x i wr => x = .int .i64 m ∧ i = .int .i64 0 ∧ wr = w) (fun _ _ _ => 0)
    case atStart => exact ⟨rfl, rfl, rfl⟩
    case round =>
      obtain ⟨rfl, rfl, rfl⟩ := hrel
      go_wp2_with fail
      go_ret
      exact ⟨rfl, Hk.out, TchL.refl _ _⟩
  · have hpos : 0 < bk.len := by omega
    obtain ⟨rfl, hrow, hsep⟩ := hk.2 hpos
    have hgA : blksA g bk = g :: bk.blks := by unfold blksA; rw [if_neg h0]
    have hnd' := hnd
    rw [hgA] at hnd'
    obtain ⟨hgn, hndb⟩ := List.nodup_cons.1 hnd'
    have Hst := Lib.hid (show MsI w bk g bk.len m 0 w from ⟨fun i _ _ _ hi => absurd hi (by omega), fun i k s ks _ hg => by have := sep_get hsep hg; rwa [Nat.zero_add] at this, hrow, TchL.refl _ _⟩)
    clear hk hnd hnd' hrow hsep
    go_enter Tryz.func52, Tryz.ntmps52
    go_wp2_with fail
    go_loopw [1, 5] (fun x i wr => ∃ (j m' : Nat), j ≤ bk.len ∧ i = .int .i64 j ∧ x = .int .i64 m' ∧ m' + 2 * (bk.drop j).size = m + 2 * bk.size ∧ 1 ≤ m' ∧ MsI w bk g bk.len m j wr) (fun _ i _ => bk.len - (intOf i).toNat)
    case atStart => exact ⟨0, m, Nat.zero_le _, rfl, rfl, by rw [Fo.drop_zero], h1, Hst.out⟩
    case round =>
      obtain ⟨j, m', hj, rfl, rfl, hm, hm1, hst⟩ := hrel
      by_cases hlt : j < bk.len
      · obtain ⟨⟨k, s, ks⟩, hgt⟩ := Fo.get_some hlt
        have hsz := Fo.get_size hgt
        have hds : (bk.drop j).size = ks.size + (bk.drop (j + 1)).size + 1 := by rw [Fo.drop_get hgt]; rfl
        have hln : bk.len ≤ bk.size := bk.len_size
        obtain ⟨v0, hv0⟩ := hst.2.2.1.cells (i := j * 3) (by omega)
        have hf0 := hst.2.2.1.frozen (j * 3)
        have hs1 := msI_set hst hgn hpos (j := j) (p := j * 3) (.inl rfl) (.int .i64 m')
        have hx0 := hst.2.2.1.setSame (i := j * 3) (by omega) (.int .i64 m')
        have hlw := hs1.2.2.1.lt
        have Hst := Lib.hid (And.intro hs1 hx0)
        have Hg := Lib.hid hgt
        clear hst hgt hs1 hx0
        go_wp2_with fail
        refine (markText_at (m' + 1) _ (by omega) (by omega) (by omega)).mono ?_
        rintro e w2 ⟨rfl, hB2⟩
        have hs2 := msI_below Hst.out.1 hB2
        have hx0 := (hB2.cell (p := ⟨g, j * 3, none⟩) hlw).trans Hst.out.2
        obtain ⟨v1, hv1⟩ := hs2.2.2.1.cells (i := j * 3 + 1) (by omega)
        have hf1 := hs2.2.2.1.frozen (j * 3 + 1)
        have hs3 := msI_set hs2 hgn hpos (j := j) (p := j * 3 + 1) (.inr rfl) (.string (mkS (m' + 1)))
        have hx1 := hs2.2.2.1.setSame (i := j * 3 + 1) (by omega) (.string (mkS (m' + 1)))
        have hy0 : (w2.setCell ⟨g, j * 3 + 1, none⟩ (.string (mkS (m' + 1)))).cell? ⟨g, j * 3, none⟩ = some (.int .i64 m') := (World.cell?_setCell_other w2 _ _ _ (by intro e; injection e with _ e2; omega)).trans hx0
        obtain ⟨a', c', hc2, hka⟩ := hs3.2.1 j k s ks (Nat.le_refl _) Hg.out
        have hndk := blks_nodup hndb Hg.out
        have hls := ks.len_size
        have Hs3 := Lib.hid (And.intro hs3 (And.intro hx1 hy0))
        clear hs2 hx0 hs3 hx1 hy0 hlw
        go_wp2_with fail
        rw [show ((m' : Int) + 1 + 1) = ((m' + 2 : Nat) : Int) by omega]
        refine (ih ks (by omega) a' k.toNat ks.len c' (m' + 2) _ hka hndk (by omega) (by omega) (by unfold maxLen; omega)).mono ?_
        rintro e w4 ⟨rfl, hmk, hT⟩
        have Hs4 := Lib.hid (msI_step Hs3.out.1 hgn hndb hpos Hg.out (m' := m') (by omega) Hs3.out.2.2 Hs3.out.2.1 hc2 hmk hT)
        clear hka hT hmk
        go_wp2_with fail
        exact ⟨⟨j + 1, m' + 2 + 2 * ks.size, by omega, by go_num, by go_num, by omega, by omega, Hs4.out⟩, by simp [intOf]; omega⟩
      · have e0 : j = bk.len := by omega
        rw [Fo.drop_all (by omega)] at hm
        have hge : ¬ ((j : Int) < (bk.len : Int)) := by omega
        have Hr : Hid ((m' : Int) = ((m + 2 * bk.size : Nat) : Int)) := Lib.hid (by simp only [Fo.size] at hm; omega)
        have Hst := Lib.hid hst
        clear hst
        go_wp2_with fail
        go_ret
        refine ⟨ret_int Hr.out, ⟨rfl, fun _ => ⟨rfl, Hst.out.2.2.1, mkd_of fun i k s ks hg => ?_⟩⟩, hgA ▸ Hst.out.2.2.2⟩
        rw [Nat.zero_add]
        exact Hst.out.1 i k s ks (by have := Fo.get_lt hg; omega) hg
theorem ms_all (N : Nat) : ∀ f : Fo, f.size ≤ N → MsC f := by
  induction N with
  | zero => exact fun f hN => ms_of f fun f' h => absurd h (by omega)
  | succ N ih => exact fun f hN => ms_of f fun f' h => ih f' (by omega)

/-- the contract of heldExprS at one list of marked rows -/
def HeC (bk : Fo) : Prop := ∀ (a : Option Addr) (g n c m : Nat) (w : World), MkdA w bk g a n m → 1 ≤ m → m + 2 * bk.size ≤ 8388600 → n ≤ maxLen →
  Calls Tryz.prog 53 #[.slice a n c, .int .i64 m] w fun e w' => e = .returned (.int .i64 (m + 2 * bk.size : Nat)) ∧ Below w.heap.size w w'

set_option maxRecDepth 100000 in
set_option maxHeartbeats 4000000 in
theorem he_of (bk : Fo) (ih : ∀ f' : Fo, f'.size < bk.size → HeC f') : HeC bk := by
  intro a g n c m w hk h1 hb hn
  obtain rfl : bk.len = n := hk.1
  unfold maxLen at hn
  have Hk := Lib.hid hk
  clear hk
  go_enter Tryz.func53, Tryz.ntmps53
  go_wp2_with fail
  go_loopw [1, 5] (fun x i wr => ∃ (j m' : Nat), j ≤ bk.len ∧ i = .int .i64 j ∧ x = .int .i64 m' ∧ m' + 2 * (bk.drop j).size = m + 2 * bk.size ∧ 1 ≤ m' ∧ Below w.heap.size w wr) (fun _ i _ => bk.len - (intOf i).toNat)
  case atStart => exact ⟨0, m, Nat.zero_le _, rfl, rfl, by rw [Fo.drop_zero], h1, Below.refl _ _⟩
  case round =>
    obtain ⟨j, m', hj, rfl, rfl, hm, hm1, hB⟩ := hrel
    by_cases hlt : j < bk.len
    · obtain ⟨⟨k, s, ks⟩, hgt⟩ := Fo.get_some hlt
      have hsz := Fo.get_size hgt
      have hds : (bk.drop j).size = ks.size + (bk.drop (j + 1)).size + 1 := by rw [Fo.drop_get hgt]; rfl
      have hln : bk.len ≤ bk.size := bk.len_size
      obtain ⟨rfl, hrow, hmk⟩ := Hk.out.2 (by omega)
      have hgl := hrow.lt
      have hN := mkd_get hmk hgt
      rw [Nat.zero_add, show m + 2 * bk.size - 2 * (bk.drop j).size = m' from by omega] at hN
      obtain ⟨hc0, hc1, a', c', hc2, hka⟩ := hN
      have hd1 : ((mkS (m' + 1)).toList == (mkS (m' + 1)).toList) = true := by simp
      have hj0 : (0 : Int) ≤ (j : Int) := by omega
      have hjj : (j : Int) < (bk.len : Int) := by omega
      have hx0 := (hB.cell (p := ⟨g, j * 3, none⟩) hgl).trans hc0
      have hx1 := (hB.cell (p := ⟨g, j * 3 + 1, none⟩) hgl).trans hc1
      have hx2 := (hB.cell (p := ⟨g, j * 3 + 2, none⟩) hgl).trans hc2
      have Hka := Lib.hid hka
      clear hrow hmk hka hc0 hc1 hc2 hgt
      go_wp2_with fail
      have hbw : g < wr.heap.size := by have := hB.size; omega
      go_region_held3 (fun w' => w'.cell? ⟨g, j * 3 + 1, none⟩ = some (.string (mkS (m' + 1)))) (first | go_keep | exact (hB1.cell (p := ⟨g, j * 3 + 1, none⟩) hbw).trans hx1) ((go_at_call 51; refine (markText_at (m' + 1) _ (by omega) (by omega) (by omega)).mono ?_; rintro e w1 ⟨rfl, hB1⟩))
      have B1 := hB.drew.trans (hB1.mono hB.size)
      have hx3 := (hB1.cell (p := ⟨g, j * 3 + 2, none⟩) hbw).trans hx2
      have hka1 := Hka.out.keep (w' := w1) fun x _ hx => B1.block x hx
      have hls := ks.len_size
      clear hx0 hx1 hx2 hB1
      go_wp2_with fail
      rw [show ((m' : Int) + 1 + 1) = ((m' + 2 : Nat) : Int) by omega]
      refine (ih ks (by omega) a' k.toNat ks.len c' (m' + 2) _ hka1 (by omega) (by omega) (by unfold maxLen; omega)).mono ?_
      rintro e w4 ⟨rfl, hB4⟩
      have B4 := B1.trans (hB4.mono B1.size)
      have hnn : ¬ (((m' + 2 + 2 * ks.size : Nat) : Int) < 0) := by omega
      clear hka1 hB4
      go_wp2_with fail
      exact ⟨⟨j + 1, m' + 2 + 2 * ks.size, by omega, by go_num, by go_num, by omega, by omega, B4⟩, by simp [intOf]; omega⟩
    · have e0 : j = bk.len := by omega
      rw [Fo.drop_all (by omega)] at hm
      have hge : ¬ ((j : Int) < (bk.len : Int)) := by omega
      have Hr : Hid ((m' : Int) = ((m + 2 * bk.size : Nat) : Int)) := Lib.hid (by simp only [Fo.size] at hm; omega)
      go_wp2_with fail
      go_ret
      exact ⟨ret_int Hr.out, hB⟩
theorem he_all (N : Nat) : ∀ f : Fo, f.size ≤ N → HeC f := by
  induction N with
  | zero => exact fun f hN => he_of f fun f' h => absurd h (by omega)
  | succ N ih => exact fun f hN => he_of f fun f' h => ih f' (by omega)

set_option maxHeartbeats 1000000 in
/-- markExpr: each row gets marks of its own -/
theorem markX_any (k : Int) (s : ByteArray) (bk : Fo) (a : Option Addr) (g n c m : Nat) (w : World) (hk : SepA w bk g a n) (hnd : (blksA g bk).Nodup) (hlt : ∀ x, x ∈ blksA g bk → x < w.heap.size) (h1 : 1 ≤ m) (hb : m + 2 * bk.size ≤ 8388600) (hn : n ≤ maxLen) :
    Calls Tryz.prog 34 #[.agg #[.int .i64 k, .string s, .slice a n c], .int .i64 m] w fun e w' => e = .returned (.int .i64 (m + 2 * bk.size : Nat)) ∧ MkdA w' bk g a n m ∧ TchL (blksA g bk) w w' := by
  have hB0 := (Below.refl w.heap.size w).alloc (Nat.le_refl _) (.cells #[.int .i64 k, .string s, .slice a n c] 42)
  have Hm := Lib.hid (ms_all bk.size bk (Nat.le_refl _) a g n c m _ (hk.keep fun x _ hx => hB0.block x hx) hnd h1 hb hn)
  go_enter Tryz.func34, Tryz.ntmps34
  go_wp2_with fail
  refine Hm.out.mono ?_
  rintro e w1 ⟨rfl, hmk, hT⟩
  have Hmk := Lib.hid hmk
  have hT1 := (TchL.of hB0).trans hT
  clear hmk hk
  go_wp2_with fail
  go_ret
  exact ⟨ret_int (by omega), Hmk.out, hT1⟩

end Go.Proofs.YtmmjeokmoffdpaaGreat
