/-
  The law's helper markProject: where it writes.
-/
import Derived.Test.YtmmjeokmoffdpaaGreatQRuK
import Derived.Test.YtmmjeokmoffdpaaGreatGone
namespace Go.Proofs.YtmmjeokmoffdpaaGreat
set_option linter.unusedVariables false
set_option linter.unusedSimpArgs false
open Go.RowKit

section
variable {w w' w'' : World} {L B L' B' g n i : Nat} {rs : List Ru}
theorem MkStep.tch (h : MkStep L B w w') : Tch L B w w' := ⟨h.os, h.tape, h.output, h.size, h.out⟩
theorem RowRu.cells (h : RowRu w g n) (hi : i < n * 4) : ∃ v, w.cell? ⟨g, i, none⟩ = some v := by
  obtain ⟨cs, h1, h2⟩ := h
  rw [cell_of_row _ _ _ _ _ _ h1]
  exact ⟨_, Array.getElem?_eq_getElem (by omega)⟩
theorem RowRu.frozen (h : RowRu w g n) (i : Nat) : w.frozen? ⟨g, i, none⟩ = false := by
  obtain ⟨cs, h1, h2⟩ := h
  exact blk_frozen h1 i
theorem RowRu.lt (h : RowRu w g n) : g < w.heap.size := by
  obtain ⟨cs, h1, h2⟩ := h
  exact blk_lt h1
theorem SkR.next (h : SkR w L B rs g n) (hB : B ≤ w.heap.size) (hb : Below w.heap.size w w') : SkR w' L B rs g n := by
  obtain ⟨⟨cs, h3, h4⟩, h5⟩ := h
  have hgl := blk_lt h3
  refine ⟨⟨cs, (hb.block g hgl).trans h3, h4⟩, fun i t k s ks hg => ?_⟩
  obtain ⟨a, m, c, h6, h7⟩ := h5 i t k s ks hg
  exact ⟨a, m, c, (hb.cell (p := ⟨g, i * 4 + 3, none⟩) hgl).trans h6, h7.below (hb.mono hB)⟩
/-- a cell of the row that is no slice is written to -/
theorem SkR.set (h : SkR w L B rs g n) (hgL : g < L) (hi : i % 4 ≠ 3) (v : Value) : SkR (w.setCell ⟨g, i, none⟩ v) L B rs g n := by
  obtain ⟨⟨cs, h3, h4⟩, h5⟩ := h
  refine ⟨⟨_, blk_set h3 i v, by simpa using h4⟩, fun i' t k s ks hg => ?_⟩
  obtain ⟨a, m, c, h6, h7⟩ := h5 i' t k s ks hg
  exact ⟨a, m, c, (World.cell?_setCell_other w _ _ _ (by simp <;> omega)).trans h6, h7.setCell (.inl hgL) _ _⟩
/-- operands are marked -/
theorem SkR.step (h : SkR w L B rs g n) (hgL : g < L) (hs : MkStep L B w w') : SkR w' L B rs g n := by
  obtain ⟨⟨cs, h3, h4⟩, h5⟩ := h
  have hgl := blk_lt h3
  have hb := hs.out g hgl (.inl hgL)
  refine ⟨⟨cs, hb.trans h3, h4⟩, fun i t k s ks hg => ?_⟩
  obtain ⟨a, m, c, h6, h7⟩ := h5 i t k s ks hg
  exact ⟨a, m, c, (show w'.cell? ⟨g, i * 4 + 3, none⟩ = w.cell? ⟨g, i * 4 + 3, none⟩ from World.cell?_of_block hb).trans h6, h7.step hs⟩
end
/-- how many marks the rules take -/
def ruMk : List Ru → Nat
  | [] => 0
  | x :: r => 3 + 2 * x.2.2.2.size + ruMk r
theorem ruMk_drop {rs : List Ru} {j : Nat} {x : Ru} (h : rs[j]? = some x) : ruMk (rs.drop j) = 3 + 2 * x.2.2.2.size + ruMk (rs.drop (j + 1)) := by
  obtain ⟨hl, rfl⟩ := List.getElem?_eq_some_iff.1 h
  rw [List.drop_eq_getElem_cons hl]
  rfl
theorem ruMk_le (rs : List Ru) : ruMk rs ≤ 3 * rs.length + 2 * ruTot rs := by
  induction rs with
  | nil => simp [ruMk]
  | cons x r ih =>
    have := x.2.2.2.size_le
    simp only [ruMk, ruTot, ruSz, List.length_cons]
    omega

set_option maxRecDepth 100000 in
set_option maxHeartbeats 2000000 in
theorem markFw_any (g n c k : Nat) (fs : List Fl) (w : World) (hr : OwnF w 83 g fs) (hn : n = fs.length) (hn2 : n ≤ 1048576) (h1 : 1 ≤ k) (hb : k + 2 * n ≤ 8388600) :
    Calls Tryz.prog 32 #[.slice (some ⟨g, 0, none⟩) n c, .int .i64 k] w fun e w' => e = .returned (.int .i64 (k + 2 * n : Nat)) ∧ Tch g (g + 1) w w' := by
  have hR : ∃ cs : Array Value, w.heap[g]? = some (.cells cs 83 (0, 0)) ∧ cs.size = n * 2 := ⟨_, hr, by rw [List.size_toArray, fcells_length]; omega⟩
  clear hr hn
  go_enter Tryz.func32, Tryz.ntmps32
  go_wp2_with fail
  go_loopw [1, 5] (fun x i wr => ∃ j : Nat, j ≤ n ∧ i = .int .i64 j ∧ x = .int .i64 (k + 2 * j : Nat) ∧ (∃ cs : Array Value, wr.heap[g]? = some (.cells cs 83 (0, 0)) ∧ cs.size = n * 2) ∧ Tch g (g + 1) w wr) (fun _ i _ => n - (intOf i).toNat)
  case atStart => exact ⟨0, Nat.zero_le _, rfl, by simp, hR, Tch.refl _ _ _⟩
  case round =>
    obtain ⟨j, hj, rfl, rfl, ⟨cs, hblk, hcs⟩, hT⟩ := hrel
    by_cases hlt : j < n
    · have hgl := blk_lt hblk
      have Hb := Lib.hid hblk
      clear hblk
      go_wp2_with fail
      refine (markText_any (k + 2 * j) _ (by omega) (by omega)).mono ?_
      rintro e w1 ⟨rfl, hB1⟩
      have hb1 := (hB1.block g hgl).trans Hb.out
      have hc1 : w1.cell? ⟨g, j * 2, none⟩ = some (cs[j * 2]'(by omega)) := by rw [cell_of_row _ _ _ _ _ _ hb1]; simp
      generalize cs[j * 2]'(by omega) = v0 at hc1
      have hf1 := blk_frozen hb1 (j * 2)
      have hT1 := (hT.trans (Tch.of hB1)).trans (Tch.set (i := j * 2) (Nat.le_refl g) (Nat.lt_succ_self g) (.string (mkS (k + 2 * j))))
      have Hb1 := Lib.hid (blk_set hb1 (j * 2) (.string (mkS (k + 2 * j))))
      have Hl1 := Lib.hid (show g < (w1.setCell ⟨g, j * 2, none⟩ (.string (mkS (k + 2 * j)))).heap.size from blk_lt Hb1.out)
      clear hb1 hT
      go_wp2_with fail
      refine (markText_at (k + 2 * j + 1) _ (by omega) (by omega) (by omega)).mono ?_
      rintro e w2 ⟨rfl, hB2⟩
      have hb2 := (hB2.block g Hl1.out).trans Hb1.out
      have hc2 : w2.cell? ⟨g, j * 2 + 1, none⟩ = some ((cs.setIfInBounds (j * 2) (.string (mkS (k + 2 * j))))[j * 2 + 1]'(by simp; omega)) := by rw [cell_of_row _ _ _ _ _ _ hb2]; exact Array.getElem?_eq_getElem _
      generalize (cs.setIfInBounds (j * 2) (.string (mkS (k + 2 * j))))[j * 2 + 1]'(by simp; omega) = v1 at hc2
      have hf2 := blk_frozen hb2 (j * 2 + 1)
      have hT2 := (hT1.trans (Tch.of hB2)).trans (Tch.set (i := j * 2 + 1) (Nat.le_refl g) (Nat.lt_succ_self g) (.string (mkS (k + 2 * j + 1))))
      have Hb2 := Lib.hid (blk_set hb2 (j * 2 + 1) (.string (mkS (k + 2 * j + 1))))
      clear hb2
      go_wp2_with fail
      exact ⟨⟨j + 1, by omega, by go_num, by go_num, ⟨_, Hb2.out, by simp [hcs]⟩, hT2⟩, by simp [intOf]; omega⟩
    · have e : j = n := by omega
      have Hr : Hid (((k + 2 * j : Nat) : Int) = ((k + 2 * n : Nat) : Int)) := Lib.hid (by rw [e])
      clear e
      go_wp2_with fail
      go_ret
      exact ⟨ret_int Hr.out, hT⟩

set_option maxRecDepth 100000 in
set_option maxHeartbeats 4000000 in
theorem markRw_any (g n c k L B : Nat) (rs : List Ru) (w : World) (hk : SkR w L B rs g n) (hnl : rs.length = n) (hgL : g < L) (hLB : L ≤ B) (hB : B ≤ w.heap.size) (hn : n ≤ 1048576) (h1 : 1 ≤ k) (hb : k + ruMk rs ≤ 8388600) (hz : rs.length + ruTot rs ≤ 1048576) :
    Calls Tryz.prog 33 #[.slice (some ⟨g, 0, none⟩) n c, .int .i64 k] w fun e w' => e = .returned (.int .i64 (k + ruMk rs : Nat)) ∧ Tch g B w w' := by
  go_enter Tryz.func33, Tryz.ntmps33
  go_wp2_with fail
  go_loopw [1, 5] (fun x i wr => ∃ (j m : Nat), j ≤ n ∧ i = .int .i64 j ∧ x = .int .i64 m ∧ m + ruMk (rs.drop j) = k + ruMk rs ∧ 1 ≤ m ∧ SkR wr L B rs g n ∧ Tch g B w wr) (fun _ i _ => n - (intOf i).toNat)
  case atStart => exact ⟨0, k, Nat.zero_le _, rfl, rfl, by rw [List.drop_zero], h1, hk, Tch.refl _ _ _⟩
  case round =>
    obtain ⟨j, m, hj, rfl, rfl, hm, hm1, hst, hT⟩ := hrel
    have hwr : B ≤ wr.heap.size := Nat.le_trans hB hT.size
    by_cases hlt : j < n
    · obtain ⟨⟨t, kk, s, ks⟩, hg⟩ : ∃ x, rs[j]? = some x := ⟨_, List.getElem?_eq_getElem (by omega)⟩
      have hdr := ruMk_drop hg
      simp only at hdr
      have htk := ruTot_get hg
      simp only [ruSz] at htk
      have hkz := ks.size_le
      have hmm : m + 3 + 2 * ks.size ≤ 8388600 := by omega
      obtain ⟨v0, hv0⟩ := hst.1.cells (i := j * 4) (by omega)
      have hf0 := hst.1.frozen (j * 4)
      have Hst := Lib.hid hst
      have Hg := Lib.hid hg
      clear hst hg hk
      go_wp2_with fail
      refine (markText_at m _ (by omega) (by omega) (by omega)).mono ?_
      rintro e w1 ⟨rfl, hB1⟩
      have hs1 := Hst.out.next hwr hB1
      have hT1 := hT.trans (Tch.of hB1)
      have hw1 := hB1.size
      obtain ⟨v1, hv1⟩ := hs1.1.cells (i := j * 4) (by omega)
      have hf1 := hs1.1.frozen (j * 4)
      have hs2 := hs1.set hgL (i := j * 4) (by omega) (.string (mkS m))
      have hT2 := hT1.trans (Tch.set (L := g) (B := B) (i := j * 4) (Nat.le_refl g) (by omega) (.string (mkS m)))
      obtain ⟨v2, hv2⟩ := hs2.1.cells (i := j * 4 + 1) (by omega)
      have hf2 := hs2.1.frozen (j * 4 + 1)
      have hs3 := hs2.set hgL (i := j * 4 + 1) (by omega) (.int .i64 ((m : Int) + 1))
      have hT3 := hT2.trans (Tch.set (L := g) (B := B) (i := j * 4 + 1) (Nat.le_refl g) (by omega) (.int .i64 ((m : Int) + 1)))
      have Hs3 := Lib.hid hs3
      clear hs1 hs2 hs3 hT1 hT2
      go_wp2_with fail
      refine (markText_at (m + 2) _ (by omega) (by omega) (by omega)).mono ?_
      rintro e w2 ⟨rfl, hB2⟩
      have hs4 := Hs3.out.next (by have := hT3.size; omega) hB2
      have hT4 := hT3.trans (Tch.of hB2)
      obtain ⟨v3, hv3⟩ := hs4.1.cells (i := j * 4 + 2) (by omega)
      have hf3 := hs4.1.frozen (j * 4 + 2)
      have hs5 := hs4.set hgL (i := j * 4 + 2) (by omega) (.string (mkS (m + 2)))
      have hT5 := hT4.trans (Tch.set (L := g) (B := B) (i := j * 4 + 2) (Nat.le_refl g) (by omega) (.string (mkS (m + 2))))
      obtain ⟨a', n', c', hc3, hka⟩ := hs5.2 j t kk s ks Hg.out
      have hw5 := hT5.size
      have Hs5 := Lib.hid hs5
      have hkl := hka.1
      have hls := ks.len_size
      clear hs4 hs5 hT3 hT4
      go_wp2_with fail
      rw [show ((m : Int) + 1 + 1 + 1) = ((m + 3 : Nat) : Int) by omega]
      refine (mk_all ks.size ks (Nat.le_refl _) a' n' c' (m + 3) L B _ hka (by omega) (by omega) (by omega) (by unfold maxLen; omega)).mono ?_
      rintro e w4 ⟨rfl, hs6⟩
      have Hs6 := Lib.hid (Hs5.out.step hgL hs6)
      have hT6 := hT5.trans (hs6.tch.more (Nat.le_of_lt hgL) (Nat.le_refl B))
      go_wp2_with fail
      exact ⟨⟨j + 1, m + 3 + 2 * ks.size, by omega, by go_num, by go_num, by omega, by omega, Hs6.out, hT6⟩, by simp [intOf]; omega⟩
    · have e : j = n := by omega
      have hd0 : rs.drop j = [] := List.drop_eq_nil_of_le (by omega)
      rw [hd0] at hm
      have Hr : Hid ((m : Int) = ((k + ruMk rs : Nat) : Int)) := Lib.hid (by simp only [ruMk] at hm; omega)
      have hge : ¬ ((j : Int) < (n : Int)) := by omega
      clear e
      go_wp2_with fail
      go_ret
      exact ⟨ret_int Hr.out, hT⟩

set_option maxHeartbeats 1000000 in
/-- markProject: the rows of the project and those below are written to, nothing else -/
theorem markP_any (g1 g2 c1 c2 k B : Nat) (fs : List Fl) (rs : List Ru) (w : World) (hf : OwnF w 83 g1 fs) (hr : SkR w (g2 + 1) B rs g2 rs.length) (h12 : g1 < g2) (hgB : g2 < B) (hB : B ≤ w.heap.size) (hz : fs.length + tot fs + (rs.length + ruTot rs) ≤ 1048576) (h1 : 1 ≤ k) (hk : k ≤ 16) :
    Calls Tryz.prog 12 #[.agg #[.slice (some ⟨g1, 0, none⟩) fs.length c1, .slice (some ⟨g2, 0, none⟩) rs.length c2], .int .i64 k] w fun e w' => e = .returned (.int .i64 (k + 2 * fs.length + ruMk rs : Nat)) ∧ Tch g1 B w w' := by
  have hml := ruMk_le rs
  have B0 := (Below.refl w.heap.size w).alloc (Nat.le_refl _) (.cells #[.slice (some ⟨g1, 0, none⟩) fs.length c1, .slice (some ⟨g2, 0, none⟩) rs.length c2] 36)
  have hbx := BxP.new w (.slice (some ⟨g1, 0, none⟩) fs.length c1) (.slice (some ⟨g2, 0, none⟩) rs.length c2) 36
  have hf0 : OwnF (w.alloc (.cells #[.slice (some ⟨g1, 0, none⟩) fs.length c1, .slice (some ⟨g2, 0, none⟩) rs.length c2] 36)) 83 g1 fs := (B0.block g1 hf.lt).trans hf
  have hr0 := hr.next hB B0
  go_enter Tryz.func12, Tryz.ntmps12
  go_wp2_with fail
  refine (markFw_any g1 _ c1 k fs _ hf0 rfl (by omega) h1 (by omega)).mono ?_
  rintro e w1 ⟨rfl, hT1⟩
  have hsz1 := hT1.size
  have hw0 : (w.alloc (.cells #[.slice (some ⟨g1, 0, none⟩) fs.length c1, .slice (some ⟨g2, 0, none⟩) rs.length c2] 36)).heap.size = w.heap.size + 1 := by simp
  have hbx1 : BxP w1 w.heap.size (.slice (some ⟨g1, 0, none⟩) fs.length c1) (.slice (some ⟨g2, 0, none⟩) rs.length c2) 36 := (hT1.out w.heap.size (by omega) (.inr (by omega))).trans hbx
  have hr1 : SkR w1 (g2 + 1) B rs g2 rs.length := by
    obtain ⟨⟨cs, h3, h4⟩, h5⟩ := hr0
    have hb := hT1.out g2 (by omega) (.inr (by omega))
    refine ⟨⟨cs, hb.trans h3, h4⟩, fun i t k s ks hg => ?_⟩
    obtain ⟨a, m, c, h6, h7⟩ := h5 i t k s ks hg
    exact ⟨a, m, c, (show w1.cell? ⟨g2, i * 4 + 3, none⟩ = _ from World.cell?_of_block hb).trans h6, h7.keep (Nat.le_refl _) (Nat.le_refl _) fun g h8 h9 => hT1.out g (by omega) (.inr (by omega))⟩
  obtain ⟨p0, p1, pf0, pf1, hpl⟩ := hbx1.facts
  clear hbx hf0 hr0
  go_wp2_with fail
  refine (markRw_any g2 _ c2 (k + 2 * fs.length) (g2 + 1) B rs w1 hr1 rfl (Nat.lt_succ_self _) hgB (by omega) (by omega) (by omega) (by omega) (by omega)).mono ?_
  rintro e w2 ⟨rfl, hT2⟩
  have hT := ((Tch.of (L := g1) (B := B) B0).trans (hT1.more (Nat.le_refl _) (by omega))).trans (hT2.more (Nat.le_of_lt h12) (Nat.le_refl _))
  go_wp2_with fail
  go_ret
  exact ⟨rfl, hT⟩
end Go.Proofs.YtmmjeokmoffdpaaGreat
