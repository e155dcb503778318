/-
  The law's helper markEntryS: where it writes.
-/
import Derived.Test.YtaiijnepeccllaaGreatGone
import Derived.Test.YtaiijnepeccllaaGreatQEnN
namespace Go.Proofs.YtaiijnepeccllaaGreat
set_option linter.unusedVariables false
set_option linter.unusedSimpArgs false
open Go.RowKit

set_option maxRecDepth 100000 in
set_option maxHeartbeats 2000000 in
theorem markFr_any (g n c k : Nat) (w : World) (hR : RowF w g n) (hn2 : n ≤ 1048576) (h1 : 1 ≤ k) (hb : k + 2 * n ≤ 8388600) :
    Calls Tryz.prog 29 #[.slice (some ⟨g, 0, none⟩) n c, .int .i64 k] w fun e w' => e = .returned (.int .i64 (k + 2 * n : Nat)) ∧ RowF w' g n ∧ Tch g (g + 1) w w' := by
  go_enter Tryz.func29, Tryz.ntmps29
  go_wp2_with fail
  go_loopw [1, 5] (fun x i wr => ∃ j : Nat, j ≤ n ∧ i = .int .i64 j ∧ x = .int .i64 (k + 2 * j : Nat) ∧ (∃ cs : Array Value, wr.heap[g]? = some (.cells cs 62 (0, 0)) ∧ cs.size = n * 2) ∧ Tch g (g + 1) w wr) (fun _ i _ => n - (intOf i).toNat)
  case atStart => exact ⟨0, Nat.zero_le _, rfl, by simp, hR, Tch.refl _ _ _⟩
  case round =>
    obtain ⟨j, hj, rfl, rfl, ⟨cs, hblk, hcs⟩, hT⟩ := hrel
    by_cases hlt : j < n
    · have hgl := blk_lt hblk
      have Hb := Lib.hid hblk
      clear hblk
      go_wp2_with fail
      refine (markText_any (k + 2 * j) _ (by omega) (by omega)).mono ?_
      rintro e w1 ⟨rfl, hB1⟩
      have hb1 := (hB1.block g hgl).trans Hb.out
      have hc1 : w1.cell? ⟨g, j * 2, none⟩ = some (cs[j * 2]'(by omega)) := by rw [cell_of_row _ _ _ _ _ _ hb1]; simp
      generalize cs[j * 2]'(by omega) = v0 at hc1
      have hf1 := blk_frozen hb1 (j * 2)
      have hT1 := (hT.trans (Tch.of hB1)).trans (Tch.set (i := j * 2) (Nat.le_refl g) (Nat.lt_succ_self g) (.string (mkS (k + 2 * j))))
      have Hb1 := Lib.hid (blk_set hb1 (j * 2) (.string (mkS (k + 2 * j))))
      have Hl1 := Lib.hid (show g < (w1.setCell ⟨g, j * 2, none⟩ (.string (mkS (k + 2 * j)))).heap.size from blk_lt Hb1.out)
      clear hb1 hT
      go_wp2_with fail
      refine (markText_at (k + 2 * j + 1) _ (by omega) (by omega) (by omega)).mono ?_
      rintro e w2 ⟨rfl, hB2⟩
      have hb2 := (hB2.block g Hl1.out).trans Hb1.out
      have hc2 : w2.cell? ⟨g, j * 2 + 1, none⟩ = some ((cs.setIfInBounds (j * 2) (.string (mkS (k + 2 * j))))[j * 2 + 1]'(by simp; omega)) := by rw [cell_of_row _ _ _ _ _ _ hb2]; exact Array.getElem?_eq_getElem _
      generalize (cs.setIfInBounds (j * 2) (.string (mkS (k + 2 * j))))[j * 2 + 1]'(by simp; omega) = v1 at hc2
      have hf2 := blk_frozen hb2 (j * 2 + 1)
      have hT2 := (hT1.trans (Tch.of hB2)).trans (Tch.set (i := j * 2 + 1) (Nat.le_refl g) (Nat.lt_succ_self g) (.string (mkS (k + 2 * j + 1))))
      have Hb2 := Lib.hid (blk_set hb2 (j * 2 + 1) (.string (mkS (k + 2 * j + 1))))
      clear hb2
      go_wp2_with fail
      exact ⟨⟨j + 1, by omega, by go_num, by go_num, ⟨_, Hb2.out, by simp [hcs]⟩, hT2⟩, by simp [intOf]; omega⟩
    · have e : j = n := by omega
      have Hr : Hid (((k + 2 * j : Nat) : Int) = ((k + 2 * n : Nat) : Int)) := Lib.hid (by rw [e])
      clear e
      go_wp2_with fail
      go_ret
      exact ⟨ret_int Hr.out, ⟨cs, hblk, hcs⟩, hT⟩

/-- how many marks the entries take -/
def enMk : List En → Nat
  | [] => 0
  | x :: r => 3 + 2 * x.2.2.1.length + enMk r
theorem enMk_drop {es : List En} {j : Nat} {x : En} (h : es[j]? = some x) : enMk (es.drop j) = 3 + 2 * x.2.2.1.length + enMk (es.drop (j + 1)) := by
  obtain ⟨hl, rfl⟩ := List.getElem?_eq_some_iff.1 h
  rw [List.drop_eq_getElem_cons hl]
  rfl
theorem enMk_le (es : List En) : enMk es ≤ 3 * es.length + 2 * enTot es := by
  induction es with
  | nil => simp [enMk]
  | cons x r ih =>
    simp only [enMk, enTot, enSz, List.length_cons]
    omega
/-- a row of reads is marked -/
theorem SkN.step {w w' : World} {L B g n gi m : Nat} {es : List En} (h : SkN w L B es g n) (hgL : g < L) (hL : L ≤ gi) (h1 : RowF w gi m) (h2 : RowF w' gi m) (hT : Tch gi (gi + 1) w w') : SkN w' L B es g n := by
  obtain ⟨⟨cs, h3, h4⟩, h5⟩ := h
  have hb := hT.out g (blk_lt h3) (.inl (by omega))
  refine ⟨⟨cs, hb.trans h3, h4⟩, fun i x hg => ?_⟩
  obtain ⟨gj, h6, h7, h9, h8⟩ := h5 i x hg
  refine ⟨gj, (show w'.cell? ⟨g, i * 4 + 2, none⟩ = w.cell? ⟨g, i * 4 + 2, none⟩ from World.cell?_of_block hb).trans h6, h7, h9, ?_⟩
  by_cases e : gj = gi
  · subst e
    rw [h8.same h1]
    exact h2
  · exact h8.block (hT.out gj h8.lt (by omega))

set_option maxRecDepth 100000 in
set_option maxHeartbeats 4000000 in
theorem markEs_any (g n c k L B : Nat) (es : List En) (w : World) (hk : SkN w L B es g n) (hnl : es.length = n) (hgL : g < L) (hgB : g < B) (hB : B ≤ w.heap.size) (h1 : 1 ≤ k) (hb : k + enMk es ≤ 8388600) (hz : es.length + enTot es ≤ 1048576) :
    Calls Tryz.prog 12 #[.slice (some ⟨g, 0, none⟩) n c, .int .i64 k] w fun e w' => e = .returned (.int .i64 (k + enMk es : Nat)) ∧ Tch g B w w' := by
  go_enter Tryz.func12, Tryz.ntmps12
  go_wp2_with fail
  go_loopw [1, 5] (fun x i wr => ∃ (j m : Nat), j ≤ n ∧ i = .int .i64 j ∧ x = .int .i64 m ∧ m + enMk (es.drop j) = k + enMk es ∧ 1 ≤ m ∧ SkN wr L B es g n ∧ Tch g B w wr) (fun _ i _ => n - (intOf i).toNat)
  case atStart => exact ⟨0, k, Nat.zero_le _, rfl, rfl, by rw [List.drop_zero], h1, hk, Tch.refl _ _ _⟩
  case round =>
    obtain ⟨j, m, hj, rfl, rfl, hm, hm1, hst, hT⟩ := hrel
    have hwr : B ≤ wr.heap.size := Nat.le_trans hB hT.size
    by_cases hlt : j < n
    · obtain ⟨⟨t, s, fs, y⟩, hg⟩ : ∃ x, es[j]? = some x := ⟨_, List.getElem?_eq_getElem (by omega)⟩
      have hdr := enMk_drop hg
      simp only at hdr
      have htk := enTot_get hg
      simp only [enSz] at htk
      have hmm : m + 3 + 2 * fs.length ≤ 8388600 := by omega
      obtain ⟨v0, hv0⟩ := hst.cells (i := j * 4) (by omega)
      have hf0 := hst.frozen (j * 4)
      obtain ⟨gi, hgi, hgiL, hgiB, hgir⟩ := hst.2 j _ hg
      simp only at hgi hgir
      have Hst := Lib.hid hst
      have Hg := Lib.hid hg
      have hgw := hst.lt
      have Hgi := Lib.hid hgi
      clear hst hg hk hgi hgir
      go_wp2_with fail
      refine (markText_at m _ (by omega) (by omega) (by omega)).mono ?_
      rintro e w1 ⟨rfl, hB1⟩
      have hs1 := Hst.out.next hgL hB1
      have hc1 := (hB1.cell (p := ⟨g, j * 4 + 2, none⟩) hgw).trans Hgi.out
      have hT1 := hT.trans (Tch.of hB1)
      have hw1 := hB1.size
      obtain ⟨v1, hv1⟩ := hs1.cells (i := j * 4) (by omega)
      have hf1 := hs1.frozen (j * 4)
      have hs2 := hs1.set hgL (i := j * 4) (by omega) (.string (mkS m))
      have hT2 := hT1.trans (Tch.set (L := g) (B := B) (i := j * 4) (Nat.le_refl g) (by omega) (.string (mkS m)))
      obtain ⟨v2, hv2⟩ := hs2.cells (i := j * 4 + 1) (by omega)
      have hf2 := hs2.frozen (j * 4 + 1)
      have hc2 := (World.cell?_setCell_other w1 ⟨g, j * 4, none⟩ ⟨g, j * 4 + 2, none⟩ (.string (mkS m)) (by simp)).trans hc1
      have Hs2 := Lib.hid hs2
      have Hc2 := Lib.hid hc2
      clear hs1 hs2 hT1 hc1 hc2
      go_wp2_with fail
      refine (markText_at (m + 1) _ (by omega) (by omega) (by omega)).mono ?_
      rintro e w2 ⟨rfl, hB2⟩
      have hgw2 := Hs2.out.lt
      have hs3 := Hs2.out.next hgL hB2
      have hc3 := (hB2.cell (p := ⟨g, j * 4 + 2, none⟩) hgw2).trans Hc2.out
      have hT3 := hT2.trans (Tch.of hB2)
      obtain ⟨v3, hv3⟩ := hs3.cells (i := j * 4 + 1) (by omega)
      have hf3 := hs3.frozen (j * 4 + 1)
      have hs4 := hs3.set hgL (i := j * 4 + 1) (by omega) (.string (mkS (m + 1)))
      have hT4 := hT3.trans (Tch.set (L := g) (B := B) (i := j * 4 + 1) (Nat.le_refl g) (by omega) (.string (mkS (m + 1))))
      have hc4 := (World.cell?_setCell_other w2 ⟨g, j * 4 + 1, none⟩ ⟨g, j * 4 + 2, none⟩ (.string (mkS (m + 1))) (by simp)).trans hc3
      have Hs4 := Lib.hid hs4
      have Hc4 := Lib.hid hc4
      obtain ⟨gi', hgi', _, _, hgr'⟩ := hs4.2 j _ Hg.out
      simp only at hgi' hgr'
      obtain rfl : gi = gi' := by rw [hc4] at hgi'; cases hgi'; rfl
      have Hgr := Lib.hid hgr'
      clear hs3 hs4 hT3 hT2 hc3 hgi' hgr'
      go_wp2_with fail
      rw [show ((m : Int) + 1 + 1) = ((m + 2 : Nat) : Int) by omega]
      refine (markFr_any gi fs.length fs.length (m + 2) _ Hgr.out (by omega) (by omega) (by omega)).mono ?_
      rintro e w3 ⟨rfl, hr3, hT5⟩
      have hs5 := Hs4.out.step hgL hgiL Hgr.out hr3 hT5
      have hT6 := hT4.trans (hT5.more (L' := g) (B' := B) (by omega) (by omega))
      have hgl4 := Hs4.out.lt
      have Hs5 := Lib.hid hs5
      clear hs5 hT5 hT4 hc4 hr3
      go_wp2_with fail
      refine (markText_at (m + 2 + 2 * fs.length) _ (by omega) (by omega) (by omega)).mono ?_
      rintro e w4 ⟨rfl, hB4⟩
      have hgw5 := Hs5.out.lt
      have hs6 := Hs5.out.next hgL hB4
      have hT7 := hT6.trans (Tch.of hB4)
      obtain ⟨v5, hv5⟩ := hs6.cells (i := j * 4 + 3) (by omega)
      have hf5 := hs6.frozen (j * 4 + 3)
      have hs7 := hs6.set hgL (i := j * 4 + 3) (by omega) (.string (mkS (m + 2 + 2 * fs.length)))
      have hT8 := hT7.trans (Tch.set (L := g) (B := B) (i := j * 4 + 3) (Nat.le_refl g) (by omega) (.string (mkS (m + 2 + 2 * fs.length))))
      have Hs7 := Lib.hid hs7
      clear hs6 hs7 hT7 hT6
      go_wp2_with fail
      exact ⟨⟨j + 1, m + 3 + 2 * fs.length, by omega, by go_num, by go_num, by omega, by omega, Hs7.out, hT8⟩, by simp [intOf]; omega⟩
    · have e : j = n := by omega
      have hd0 : es.drop j = [] := List.drop_eq_nil_of_le (by omega)
      rw [hd0] at hm
      have Hr : Hid ((m : Int) = ((k + enMk es : Nat) : Int)) := Lib.hid (by simp only [enMk] at hm; omega)
      have hge : ¬ ((j : Int) < (n : Int)) := by omega
      clear e
      go_wp2_with fail
      go_ret
      exact ⟨ret_int Hr.out, hT⟩
end Go.Proofs.YtaiijnepeccllaaGreat
