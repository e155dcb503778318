/-
  The law's helpers markRuleS and heldRuleS over rules whose rows share no block, walked.
-/
import Derived.Test.YtmmjeokmoffdpaaGreatQBkR
namespace Go.Proofs.YtmmjeokmoffdpaaGreat
set_option linter.unusedVariables false
set_option linter.unusedSimpArgs false
open Go.RowKit

set_option maxRecDepth 100000 in
set_option maxHeartbeats 4000000 in
theorem markRQ_any (bs : List (Nat × Fo)) (a : Option Addr) (g n c m : Nat) (w : World) (hk : SepRA w bs g a n) (hnd : (rblksA g bs).Nodup) (h1 : 1 ≤ m) (hb : m + bsz bs ≤ 8388600) (hn : n ≤ 1048576) :
    Calls Tryz.prog 33 #[.slice a n c, .int .i64 m] w fun e w' => e = .returned (.int .i64 (m + bsz bs : Nat)) ∧ MkdRA w' bs g a n m ∧ TchL (rblksA g bs) w w' := by
  obtain rfl : bs.length = n := hk.1
  by_cases h0 : bs.length = 0
  · obtain rfl : bs = [] := List.eq_nil_of_length_eq_zero h0
    have Hk := Lib.hid (show MkdRA w [] g a 0 m from ⟨rfl, fun h => absurd h (by omega)⟩)
    simp only [List.length_nil]
    go_enter Tryz.func33, Tryz.ntmps33
    go_wp2_with fail
    go_loopw [1, 5] (fun x i wr => x = .int .i64 m ∧ i = .int .i64 0 ∧ wr = w) (fun _ _ _ => 0)
    case atStart => exact ⟨rfl, rfl, rfl⟩
    case round =>
      obtain ⟨rfl, rfl, rfl⟩ := hrel
      go_wp2_with fail
      go_ret
      exact ⟨rfl, Hk.out, TchL.refl _ _⟩
  · have hpos : 0 < bs.length := by omega
    obtain ⟨rfl, hrow, hsep⟩ := hk.2 hpos
    have hgA : rblksA g bs = g :: rblks bs := by unfold rblksA; rw [if_neg h0]
    have hnd' := hnd
    rw [hgA] at hnd'
    obtain ⟨hgn, hndb⟩ := List.nodup_cons.1 hnd'
    have Hst := Lib.hid (show MrI w bs g bs.length m 0 w from ⟨fun i _ hi => absurd hi (by omega), fun i x _ hg => hsep i x hg, hrow, TchL.refl _ _⟩)
    clear hk hnd hnd' hrow hsep
    go_enter Tryz.func33, Tryz.ntmps33
    go_wp2_with fail
    go_loopw [1, 5] (fun x i wr => ∃ (j m' : Nat), j ≤ bs.length ∧ i = .int .i64 j ∧ x = .int .i64 m' ∧ m' = m + bsz (bs.take j) ∧ MrI w bs g bs.length m j wr) (fun _ i _ => bs.length - (intOf i).toNat)
    case atStart => exact ⟨0, m, Nat.zero_le _, rfl, rfl, by simp [bsz], Hst.out⟩
    case round =>
      obtain ⟨j, m', hj, rfl, rfl, hm, hst⟩ := hrel
      have hle := bsz_le bs j
      have hm1 : 1 ≤ m' := by omega
      by_cases hlt : j < bs.length
      · obtain ⟨⟨kg, ks⟩, hgt⟩ : ∃ x, bs[j]? = some x := ⟨_, List.getElem?_eq_getElem hlt⟩
        have hds := bsz_take hgt
        have hle2 := bsz_le bs (j + 1)
        simp only at hds
        obtain ⟨v0, hv0⟩ := hst.2.2.1.cells (i := j * 4) (by omega)
        have hf0 := hst.2.2.1.frozen (j * 4)
        have hlw0 := hst.2.2.1.lt
        have Hst0 := Lib.hid hst
        have Hg := Lib.hid hgt
        have hmb : m' + 3 + 2 * ks.size ≤ 8388600 := by omega
        have Hm := Lib.hid (And.intro hm hds)
        clear hst hgt hm hds hle hle2
        go_wp2_with fail
        refine (markText_at m' _ (by omega) (by omega) (by omega)).mono ?_
        rintro e w1 ⟨rfl, hB1⟩
        have hs1 := mrI_below Hst0.out hB1
        obtain ⟨u0, hu0⟩ := hs1.2.2.1.cells (i := j * 4) (by omega)
        have hg0 := hs1.2.2.1.frozen (j * 4)
        have hs2 := mrI_set hs1 hgn hpos (j := j) (p := j * 4) (.inl rfl) (.string (mkS m'))
        have hx0 := hs1.2.2.1.setSame (i := j * 4) (by omega) (.string (mkS m'))
        obtain ⟨u1, hu1⟩ := hs2.2.2.1.cells (i := j * 4 + 1) (by omega)
        have hg1 := hs2.2.2.1.frozen (j * 4 + 1)
        have hs3 := mrI_set hs2 hgn hpos (j := j) (p := j * 4 + 1) (.inr (.inl rfl)) (.int .i64 ((m' : Int) + 1))
        have hx1 := hs2.2.2.1.setSame (i := j * 4 + 1) (by omega) (.int .i64 ((m' : Int) + 1))
        have hy0 := (World.cell?_setCell_other (w1.setCell ⟨g, j * 4, none⟩ (.string (mkS m'))) ⟨g, j * 4 + 1, none⟩ ⟨g, j * 4, none⟩ (.int .i64 ((m' : Int) + 1)) (by intro e; injection e with _ e2; omega)).trans hx0
        have hlw := hs3.2.2.1.lt
        have Hst := Lib.hid (And.intro hs3 (And.intro hy0 hx1))
        clear hs1 hs2 hs3 hx0 hx1 hy0 hB1
        go_wp2_with fail
        refine (markText_at (m' + 2) _ (by omega) (by omega) (by omega)).mono ?_
        rintro e w2 ⟨rfl, hB2⟩
        have hs4 := mrI_below Hst.out.1 hB2
        have hx0 := (hB2.cell (p := ⟨g, j * 4, none⟩) hlw).trans Hst.out.2.1
        have hx1 := (hB2.cell (p := ⟨g, j * 4 + 1, none⟩) hlw).trans Hst.out.2.2
        obtain ⟨u2, hu2⟩ := hs4.2.2.1.cells (i := j * 4 + 2) (by omega)
        have hg2 := hs4.2.2.1.frozen (j * 4 + 2)
        have hs5 := mrI_set hs4 hgn hpos (j := j) (p := j * 4 + 2) (.inr (.inr rfl)) (.string (mkS (m' + 2)))
        have hx2 := hs4.2.2.1.setSame (i := j * 4 + 2) (by omega) (.string (mkS (m' + 2)))
        have hy0 := (World.cell?_setCell_other w2 ⟨g, j * 4 + 2, none⟩ ⟨g, j * 4, none⟩ (.string (mkS (m' + 2))) (by intro e; injection e with _ e2; omega)).trans hx0
        have hy1 := (World.cell?_setCell_other w2 ⟨g, j * 4 + 2, none⟩ ⟨g, j * 4 + 1, none⟩ (.string (mkS (m' + 2))) (by intro e; injection e with _ e2; omega)).trans hx1
        rw [show ((m' : Int) + 1) = ((m' + 1 : Nat) : Int) by omega] at hy1
        obtain ⟨a', c', hc3, hka⟩ := hs5.2.1 j (kg, ks) (Nat.le_refl _) Hg.out
        have hndk := rblks_nodup hndb Hg.out
        have hls := ks.len_size
        have Hs5 := Lib.hid (And.intro hs5 (And.intro hy0 (And.intro hy1 hx2)))
        simp only at hc3 hka hndk
        clear hs4 hs5 hx0 hx1 hx2 hy0 hy1 hlw hlw0 hu0 hu1 hg0 hg1 hv0 hf0
        go_wp2_with fail
        rw [show ((m' : Int) + 1 + 1 + 1) = ((m' + 3 : Nat) : Int) by omega]
        refine (ms_all ks.size ks (Nat.le_refl _) a' kg ks.len c' (m' + 3) _ hka hndk (by omega) (by omega) (by unfold maxLen; omega)).mono ?_
        rintro e w4 ⟨rfl, hmk, hT⟩
        have Hs6 := Lib.hid (mrI_step Hs5.out.1 hgn hndb hpos Hg.out (m' := m') Hm.out.1 Hs5.out.2.1 Hs5.out.2.2.1 Hs5.out.2.2.2 hc3 hmk hT)
        clear hka hT hmk
        go_wp2_with fail
        exact ⟨⟨j + 1, m' + 3 + 2 * ks.size, by omega, by go_num, by go_num, by rw [Hm.out.2, Hm.out.1]; omega, Hs6.out⟩, by simp [intOf]; omega⟩
      · have e0 : j = bs.length := by omega
        have htk : bs.take j = bs := List.take_of_length_le (by omega)
        rw [htk] at hm
        have Hr : Hid ((m' : Int) = ((m + bsz bs : Nat) : Int)) := Lib.hid (by omega)
        have Hst := Lib.hid hst
        clear hst hm
        go_wp2_with fail
        go_ret
        exact ⟨ret_int Hr.out, ⟨rfl, fun _ => ⟨rfl, Hst.out.2.2.1, fun i x hg => Hst.out.1 i x (by have := (List.getElem?_eq_some_iff.1 hg).1; omega) hg⟩⟩, hgA ▸ Hst.out.2.2.2⟩

set_option maxRecDepth 100000 in
set_option maxHeartbeats 4000000 in
theorem heldRQ_any (bs : List (Nat × Fo)) (a : Option Addr) (g n c m : Nat) (w : World) (hk : MkdRA w bs g a n m) (h1 : 1 ≤ m) (hb : m + bsz bs ≤ 8388600) (hn : n ≤ 1048576) :
    Calls Tryz.prog 36 #[.slice a n c, .int .i64 m] w fun e w' => e = .returned (.int .i64 (m + bsz bs : Nat)) ∧ Below w.heap.size w w' := by
  obtain rfl : bs.length = n := hk.1
  have Hk := Lib.hid hk
  clear hk
  go_enter Tryz.func36, Tryz.ntmps36
  go_wp2_with fail
  go_loopw [1, 5] (fun x i wr => ∃ (j m' : Nat), j ≤ bs.length ∧ i = .int .i64 j ∧ x = .int .i64 m' ∧ m' = m + bsz (bs.take j) ∧ Below w.heap.size w wr) (fun _ i _ => bs.length - (intOf i).toNat)
  case atStart => exact ⟨0, m, Nat.zero_le _, rfl, rfl, by simp [bsz], Below.refl _ _⟩
  case round =>
    obtain ⟨j, m', hj, rfl, rfl, hm, hB⟩ := hrel
    have hle := bsz_le bs j
    have hm1 : 1 ≤ m' := by omega
    by_cases hlt : j < bs.length
    · obtain ⟨⟨kg, ks⟩, hgt⟩ : ∃ x, bs[j]? = some x := ⟨_, List.getElem?_eq_getElem hlt⟩
      have hds := bsz_take hgt
      have hle2 := bsz_le bs (j + 1)
      simp only at hds
      have hmb : m' + 3 + 2 * ks.size ≤ 8388600 := by omega
      obtain ⟨rfl, hrow, hall⟩ := Hk.out.2 (by omega)
      have hgl := hrow.lt
      have hN := hall j (kg, ks) hgt
      rw [← hm] at hN
      obtain ⟨hc0, hc1, hc2, a', c', hc3, hka⟩ := hN
      have Hm := Lib.hid (And.intro hm hds)
      have hd0 : ((mkS m').toList == (mkS m').toList) = true := by simp
      have hd1 : ((mkS (m' + 2)).toList == (mkS (m' + 2)).toList) = true := by simp
      have hj0 : (0 : Int) ≤ (j : Int) := by omega
      have hjj : (j : Int) < (bs.length : Int) := by omega
      have hx0 := (hB.cell (p := ⟨g, j * 4, none⟩) hgl).trans hc0
      have hx1 := (hB.cell (p := ⟨g, j * 4 + 1, none⟩) hgl).trans hc1
      have hx2 := (hB.cell (p := ⟨g, j * 4 + 2, none⟩) hgl).trans hc2
      have hx3 := (hB.cell (p := ⟨g, j * 4 + 3, none⟩) hgl).trans hc3
      have Hka := Lib.hid hka
      simp only at hx3
      clear hrow hall hka hc0 hc1 hc2 hc3 hgt hm hds hle hle2
      go_wp2_with fail
      have hbw : g < wr.heap.size := by have := hB.size; omega
      go_region_held3 (fun w' => w'.cell? ⟨g, j * 4, none⟩ = some (.string (mkS m'))) (first | go_keep | exact (hB1.cell (p := ⟨g, j * 4, none⟩) hbw).trans hx0) ((go_at_call 51; refine (markText_at m' _ (by omega) (by omega) (by omega)).mono ?_; rintro e w1 ⟨rfl, hB1⟩))
      have B1 := hB.drew.trans (hB1.mono hB.size)
      have hy1 := (hB1.cell (p := ⟨g, j * 4 + 1, none⟩) hbw).trans hx1
      have hy2 := (hB1.cell (p := ⟨g, j * 4 + 2, none⟩) hbw).trans hx2
      have hy3 := (hB1.cell (p := ⟨g, j * 4 + 3, none⟩) hbw).trans hx3
      have hbw1 : g < w1.heap.size := by have := B1.size; omega
      rw [show ((m' + 1 : Nat) : Int) = ((m' : Int) + 1) by omega] at hy1
      clear hx0 hx1 hx2 hx3 hB1
      go_wp2_with fail
      go_region_held3 (fun w' => w'.cell? ⟨g, j * 4 + 2, none⟩ = some (.string (mkS (m' + 2)))) (first | go_keep | exact (hB2.cell (p := ⟨g, j * 4 + 2, none⟩) hbw1).trans hy2) ((go_at_call 51; refine (markText_at (m' + 2) _ (by omega) (by omega) (by omega)).mono ?_; rintro e w2 ⟨rfl, hB2⟩))
      have B2 := B1.drew.trans (hB2.mono B1.size)
      have hz3 := (hB2.cell (p := ⟨g, j * 4 + 3, none⟩) hbw1).trans hy3
      have hka1 := Hka.out.keep (w' := w2) fun x _ hx => B2.block x hx
      have hls := ks.len_size
      clear hy1 hy2 hy3 hB2
      go_wp2_with fail
      rw [show ((m' : Int) + 1 + 1 + 1) = ((m' + 3 : Nat) : Int) by omega]
      refine (he_all ks.size ks (Nat.le_refl _) a' kg ks.len c' (m' + 3) _ hka1 (by omega) (by omega) (by unfold maxLen; omega)).mono ?_
      rintro e w4 ⟨rfl, hB4⟩
      have B4 := B2.trans (hB4.mono B2.size)
      have hnn : ¬ (((m' + 3 + 2 * ks.size : Nat) : Int) < 0) := by omega
      clear hka1 hB4
      go_wp2_with fail
      exact ⟨⟨j + 1, m' + 3 + 2 * ks.size, by omega, by go_num, by go_num, by rw [Hm.out.2, Hm.out.1]; omega, B4⟩, by simp [intOf]; omega⟩
    · have e0 : j = bs.length := by omega
      have htk : bs.take j = bs := List.take_of_length_le (by omega)
      rw [htk] at hm
      have Hr : Hid ((m' : Int) = ((m + bsz bs : Nat) : Int)) := Lib.hid (by omega)
      have hge : ¬ ((j : Int) < (bs.length : Int)) := by omega
      clear hm
      go_wp2_with fail
      go_ret
      exact ⟨ret_int Hr.out, hB⟩
end Go.Proofs.YtmmjeokmoffdpaaGreat
