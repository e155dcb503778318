/-
  The exact law of ChangedFiles, walked.
-/
import Derived.Test.YtollcckdfehdeaaStrs
import Derived.Test.YtollcckdfehdeaaExactTools
namespace Go.Proofs.Ytollcckdfehdeaa
set_option linter.unusedVariables false
set_option linter.unusedSimpArgs false
open Go.RowKit

theorem chgR_len (fs gs : List Fl) : (chgR fs gs).length ≤ 24 := by
  unfold chgR
  split
  · rename_i h
    have h1 := valid_length h.1
    have h2 := valid_length h.2
    have h3 := chgs_length (allP fs gs 0 0)
    have h4 := prs_length fs gs (fs.length + gs.length - (0 + 0)) 0 0
    unfold allP at h3 ⊢
    omega
  · simp
theorem SvAt.belowD {w w' : World} {D n : Nat} {a : Option Addr} {ss : List ByteArray} (h : SvAt w D a n ss) (hB : Below w.heap.size w w') (hD : D ≤ w.heap.size) : SvAt w' D a n ss := h.below (hB.mono hD)
theorem OwnsS.belowD {w w' : World} {B : Nat} {v : Value} {ss : List ByteArray} (h : OwnsS w B v ss) (hb : Below w.heap.size w w') : OwnsS w' B v ss := strs_below h hb
theorem OwnsS.grownD {w w' : World} {B r : Nat} {v : Value} {ss : List ByteArray} (h : OwnsS w B v ss) (hg : w.grownBy w' (some r)) (hr : r < B) : OwnsS w' B v ss :=
  World.ownsRow.kept h hg (.inr (fun e => by have := (World.ownsRow.lt h r e).1; omega))
def StrsO (xs : List ByteArray) (w : World) (e : Ending) (w' : World) : Prop := ∃ a c, e = .returned (.slice a xs.length c) ∧ OwnsS w' w.heap.size (.slice a xs.length c) xs ∧ Below w.heap.size w w'
theorem StrsR.openO {xs ys : List ByteArray} {w w' : World} {e : Ending} (h : StrsR xs w e w') (he : xs = ys) : StrsO ys w e w' := by
  subst he
  obtain ⟨v, rfl, ho, hb⟩ := h
  obtain ⟨a, c, rfl, _⟩ := ho.form
  exact ⟨a, c, rfl, ho, hb⟩
theorem markF_at {v : Value} {z : Int} (B k : Nat) (fs : List Fl) (w : World) (hz : z = (k : Int)) (ho : OwnsF w B v fs) (hn : fs.length ≤ 1048576) (h0 : 1 ≤ k) (h1 : k + 2 * fs.length ≤ 8388600) :
    Calls Try.prog 17 #[v, .int .i64 z] w fun e w' =>
      e = .returned (.int .i64 (k + 2 * fs.length : Nat)) ∧ OwnsF w' B v (mrk k fs.length fs) ∧ w.grownBy w' v.ownBlock := by
  subst hz; exact markF_any v B k fs w ho hn h0 h1
theorem markSO {w : World} {B c : Nat} {a : Option Addr} {ss : List ByteArray} (ho : OwnsS w B (.slice a ss.length c) ss) (hn : ss.length ≤ 1048576) :
    Calls Try.prog 18 #[.slice a ss.length c, .int .i64 1] w fun e w' =>
      e = .returned (.int .i64 (1 + ss.length : Nat)) ∧ OwnsS w' B (.slice a ss.length c) (smrk 1 ss.length ss) ∧ ∃ r, w.grownBy w' (some r) ∧ B ≤ r := by
  refine (markS_any _ B 1 ss w ho hn (by omega) (by omega)).mono fun e w' ⟨he, h1, h2⟩ => ⟨he, h1, ?_⟩
  cases a with
  | none => exact ⟨max B w.heap.size, ⟨h2.os, h2.tape, h2.output, h2.size, fun k hk _ => h2.block k hk (by simp [Value.ownBlock])⟩, by omega⟩
  | some x => exact ⟨x.block, h2, (World.ownsRow.lt ho x.block rfl).1⟩
theorem heldSO {w : World} {B c : Nat} {a : Option Addr} {ss : List ByteArray} (ho : OwnsS w B (.slice a ss.length c) (smrk 1 ss.length ss)) (hn : ss.length ≤ 1048576) :
    Calls Try.prog 19 #[.slice a ss.length c, .int .i64 1] w fun e w' =>
      e = .returned (.int .i64 (1 + ss.length : Nat)) ∧ Below w.heap.size w w' :=
  heldS_any a ss.length c 1 (smrk 1 ss.length ss) w ho.at_ (fun j hj => smrk_get hj hj) hn (by omega) (by omega)

set_option maxRecDepth 100000 in
set_option maxHeartbeats 4000000 in
theorem walkFnExactChangedFiles (a : Option Addr) (n c : Nat) (fs : List Fl) (b : Option Addr) (m d : Nat) (gs : List Fl) (w : World) (h : InF w a n fs) (h' : InF w b m gs) :
    Calls Try.prog 4 #[.slice a n c, .slice b m d] w fun e w' => e = .returned (.bool true) ∧ Below w.heap.size w w' := by
  obtain ⟨hf, hs, hn⟩ := h
  obtain ⟨hg, hs', hm⟩ := h'
  obtain rfl : fs.length = n := hf.1
  obtain rfl : gs.length = m := hg.1
  have Hn := Lib.hid hn
  have Hm := Lib.hid hm
  have Hs := Lib.hid hs
  have Hs' := Lib.hid hs'
  clear hn hm hs hs'
  by_cases hsz : (fs.length + tot fs : Int) ≤ 1048576
  case neg =>
    have Hsz := Lib.hid (szAll_neg hsz)
    clear hsz
    go_enter Try.func4, Try.ntmps4
    go_wp2_with fail
    refine (szFileS_any a _ c fs _ _ hf Hs.out Hn.out (by omega) (by omega)).mono ?_
    rintro e w1 ⟨rfl, B1⟩
    rw [Hsz.out]
    go_wp2_with fail
    go_ret
    exact ⟨rfl, B1⟩
  case pos =>
  have hn2 : fs.length ≤ 1048576 := by omega
  have hz0 : 0 ≤ szAll 1048576 fs := by rw [szAll_pos hsz]; omega
  have hz9 : szAll 1048576 fs ≤ 1048576 := by rw [szAll_pos hsz]; omega
  clear hsz
  by_cases hsz2 : (gs.length + tot gs : Int) ≤ szAll 1048576 fs
  case neg =>
    have Hsz2 := Lib.hid (szAll_neg hsz2)
    clear hsz2
    go_enter Try.func4, Try.ntmps4
    go_wp2_with fail
    refine (szFileS_any a _ c fs _ _ hf Hs.out Hn.out (by omega) (by omega)).mono ?_
    rintro e w1 ⟨rfl, B1⟩
    go_wp2_with fail
    refine (szFileS_any b _ d gs _ _ ((hg.below B1).more B1.size) Hs'.out Hm.out hz0 hz9).mono ?_
    rintro e w2 ⟨rfl, hB2⟩
    rw [Hsz2.out]
    go_wp2_with fail
    go_ret
    exact ⟨rfl, B1.trans (hB2.mono B1.size)⟩
  case pos =>
  have hm2 : gs.length ≤ 1048576 := by omega
  have hz1 : 0 ≤ szAll (szAll 1048576 fs) gs := by rw [szAll_pos hsz2]; omega
  clear hsz2
  obtain ⟨xs, HX⟩ : ∃ xs, Hid (chgR fs gs = xs) := ⟨_, rfl⟩
  have hxl : xs.length ≤ 24 := by rw [← HX.out]; exact chgR_len fs gs
  have HXm : Hid (xs.length ≤ maxLen) := Lib.hid (by simp only [maxLen]; omega)
  go_enter Try.func4, Try.ntmps4
  have hf_le := Nat.le_refl w.heap.size
  have hg_le := Nat.le_refl w.heap.size
  have B0 := Below.refl w.heap.size w
  go_wp2_with fail
  refine (szFileS_any a _ c fs _ _ (hf.more hf_le) Hs.out Hn.out (by omega) (by omega)).mono ?_
  rintro e w1 ⟨rfl, hB1⟩
  have hf := hf.belowD hB1 hf_le
  have hf_le := Nat.le_trans hf_le hB1.size
  have hg := hg.belowD hB1 hg_le
  have hg_le := Nat.le_trans hg_le hB1.size
  have B1 := B0.trans (hB1.mono B0.size)
  go_wp2_with fail
  refine (szFileS_any b _ d gs _ _ (hg.more hg_le) Hs'.out Hm.out hz0 hz9).mono ?_
  rintro e w2 ⟨rfl, hB2⟩
  have hf := hf.belowD hB2 hf_le
  have hf_le := Nat.le_trans hf_le hB2.size
  have hg := hg.belowD hB2 hg_le
  have hg_le := Nat.le_trans hg_le hB2.size
  have B2 := B1.trans (hB2.mono B1.size)
  go_wp2_with fail
  refine (toFileS_any a _ c fs _ (hf.more hf_le) hn2).mono ?_
  rintro e w3 ⟨g1, rfl, hg1, hO1, hB3⟩
  have hf := hf.belowD hB3 hf_le
  have hf_le := Nat.le_trans hf_le hB3.size
  have hg := hg.belowD hB3 hg_le
  have hg_le := Nat.le_trans hg_le hB3.size
  have B3 := B2.trans (hB3.mono B2.size)
  have o1 := hO1.owns (B := w2.heap.size) hg1 Hn.out
  have hl1 : g1 < w3.heap.size := hO1.lt
  go_wp2_with fail
  refine (toFileS_any b _ d gs _ (hg.more hg_le) hm2).mono ?_
  rintro e w4 ⟨g2, rfl, hg2, hO2, hB4⟩
  have hf := hf.belowD hB4 hf_le
  have hf_le := Nat.le_trans hf_le hB4.size
  have hg := hg.belowD hB4 hg_le
  have hg_le := Nat.le_trans hg_le hB4.size
  have o1 := o1.belowD hB4
  have B4 := B3.trans (hB4.mono B3.size)
  have o2 := hO2.owns (B := w3.heap.size) hg2 Hm.out
  have hl2 : g2 < w4.heap.size := hO2.lt
  go_wp2_with fail
  refine ((schg_any _ _ _ _ fs gs _ (OwnsF.at_ o1) (OwnsF.at_ o2) Hs.out Hs'.out Hn.out Hm.out).mono fun _ _ h => h.openO HX.out).mono ?_
  rintro e w5 ⟨aw, cw, rfl, hOw, hB5⟩
  have hf := hf.belowD hB5 hf_le
  have hf_le := Nat.le_trans hf_le hB5.size
  have hg := hg.belowD hB5 hg_le
  have hg_le := Nat.le_trans hg_le hB5.size
  have o1 := o1.belowD hB5
  have o2 := o2.belowD hB5
  have B5 := B4.trans (hB5.mono B4.size)
  have hw := hOw.at_
  have hw_le := Nat.le_refl w5.heap.size
  clear o1 o2 hO1 hO2 hOw hg1 hg2 hl1 hl2
  go_wp2_with fail
  refine (toFileS_any a _ c fs _ (hf.more hf_le) hn2).mono ?_
  rintro e w6 ⟨g3, rfl, hg3, hO3, hB6⟩
  have hf := hf.belowD hB6 hf_le
  have hf_le := Nat.le_trans hf_le hB6.size
  have hg := hg.belowD hB6 hg_le
  have hg_le := Nat.le_trans hg_le hB6.size
  have hw := hw.belowD hB6 hw_le
  have hw_le := Nat.le_trans hw_le hB6.size
  have B6 := B5.trans (hB6.mono B5.size)
  have o3 := hO3.owns (B := w5.heap.size) hg3 Hn.out
  have hl3 : g3 < w6.heap.size := hO3.lt
  go_wp2_with fail
  refine (toFileS_any b _ d gs _ (hg.more hg_le) hm2).mono ?_
  rintro e w7 ⟨g4, rfl, hg4, hO4, hB7⟩
  have hf := hf.belowD hB7 hf_le
  have hf_le := Nat.le_trans hf_le hB7.size
  have hg := hg.belowD hB7 hg_le
  have hg_le := Nat.le_trans hg_le hB7.size
  have hw := hw.belowD hB7 hw_le
  have hw_le := Nat.le_trans hw_le hB7.size
  have o3 := o3.belowD hB7
  have B7 := B6.trans (hB7.mono B6.size)
  have o4 := hO4.owns (B := w6.heap.size) hg4 Hm.out
  have hl4 : g4 < w7.heap.size := hO4.lt
  go_wp2_with fail
  refine ((chg_any _ _ _ _ fs gs _ (.inr ⟨Nat.le_refl _, _, _, rfl⟩) (.inr ⟨Nat.le_refl _, _, _, rfl⟩) (OwnsF.at_ o3) (OwnsF.at_ o4) Hs.out Hs'.out Hn.out Hm.out).mono fun _ _ h => h.openO HX.out).mono ?_
  rintro e w8 ⟨ag, cg, rfl, og, hB8⟩
  have hf := hf.belowD hB8 hf_le
  have hf_le := Nat.le_trans hf_le hB8.size
  have hg := hg.belowD hB8 hg_le
  have hg_le := Nat.le_trans hg_le hB8.size
  have hw := hw.belowD hB8 hw_le
  have hw_le := Nat.le_trans hw_le hB8.size
  have o3 := o3.belowD hB8
  have o4 := o4.belowD hB8
  have B8 := B7.trans (hB8.mono B7.size)
  go_wp2_with fail
  refine (eqS_yes _ _ _ _ _ xs _ og.at_ (hw.more hw_le) HXm.out).mono ?_
  rintro e w9 ⟨rfl, hB9⟩
  have hf := hf.belowD hB9 hf_le
  have hf_le := Nat.le_trans hf_le hB9.size
  have hg := hg.belowD hB9 hg_le
  have hg_le := Nat.le_trans hg_le hB9.size
  have hw := hw.belowD hB9 hw_le
  have hw_le := Nat.le_trans hw_le hB9.size
  have o3 := o3.belowD hB9
  have o4 := o4.belowD hB9
  have og := og.belowD hB9
  have B9 := B8.trans (hB9.mono B8.size)
  go_wp2_with fail
  refine (toFileS_any a _ c fs _ (hf.more hf_le) hn2).mono ?_
  rintro e w10 ⟨g5, rfl, hg5, hO5, hB10⟩
  have hf := hf.belowD hB10 hf_le
  have hf_le := Nat.le_trans hf_le hB10.size
  have hg := hg.belowD hB10 hg_le
  have hg_le := Nat.le_trans hg_le hB10.size
  have hw := hw.belowD hB10 hw_le
  have hw_le := Nat.le_trans hw_le hB10.size
  have o3 := o3.belowD hB10
  have o4 := o4.belowD hB10
  have og := og.belowD hB10
  have B10 := B9.trans (hB10.mono B9.size)
  have o5 := hO5.owns (B := w9.heap.size) hg5 Hn.out
  have hl5 : g5 < w10.heap.size := hO5.lt
  go_wp2_with fail
  refine (eqFileS_yes (OwnsF.at_ o3) (OwnsF.at_ o5) Hn.out Hn.out rfl).mono ?_
  rintro e w11 ⟨rfl, hB11⟩
  have hf := hf.belowD hB11 hf_le
  have hf_le := Nat.le_trans hf_le hB11.size
  have hg := hg.belowD hB11 hg_le
  have hg_le := Nat.le_trans hg_le hB11.size
  have hw := hw.belowD hB11 hw_le
  have hw_le := Nat.le_trans hw_le hB11.size
  have o3 := o3.belowD hB11
  have o4 := o4.belowD hB11
  have og := og.belowD hB11
  have o5 := o5.belowD hB11
  have B11 := B10.trans (hB11.mono B10.size)
  clear o5 hO5 hg5 hl5
  go_wp2_with fail
  refine (toFileS_any b _ d gs _ (hg.more hg_le) hm2).mono ?_
  rintro e w12 ⟨g6, rfl, hg6, hO6, hB12⟩
  have hf := hf.belowD hB12 hf_le
  have hf_le := Nat.le_trans hf_le hB12.size
  have hg := hg.belowD hB12 hg_le
  have hg_le := Nat.le_trans hg_le hB12.size
  have hw := hw.belowD hB12 hw_le
  have hw_le := Nat.le_trans hw_le hB12.size
  have o3 := o3.belowD hB12
  have o4 := o4.belowD hB12
  have og := og.belowD hB12
  have B12 := B11.trans (hB12.mono B11.size)
  have o6 := hO6.owns (B := w11.heap.size) hg6 Hm.out
  have hl6 : g6 < w12.heap.size := hO6.lt
  go_wp2_with fail
  refine (eqFileS_yes (OwnsF.at_ o4) (OwnsF.at_ o6) Hm.out Hm.out rfl).mono ?_
  rintro e w13 ⟨rfl, hB13⟩
  have hf := hf.belowD hB13 hf_le
  have hf_le := Nat.le_trans hf_le hB13.size
  have hg := hg.belowD hB13 hg_le
  have hg_le := Nat.le_trans hg_le hB13.size
  have hw := hw.belowD hB13 hw_le
  have hw_le := Nat.le_trans hw_le hB13.size
  have o3 := o3.belowD hB13
  have o4 := o4.belowD hB13
  have og := og.belowD hB13
  have o6 := o6.belowD hB13
  have B13 := B12.trans (hB13.mono B12.size)
  clear o6 hO6 hg6 hl6
  go_wp2_with fail
  refine (markF_any _ w5.heap.size 1 fs _ o3 hn2 (by omega) (by omega)).mono ?_
  rintro e w14 ⟨rfl, _, hG14⟩
  have hf := hf.grownD hG14 hf_le (Nat.le_trans B5.size hg3)
  have hf_le := Nat.le_trans hf_le hG14.size
  have hg := hg.grownD hG14 hg_le (Nat.le_trans B5.size hg3)
  have hg_le := Nat.le_trans hg_le hG14.size
  have hw := hw.grownD hG14 hw_le (hg3)
  have hw_le := Nat.le_trans hw_le hG14.size
  have o4 := o4.grownD hG14 (hl3)
  have og := og.grownD hG14 (Nat.lt_of_lt_of_le hl3 hB7.size)
  have B14 := B13.grown hG14 B13.size (fun j hj => by cases hj; exact Nat.le_trans B5.size hg3)
  clear o3 hO3
  go_wp2_with fail
  refine (markF_at w6.heap.size (1 + 2 * fs.length) gs _ (by omega) o4 hm2 (by omega) (by omega)).mono ?_
  rintro e w15 ⟨rfl, _, hG15⟩
  have hf := hf.grownD hG15 hf_le (Nat.le_trans B6.size hg4)
  have hf_le := Nat.le_trans hf_le hG15.size
  have hg := hg.grownD hG15 hg_le (Nat.le_trans B6.size hg4)
  have hg_le := Nat.le_trans hg_le hG15.size
  have hw := hw.grownD hG15 hw_le (Nat.le_trans (Nat.le_of_lt (Nat.lt_of_le_of_lt hg3 hl3)) hg4)
  have hw_le := Nat.le_trans hw_le hG15.size
  have og := og.grownD hG15 (hl4)
  have B15 := B14.grown hG15 B14.size (fun j hj => by cases hj; exact Nat.le_trans B6.size hg4)
  clear o4 hO4
  go_wp2_with fail
  refine (eqS_yes _ _ _ _ _ xs _ og.at_ (hw.more hw_le) HXm.out).mono ?_
  rintro e w16 ⟨rfl, hB16⟩
  have hf := hf.belowD hB16 hf_le
  have hf_le := Nat.le_trans hf_le hB16.size
  have hg := hg.belowD hB16 hg_le
  have hg_le := Nat.le_trans hg_le hB16.size
  have hw := hw.belowD hB16 hw_le
  have hw_le := Nat.le_trans hw_le hB16.size
  have og := og.belowD hB16
  have B16 := B15.trans (hB16.mono B15.size)
  go_wp2_with fail
  refine (markSO og (by omega)).mono ?_
  rintro e w17 ⟨rfl, om, r, hG17, hr⟩
  have hf := hf.grownD hG17 hf_le (Nat.le_trans B7.size hr)
  have hf_le := Nat.le_trans hf_le hG17.size
  have hg := hg.grownD hG17 hg_le (Nat.le_trans B7.size hr)
  have hg_le := Nat.le_trans hg_le hG17.size
  have hw := hw.grownD hG17 hw_le (by have := hg3; have := hl3; have := hg4; have := hl4; omega)
  have hw_le := Nat.le_trans hw_le hG17.size
  have B17 := B16.grown hG17 B16.size (fun j hj => by cases hj; exact Nat.le_trans B7.size hr)
  clear og
  go_wp2_with fail
  refine (heldSO om (by omega)).mono ?_
  rintro e w18 ⟨rfl, hB18⟩
  have hf := hf.belowD hB18 hf_le
  have hf_le := Nat.le_trans hf_le hB18.size
  have hg := hg.belowD hB18 hg_le
  have hg_le := Nat.le_trans hg_le hB18.size
  have hw := hw.belowD hB18 hw_le
  have hw_le := Nat.le_trans hw_le hB18.size
  have om := om.belowD hB18
  have B18 := B17.trans (hB18.mono B17.size)
  go_wp2_with fail
  refine (toFileS_any a _ c fs _ (hf.more hf_le) hn2).mono ?_
  rintro e w19 ⟨g7, rfl, hg7, hO7, hB19⟩
  have hf := hf.belowD hB19 hf_le
  have hf_le := Nat.le_trans hf_le hB19.size
  have hg := hg.belowD hB19 hg_le
  have hg_le := Nat.le_trans hg_le hB19.size
  have hw := hw.belowD hB19 hw_le
  have hw_le := Nat.le_trans hw_le hB19.size
  have om := om.belowD hB19
  have B19 := B18.trans (hB19.mono B18.size)
  have o7 := hO7.owns (B := w18.heap.size) hg7 Hn.out
  have hl7 : g7 < w19.heap.size := hO7.lt
  go_wp2_with fail
  refine (toFileS_any b _ d gs _ (hg.more hg_le) hm2).mono ?_
  rintro e w20 ⟨g8, rfl, hg8, hO8, hB20⟩
  have hf := hf.belowD hB20 hf_le
  have hf_le := Nat.le_trans hf_le hB20.size
  have hg := hg.belowD hB20 hg_le
  have hg_le := Nat.le_trans hg_le hB20.size
  have hw := hw.belowD hB20 hw_le
  have hw_le := Nat.le_trans hw_le hB20.size
  have om := om.belowD hB20
  have o7 := o7.belowD hB20
  have B20 := B19.trans (hB20.mono B19.size)
  have o8 := hO8.owns (B := w19.heap.size) hg8 Hm.out
  have hl8 : g8 < w20.heap.size := hO8.lt
  go_wp2_with fail
  refine ((chg_any _ _ _ _ fs gs _ (.inr ⟨Nat.le_refl _, _, _, rfl⟩) (.inr ⟨Nat.le_refl _, _, _, rfl⟩) (OwnsF.at_ o7) (OwnsF.at_ o8) Hs.out Hs'.out Hn.out Hm.out).mono fun _ _ h => h.openO HX.out).mono ?_
  rintro e w21 ⟨ah, ch, rfl, oh, hB21⟩
  have hf := hf.belowD hB21 hf_le
  have hf_le := Nat.le_trans hf_le hB21.size
  have hg := hg.belowD hB21 hg_le
  have hg_le := Nat.le_trans hg_le hB21.size
  have hw := hw.belowD hB21 hw_le
  have hw_le := Nat.le_trans hw_le hB21.size
  have om := om.belowD hB21
  have o7 := o7.belowD hB21
  have o8 := o8.belowD hB21
  have B21 := B20.trans (hB21.mono B20.size)
  clear o7 o8 hO7 hO8 hg7 hg8 hl7 hl8
  go_wp2_with fail
  refine (eqS_yes _ _ _ _ _ xs _ oh.at_ (hw.more hw_le) HXm.out).mono ?_
  rintro e w22 ⟨rfl, hB22⟩
  have hf := hf.belowD hB22 hf_le
  have hf_le := Nat.le_trans hf_le hB22.size
  have hg := hg.belowD hB22 hg_le
  have hg_le := Nat.le_trans hg_le hB22.size
  have hw := hw.belowD hB22 hw_le
  have hw_le := Nat.le_trans hw_le hB22.size
  have om := om.belowD hB22
  have oh := oh.belowD hB22
  have B22 := B21.trans (hB22.mono B21.size)
  go_wp2_with fail
  refine (heldSO om (by omega)).mono ?_
  rintro e w23 ⟨rfl, hB23⟩
  have hf := hf.belowD hB23 hf_le
  have hf_le := Nat.le_trans hf_le hB23.size
  have hg := hg.belowD hB23 hg_le
  have hg_le := Nat.le_trans hg_le hB23.size
  have hw := hw.belowD hB23 hw_le
  have hw_le := Nat.le_trans hw_le hB23.size
  have om := om.belowD hB23
  have oh := oh.belowD hB23
  have B23 := B22.trans (hB23.mono B22.size)
  go_wp2_with fail
  go_ret
  exact ⟨rfl, B23⟩
end Go.Proofs.Ytollcckdfehdeaa
