/-
  The exact law FnExactDropEntry, walked.
-/
import Derived.Test.YtaiijnepeccllaaGreatQEdD
import Derived.Test.YtaiijnepeccllaaGreatQMkW
import Derived.Test.YtaiijnepeccllaaGreatQWalkFE
namespace Go.Proofs.YtaiijnepeccllaaGreat
set_option linter.unusedVariables false
set_option linter.unusedSimpArgs false
open Go.RowKit

/-- what lies below L through the whole walk: the argument and the reference's answer -/
structure DeA (W : World) (L : Nat) (es : List En) (a : Option Addr) (n : Nat) (rs : List En) (a0 : Option Addr) : Prop where
  hf : EnAt W 0 L es a n
  h0 : EnAt W 0 L rs a0 rs.length
theorem DeA.below {W W' : World} {L n : Nat} {es rs : List En} {a a0 : Option Addr} (h : DeA W L es a n rs a0) (hb : Below L W W') : DeA W' L es a n rs a0 := ⟨h.hf.below hb, h.h0.below hb⟩
theorem OwnD.tch {W W' : World} {L S : Nat} {v : Value} {es : List En} {bs : List Nat} (h : OwnD W S v es bs) (hb : Tch L S W W') : OwnD W' S v es bs := h.keep hb.size fun g hg => hb.out g (h.in_ g hg).2 (.inr (h.in_ g hg).1)
theorem OwnD.at_ {W : World} {S c : Nat} {a : Option Addr} {n : Nat} {es : List En} {bs : List Nat} (h : OwnD W S (.slice a n c) es bs) : EnAt W 0 W.heap.size es a n := by
  obtain ⟨a', c', e, _, hf⟩ := h.form
  simp only [Value.slice.injEq] at e
  obtain ⟨rfl, rfl, rfl⟩ := e
  exact hf
theorem dropSt_small {pb : ByteArray → Bool} {es : List En} {x : ByteArray} {rs : List En} {b : Bool} (hfit : EnFits es) (hz : es.length + enTot es ≤ 1048576) (h : dropSt pb es x = (rs, b)) : EnFits rs ∧ rs.length + enTot rs ≤ 1048576 := by
  unfold dropSt at h
  split at h
  · simp only [Prod.mk.injEq] at h
    obtain ⟨rfl, _⟩ := h
    exact ⟨fun y hy => hfit y (mem_delE.1 hy).1, by have := delE_tot x es; omega⟩
  · simp only [Prod.mk.injEq] at h
    obtain ⟨rfl, _⟩ := h
    exact ⟨(fun y hy => by cases hy), by simp [enTot]⟩

set_option maxRecDepth 100000 in
set_option maxHeartbeats 16000000 in
theorem walkFnExactDropEntry (a : Option Addr) (n c : Nat) (es : List En) (x : ByteArray) (w : World) (h : InNs w a n es) (hx : x.size ≤ maxLen) :
    Calls Tryz.prog 5 #[.slice a n c, .string x] w fun e w' => e = .returned (.bool true) ∧ Below w.heap.size w w' := by
  obtain ⟨hf, hs, hn⟩ := h
  have hnl := hf.1
  obtain ⟨pb, hpb⟩ := isP_all
  have hxm := hx
  unfold maxLen at hxm
  by_cases hxl : (1048576 : Int) < (x.size : Int)
  case pos =>
    go_enter Tryz.func5, Tryz.ntmps5
    go_wp2_with fail
    go_ret
    exact ⟨rfl, Below.refl _ _⟩
  case neg =>
  by_cases hsz : (es.length + enTot es : Int) ≤ 1048576
  case neg =>
    have Hsz := Lib.hid (szNs_neg hsz)
    clear hsz
    go_enter Tryz.func5, Tryz.ntmps5
    go_wp2_with fail
    refine (szEntryS_any es a n c _ _ hf hs hn (by omega) (by omega)).mono ?_
    rintro e w1 ⟨rfl, B1⟩
    rw [Hsz.out]
    go_wp2_with fail
    go_ret
    exact ⟨rfl, B1⟩
  case pos =>
  have hn2 : es.length + enTot es ≤ 1048576 := by omega
  have hz0 : 0 ≤ szNs 1048576 es := by rw [szNs_pos hsz]; omega
  have Hpb := Lib.hid hpb
  have Hs := Lib.hid hs
  obtain ⟨⟨rs, found⟩, hres⟩ : ∃ r, dropSt pb es x = r := ⟨_, rfl⟩
  have Hrs := Lib.hid (dropSt_small hs hn2 hres)
  have Hres := Lib.hid hres
  have hff : (found == found) = true := by simp
  have hrl : rs.length ≤ maxLen := by have := Hrs.out.2; unfold maxLen; omega
  have hrz : enMk rs ≤ 3145728 := by have := enMk_le rs; have := Hrs.out.2; omega
  clear hsz hpb hs hres
  go_enter Tryz.func5, Tryz.ntmps5
  go_wp2_with fail
  refine (szEntryS_any es a n c _ _ hf Hs.out hn (by omega) (by omega)).mono ?_
  rintro e w1 ⟨rfl, B1⟩
  generalize szNs 1048576 es = left at *
  have hz1 : ¬ left < 0 := by omega
  go_wp2_with fail
  refine (toEntrySN_any es a n c _ (hf.next B1) hn2).mono ?_
  rintro e w2 ⟨g2, rfl, hO2, rfl, hK2, hB2⟩
  have B2 := B1.trans (hB2.mono B1.size)
  have Hc3 := Lib.hid (dropES_any pb Hpb.out es _ n n x w2 (hO2.more (Nat.zero_le _) (Nat.le_refl _)) (hK2.ok hnl) Hs.out hn hn2)
  rw [Hres.out] at Hc3
  clear hO2 hK2
  go_wp2_with fail
  refine Hc3.out.mono ?_
  rintro e w3 ⟨v0, bs0, rfl, hown0, hB3⟩
  obtain ⟨a0, c0, rfl, _, hr0⟩ := hown0.form
  have B3 := B2.trans (hB3.mono B2.size)
  have HA := Lib.hid (show DeA w3 w3.heap.size es a n rs a0 from ⟨hf.next B3, hr0⟩)
  clear Hc3 hown0 hr0 hB3
  go_wp2_with fail
  refine (toEntrySN_any es a n c _ HA.out.hf hn2).mono ?_
  rintro e w4 ⟨g4, rfl, hO4, hg4, hK4, hB4⟩
  rw [← hg4] at hO4 hK4
  have Hg4 := Lib.hid (show g4 ≤ w3.heap.size ∧ w3.heap.size ≤ g4 from by omega)
  clear hg4
  have HA := Lib.hid (HA.out.below hB4)
  have hA4 := hB4.size
  have HB := Lib.hid (show FeB w4 g4 w4.heap.size es n from ⟨hO4, hK4, hK4.lt⟩)
  have B4 := B3.trans (hB4.mono B3.size)
  have Hc7 := Lib.hid (dropEI_any pb Hpb.out es _ n n x w4 (HB.out.hf.more (Nat.zero_le _) (Nat.le_refl _)) Hs.out hn hn2 hx)
  rw [Hres.out] at Hc7
  clear hO4 hK4 hB4
  go_wp2_with fail
  refine Hc7.out.mono ?_
  rintro e w7 ⟨v7, bs7, rfl, hown7, hB7⟩
  obtain ⟨a7, c7, rfl, _, _⟩ := hown7.form
  have HA := Lib.hid (HA.out.below (hB7.mono (by omega)))
  have HB := Lib.hid (HB.out.below (Nat.le_refl _) hB7)
  have HC := Lib.hid hown7
  have B7 := B4.trans (hB7.mono B4.size)
  have hA7 := hB7.size
  clear Hc7 hown7 hB7
  go_wp2_with fail
  refine (eqEntryS_any rs a7 a0 rs.length c7 c0 _ HC.out.at_ (HA.out.h0.more (Nat.le_refl _) (by omega)) Hrs.out.1 hrl).mono ?_
  rintro e w8 ⟨rfl, hB8⟩
  have HA := Lib.hid (HA.out.below (hB8.mono (by omega)))
  have HB := Lib.hid (HB.out.below (by omega) (hB8.mono (by omega)))
  have HC := Lib.hid (HC.out.below hB8)
  have hB8s := hB8.size
  have B8 := B7.trans (hB8.mono B7.size)
  go_wp2_with fail
  refine (toEntryS_any es a n c _ (HA.out.hf.more (Nat.le_refl _) (by omega)) hn2).mono ?_
  rintro e v1 ⟨g5, rfl, hu1, hC1⟩
  have HA := Lib.hid (HA.out.below (hC1.mono (by omega)))
  have HB := Lib.hid (HB.out.below (by omega) (hC1.mono (by omega)))
  have HC := Lib.hid (HC.out.below hC1)
  have hC1s := hC1.size
  have Be := B8.trans (hC1.mono B8.size)
  go_wp2_with fail
  refine (eqEntryS_any es _ _ n n n _ (HB.out.hf.more (Nat.zero_le _) (by omega)) (hu1.more (Nat.zero_le _) (Nat.le_refl _)) Hs.out hn).mono ?_
  rintro e v2 ⟨rfl, hC2⟩
  clear hu1
  have HA := Lib.hid (HA.out.below (hC2.mono (by omega)))
  have HB := Lib.hid (HB.out.below (by omega) (hC2.mono (by omega)))
  have HC := Lib.hid (HC.out.below hC2)
  have hC2s := hC2.size
  have Bg := Be.trans (hC2.mono Be.size)
  have hmle := enMk_le es
  go_wp2_with fail
  refine (markEs_any g4 n n 1 (g4 + 1) w4.heap.size es v2 HB.out.sk hnl (Nat.lt_succ_self _) HB.out.lg (by omega) (Nat.le_refl _) (by omega) hn2).mono ?_
  rintro e w9 ⟨rfl, hT9⟩
  have hs9 := hT9.size
  have hM9 := hT9.below (show g4 ≤ v2.heap.size by have := HB.out.lg; omega)
  have HA := Lib.hid (HA.out.below (hM9.mono (by have := Hg4.out; omega)))
  have HC := Lib.hid (HC.out.tch hT9)
  have B9 := Bg.trans (hM9.mono (by have := Hg4.out; have := B3.size; omega))
  clear hT9 hM9 HB
  have hneg : ¬ (((1 + enMk es : Nat) : Int) < 0) := by omega
  go_wp2_with fail
  refine (eqEntryS_any rs a7 a0 rs.length c7 c0 _ HC.out.at_ (HA.out.h0.more (Nat.le_refl _) (by omega)) Hrs.out.1 hrl).mono ?_
  rintro e w10 ⟨rfl, hB10⟩
  have HA := Lib.hid (HA.out.below (hB10.mono (by omega)))
  have HC := Lib.hid (HC.out.below hB10)
  have hB10s := hB10.size
  have B10 := B9.trans (hB10.mono B9.size)
  go_wp2_with fail
  refine (markD_any _ w4.heap.size 1 rs bs7 w10 HC.out (Nat.le_refl _) (by omega) (by have := Hrs.out.2; omega)).mono ?_
  rintro e w11 ⟨rfl, hmk11, hM11⟩
  have hs11 := hM11.size
  have HC := Lib.hid hmk11
  have HA := Lib.hid (HA.out.below (hM11.mono (by omega)))
  have B11 := B10.trans (hM11.mono (by have := B4.size; omega))
  clear hmk11 hM11
  go_wp2_with fail
  refine (heldD_any a7 rs.length c7 1 rs _ HC.out.at_ (Nat.le_refl _) (by omega) (by have := Hrs.out.2; omega)).mono ?_
  rintro e w12 ⟨rfl, hB12⟩
  have HA := Lib.hid (HA.out.below (hB12.mono (by omega)))
  have HC := Lib.hid (HC.out.below hB12)
  have hB12s := hB12.size
  have B12 := B11.trans (hB12.mono B11.size)
  have hneg2 : ¬ (((1 + enMk rs : Nat) : Int) < 0) := by omega
  go_wp2_with fail
  refine (toEntryS_any es a n c _ (HA.out.hf.more (Nat.le_refl _) (by omega)) hn2).mono ?_
  rintro e w13 ⟨g8, rfl, hu13, hB13⟩
  have HA := Lib.hid (HA.out.below (hB13.mono (by omega)))
  have HC := Lib.hid (HC.out.below hB13)
  have hB13s := hB13.size
  have B13 := B12.trans (hB13.mono B12.size)
  have Hc14 := Lib.hid (dropEI_any pb Hpb.out es _ n n x w13 (hu13.more (Nat.zero_le _) (Nat.le_refl _)) Hs.out hn hn2 hx)
  rw [Hres.out] at Hc14
  clear hu13
  go_wp2_with fail
  refine Hc14.out.mono ?_
  rintro e w14 ⟨v9, bs9, rfl, hown9, hB14⟩
  obtain ⟨a9, c9, rfl, _, _⟩ := hown9.form
  have HA := Lib.hid (HA.out.below (hB14.mono (by omega)))
  have HC := Lib.hid (HC.out.below hB14)
  have hB14s := hB14.size
  have B14 := B13.trans (hB14.mono B13.size)
  have Hk9 := Lib.hid hown9.at_
  clear Hc14 hown9
  go_wp2_with fail
  refine (eqEntryS_any rs a9 a0 rs.length c9 c0 _ Hk9.out (HA.out.h0.more (Nat.le_refl _) (by omega)) Hrs.out.1 hrl).mono ?_
  rintro e w16 ⟨rfl, hB16⟩
  have HA := Lib.hid (HA.out.below (hB16.mono (by omega)))
  have HC := Lib.hid (HC.out.below hB16)
  have hB16s := hB16.size
  have B16 := B14.trans (hB16.mono B14.size)
  go_wp2_with fail
  refine (heldD_any a7 rs.length c7 1 rs _ HC.out.at_ (Nat.le_refl _) (by omega) (by have := Hrs.out.2; omega)).mono ?_
  rintro e w17 ⟨rfl, hB17⟩
  have B17 := B16.trans (hB17.mono B16.size)
  go_wp2_with fail
  go_ret
  exact ⟨rfl, B17⟩
end Go.Proofs.YtaiijnepeccllaaGreat
