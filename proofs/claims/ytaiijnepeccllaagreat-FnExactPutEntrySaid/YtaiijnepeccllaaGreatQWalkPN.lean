/-
  The exact law FnExactPutEntry, walked.
-/
import Derived.Test.YtaiijnepeccllaaGreatQPutD
import Derived.Test.YtaiijnepeccllaaGreatQWalkDE
import Derived.Deep.RegionHeld3
import Derived.Deep.DeepCutAuto
namespace Go.Proofs.YtaiijnepeccllaaGreat
set_option linter.unusedVariables false
set_option linter.unusedSimpArgs false
open Go.RowKit

/-- the two arguments -/
def ArN (V : World) (es : List En) (a : Option Addr) (n : Nat) (g : Nat) (t s : ByteArray) (fs : List Fl) (y : ByteArray) (a1 : Option Addr) (c1 : Nat) (T : TypeId) : Prop := EnAt V 0 V.heap.size es a n ∧ EnB V g t s fs y a1 fs.length c1 T
theorem ArN.next {V V' : World} {es : List En} {a a1 : Option Addr} {n g c1 : Nat} {t s y : ByteArray} {fs : List Fl} {T : TypeId} (h : ArN V es a n g t s fs y a1 c1 T) (hB : Below V.heap.size V V') : ArN V' es a n g t s fs y a1 c1 T := ⟨h.1.next hB, h.2.next hB⟩
/-- what lies below L: the arguments and the reference's answer -/
structure PeA (W : World) (L : Nat) (es : List En) (a : Option Addr) (n : Nat) (g : Nat) (t s : ByteArray) (fs : List Fl) (y : ByteArray) (a1 : Option Addr) (c1 : Nat) (rs : List En) (a0 : Option Addr) : Prop where
  hf : EnAt W 0 L es a n
  hk : FilesAt W L a1 fs.length fs
  bx : BxN W g t s (.slice a1 fs.length c1) y 38
  h0 : EnAt W 0 L rs a0 rs.length
  lg : g < L
theorem PeA.below {W W' : World} {L n g c1 : Nat} {es rs : List En} {a a0 a1 : Option Addr} {t s y : ByteArray} {fs : List Fl} (h : PeA W L es a n g t s fs y a1 c1 rs a0) (hb : Below L W W') : PeA W' L es a n g t s fs y a1 c1 rs a0 := ⟨h.hf.below hb, h.hk.below hb, (hb.block g h.lg).trans h.bx, h.h0.below hb, h.lg⟩
/-- the copy of the entry: its row and its box -/
structure PeX (W : World) (g6 gx : Nat) (t s : ByteArray) (fs : List Fl) (y : ByteArray) : Prop where
  own : OwnF W 62 g6 fs
  bx : BxN W gx t s (.slice (some ⟨g6, 0, none⟩) fs.length fs.length) y 26
  lt : g6 < gx
theorem PeX.below {W W' : World} {g6 gx : Nat} {t s y : ByteArray} {fs : List Fl} (h : PeX W g6 gx t s fs y) (hb : Below W.heap.size W W') : PeX W' g6 gx t s fs y := ⟨h.own.below hb h.own.lt, h.bx.next hb, h.lt⟩
theorem PeX.tch {W W' : World} {g6 gx L S : Nat} {t s y : ByteArray} {fs : List Fl} (h : PeX W g6 gx t s fs y) (hb : Tch L S W W') (hS : S ≤ g6) : PeX W' g6 gx t s fs y := ⟨(hb.out g6 h.own.lt (.inr hS)).trans h.own, (hb.out gx (blk_lt h.bx) (.inr (by have := h.lt; omega))).trans h.bx, h.lt⟩
theorem PeX.owns {W : World} {g6 gx B : Nat} {t s y : ByteArray} {fs : List Fl} (h : PeX W g6 gx t s fs y) (hB : B ≤ g6) (hl : fs.length ≤ 1048576) : OwnsF W B (.slice (some ⟨g6, 0, none⟩) fs.length fs.length) fs :=
  ⟨fcells_length fs, .inr ⟨g6, fs.length, _, rfl, hB, h.own, Nat.le_refl _, by unfold maxLen; omega, by simp [fcells_length], by rw [List.take_of_length_le (by simp [fcells_length])]⟩⟩
theorem putSt_small {pb : ByteArray → Bool} {es : List En} {r : En} {rs : List En} {b : Bool} (hfit : EnFits es) (hfit2 : EnFit r) (hz : es.length + enTot es + enSz r ≤ 1048576) (h : putSt pb es r = (rs, b)) : EnFits rs ∧ rs.length + enTot rs ≤ 1048577 := by
  unfold putSt at h
  split at h
  · simp only [Prod.mk.injEq] at h
    obtain ⟨rfl, _⟩ := h
    refine ⟨fun z hz => ?_, by have := (putE_tot r es).2; omega⟩
    rcases mem_putE.1 hz with rfl | ⟨h, _⟩
    · exact hfit2
    · exact hfit z h
  · simp only [Prod.mk.injEq] at h
    obtain ⟨rfl, _⟩ := h
    exact ⟨(fun y hy => by cases hy), by simp [enTot]⟩

set_option maxRecDepth 100000 in
set_option maxHeartbeats 16000000 in
theorem walkFnExactPutEntry (a : Option Addr) (n c : Nat) (es : List En) (t s : ByteArray) (fs : List Fl) (y : ByteArray) (a1 : Option Addr) (n1 c1 : Nat) (w : World) (h : InNs w a n es) (h' : InN w t s fs y a1 n1) :
    Calls Tryz.prog 4 #[.slice a n c, .agg #[.string t, .string s, .slice a1 n1 c1, .string y]] w fun e w' => e = .returned (.bool true) ∧ Below w.heap.size w w' := by
  obtain ⟨hf, hs, hn⟩ := h
  obtain ⟨hk, hs', hn1⟩ := h'
  obtain rfl := hk.1
  have hnl := hf.1
  obtain ⟨pb, hpb⟩ := isP_all
  have B0 := (Below.refl w.heap.size w).alloc (Nat.le_refl _) (.cells #[.string t, .string s, .slice a1 fs.length c1, .string y] 38)
  have H0 := Lib.hid (show ArN (w.alloc (.cells #[.string t, .string s, .slice a1 fs.length c1, .string y] 38)) es a n w.heap.size t s fs y a1 c1 38 from ⟨hf.next B0, BxN.new w t s (.slice a1 fs.length c1) y 38, (hk.below B0).more B0.size⟩)
  have Hs := Lib.hid hs
  have Hs' := Lib.hid hs'
  have Hpb := Lib.hid hpb
  clear hf hk hs hs' hpb
  by_cases hsz : (es.length + enTot es : Int) ≤ 1048576
  case neg =>
    have Hsz := Lib.hid (szNs_neg hsz)
    clear hsz
    go_enter Tryz.func4, Tryz.ntmps4
    go_wp2_with fail
    refine (szEntryS_any es a n c _ _ H0.out.1 Hs.out hn (by omega) (by omega)).mono ?_
    rintro e w1 ⟨rfl, hB1⟩
    have B1 := B0.trans (hB1.mono B0.size)
    rw [Hsz.out]
    go_wp2_with fail
    go_ret
    exact ⟨rfl, B1⟩
  case pos =>
  have hz0 : 0 ≤ szNs 1048576 es := by rw [szNs_pos hsz]; omega
  have hz9 : szNs 1048576 es ≤ 1048576 := by rw [szNs_pos hsz]; omega
  have hn2 : es.length + enTot es ≤ 1048576 := by omega
  by_cases hsz2 : (enSz (t, s, fs, y) : Int) ≤ szNs 1048576 es
  case neg =>
    have Hsz2 := Lib.hid (szN_neg hsz2)
    clear hsz hsz2
    go_enter Tryz.func4, Tryz.ntmps4
    go_wp2_with fail
    refine (szEntryS_any es a n c _ _ H0.out.1 Hs.out hn (by omega) (by omega)).mono ?_
    rintro e w1 ⟨rfl, hB1⟩
    have B1 := B0.trans (hB1.mono B0.size)
    have H1 := Lib.hid (H0.out.next hB1)
    obtain ⟨p0, p1, p2, p3⟩ := H1.out.2.1.four
    generalize szNs 1048576 es = z at *
    go_wp2_with fail
    refine (szEntry_any t s fs y a1 fs.length c1 z _ H1.out.2.2 Hs'.out hz0 hz9).mono ?_
    rintro e w2 ⟨rfl, hB2⟩
    have B2 := B1.trans (hB2.mono B1.size)
    rw [Hsz2.out]
    go_wp2_with fail
    go_ret
    exact ⟨rfl, B2⟩
  case pos =>
  have hz3 : es.length + enTot es + enSz (t, s, fs, y) ≤ 1048576 := by rw [szNs_pos hsz] at hsz2; omega
  have hz1 : 0 ≤ szN (szNs 1048576 es) (t, s, fs, y) := by rw [szN_pos hsz2]; omega
  have hfl : fs.length ≤ 1048576 := by simp only [enSz] at hz3; omega
  obtain ⟨⟨rs, found⟩, hres⟩ : ∃ r, putSt pb es (t, s, fs, y) = r := ⟨_, rfl⟩
  have Hrs := Lib.hid (putSt_small Hs.out Hs'.out hz3 hres)
  have Hres := Lib.hid hres
  have hff : (found == found) = true := by simp
  have hrl : rs.length ≤ maxLen := by have := Hrs.out.2; unfold maxLen; omega
  have hrz : enMk rs ≤ 3145800 := by have := enMk_le rs; have := Hrs.out.2; omega
  have hez : enMk es + 2 * fs.length ≤ 5242880 := by have := enMk_le es; omega
  have Hz3 := Lib.hid hz3
  clear hsz hsz2 hres hz3
  go_enter Tryz.func4, Tryz.ntmps4
  go_wp2_with fail
  refine (szEntryS_any es a n c _ _ H0.out.1 Hs.out hn (by omega) (by omega)).mono ?_
  rintro e w1 ⟨rfl, hB1⟩
  have B1 := B0.trans (hB1.mono B0.size)
  have H1 := Lib.hid (H0.out.next hB1)
  obtain ⟨p0, p1, p2, p3⟩ := H1.out.2.1.four
  generalize szNs 1048576 es = z at *
  go_wp2_with fail
  refine (szEntry_any t s fs y a1 fs.length c1 z _ H1.out.2.2 Hs'.out hz0 hz9).mono ?_
  rintro e w2 ⟨rfl, hB2⟩
  have B2 := B1.trans (hB2.mono B1.size)
  have H2 := Lib.hid (H1.out.next hB2)
  generalize szN z (t, s, fs, y) = z2 at *
  have hz1' : ¬ z2 < 0 := by omega
  clear p0 p1 p2 p3 hB2 hB1
  go_wp2_with fail
  have hD := (Below.refl w2.heap.size w2).drew
  have HD := Lib.hid (H2.out.next hD)
  have BD := B2.trans (hD.mono B2.size)
  have HC2 := Lib.hid HD.out.2.1.four
  go_region_held3 (fun w' => w'.cell? ⟨w.heap.size, 0, none⟩ = some (.string t) ∧ w'.cell? ⟨w.heap.size, 1, none⟩ = some (.string s) ∧ w'.cell? ⟨w.heap.size, 2, none⟩ = some (.slice a1 fs.length c1) ∧ w'.cell? ⟨w.heap.size, 3, none⟩ = some (.string y)) (first | exact HC2.out | exact HC3.out | exact HC4.out | exact HC5.out)
    ((first
     | (go_at_call 8; refine (toEntrySN_any es a n c _ HD.out.1 hn2).mono ?_; rintro e w3 ⟨g3, rfl, hO3, hg3, hK3, hB3⟩; clear hg3; have B3 := BD.trans (hB3.mono BD.size); have H3 := Lib.hid (HD.out.next hB3); have HC3 := Lib.hid H3.out.2.1.four; have hN3 := hK3.ok hnl)
     | (go_at_call 17; refine (toEntry_any t s fs y a1 fs.length c1 w3 H3.out.2.2 hfl).mono ?_; rintro e w4 ⟨g4, rfl, hg4, hO4, hB4⟩; have B4 := B3.trans (hB4.mono B3.size); have H4 := Lib.hid (H3.out.next hB4); have hN4 := hN3.keep hO3 (fun p hp => hB4.cell hp); have hO3 := hO3.next hB4; have HC4 := Lib.hid H4.out.2.1.four)
     | (go_at_call 16; have Hc5 := Lib.hid (putES_any pb Hpb.out es _ n n t s fs y _ fs.length w4 (hO3.more (Nat.zero_le _) (Nat.le_refl _)) hN4 (hO4.in_ rfl) (fun e => by cases e) Hs.out Hs'.out hn Hz3.out); rw [Hres.out] at Hc5; refine Hc5.out.mono ?_; rintro e w5 ⟨v0, rfl, hown0, hB5⟩; have B5 := B4.trans (hB5.mono B4.size); have H5 := Lib.hid (H4.out.next hB5); have HC5 := Lib.hid H5.out.2.1.four)))
  obtain ⟨a0, c0, rfl, _, hr0⟩ := hown0.form
  have HA := Lib.hid (show PeA w5 w5.heap.size es a n w.heap.size t s fs y a1 c1 rs a0 from ⟨H5.out.1, H5.out.2.2, H5.out.2.1, hr0, blk_lt H5.out.2.1⟩)
  clear HC2 HC3 HC4 HC5 hO3 hN4 hN3 hO4 hg4 hown0 hr0 hB3 hB4 hB5 hD
  go_wp2_with fail
  refine (toEntrySN_any es a n c _ HA.out.hf hn2).mono ?_
  rintro e w6 ⟨gs, rfl, hO6, hgs, hK6, hB6⟩
  rw [← hgs] at hO6 hK6
  have Hgs := Lib.hid (show gs ≤ w5.heap.size ∧ w5.heap.size ≤ gs from by omega)
  clear hgs
  have HA := Lib.hid (HA.out.below hB6)
  have hs6 := hB6.size
  have HB := Lib.hid (show FeB w6 gs w6.heap.size es n from ⟨hO6, hK6, hK6.lt⟩)
  have B6 := B5.trans (hB6.mono B5.size)
  clear hO6 hK6 hB6
  obtain ⟨p0, p1, p2, p3⟩ := HA.out.bx.four
  go_wp2_with fail
  refine (toEntry_any t s fs y a1 fs.length c1 w6 (HA.out.hk.more hs6) hfl).mono ?_
  rintro e w7 ⟨g6, rfl, hg6, hO7, hB7⟩
  have HA := Lib.hid (HA.out.below (hB7.mono hs6))
  have HB := Lib.hid (HB.out.below (Nat.le_refl _) hB7)
  have hs7 := hB7.size
  have B7 := B6.trans (hB7.mono B6.size)
  clear p0 p1 p2 p3 hB7
  have hA7 := (Below.refl w7.heap.size w7).alloc (Nat.le_refl _) (.cells #[.string t, .string s, .slice (some ⟨g6, 0, none⟩) fs.length fs.length, .string y] 26)
  have HX := Lib.hid (show PeX (w7.alloc (.cells #[.string t, .string s, .slice (some ⟨g6, 0, none⟩) fs.length fs.length, .string y] 26)) g6 w7.heap.size t s fs y from ⟨hO7.alloc _, BxN.new _ _ _ _ _ _, hO7.lt⟩)
  have HA := Lib.hid (HA.out.below (hA7.mono (by omega)))
  have HB := Lib.hid (HB.out.below (by omega) (hA7.mono (by omega)))
  have B7 := B7.trans (hA7.mono B7.size)
  clear hO7 hA7
  go_upto_region 11 with (fail)
  generalize w7.alloc (.cells #[.string t, .string s, .slice (some ⟨g6, 0, none⟩) fs.length fs.length, .string y] 26) = v7 at *
  have hv7 : w7.heap.size < v7.heap.size := blk_lt HX.out.bx
  have Hc8 := Lib.hid (putEI_any pb Hpb.out es _ n n t s fs y _ fs.length v7 (HB.out.hf.more (Nat.zero_le _) (by omega)) (HX.out.own.in_ rfl) (Nat.le_refl _) Hs.out Hs'.out hn Hz3.out)
  rw [Hres.out] at Hc8
  obtain ⟨p0, p1, p2, p3⟩ := HX.out.bx.four
  go_wp2_with fail
  refine Hc8.out.mono ?_
  rintro e w8 ⟨v8, bs8, rfl, hown8, hB8⟩
  obtain ⟨a8, c8, rfl, _, _⟩ := hown8.form
  have HC := Lib.hid hown8
  clear Hc8 hown8 p0 p1 p2 p3
  have HA := Lib.hid (HA.out.below (hB8.mono (by omega)))
  have HB := Lib.hid (HB.out.below (by omega) (hB8.mono (by omega)))
  have HX := Lib.hid (HX.out.below hB8)
  have hB8s := hB8.size
  have B8 := B7.trans (hB8.mono B7.size)
  go_wp2_with fail
  refine (eqEntryS_any rs a8 a0 rs.length c8 c0 _ HC.out.at_ (HA.out.h0.more (Nat.le_refl _) (by omega)) Hrs.out.1 hrl).mono ?_
  rintro e w9 ⟨rfl, hB9⟩
  have HA := Lib.hid (HA.out.below (hB9.mono (by omega)))
  have HB := Lib.hid (HB.out.below (by omega) (hB9.mono (by omega)))
  have HX := Lib.hid (HX.out.below hB9)
  have HC := Lib.hid (HC.out.below hB9)
  have hB9s := hB9.size
  have B9 := B8.trans (hB9.mono B8.size)
  go_wp2_with fail
  refine (toEntryS_any es a n c _ (HA.out.hf.more (Nat.le_refl _) (by omega)) hn2).mono ?_
  rintro e u1 ⟨g5, rfl, hu1, hC1⟩
  have HA := Lib.hid (HA.out.below (hC1.mono (by omega)))
  have HB := Lib.hid (HB.out.below (by omega) (hC1.mono (by omega)))
  have HX := Lib.hid (HX.out.below hC1)
  have HC := Lib.hid (HC.out.below hC1)
  have hC1s := hC1.size
  have Be := B9.trans (hC1.mono B9.size)
  go_wp2_with fail
  refine (eqEntryS_any es _ _ n n n _ (HB.out.hf.more (Nat.zero_le _) (by omega)) (hu1.more (Nat.zero_le _) (Nat.le_refl _)) Hs.out hn).mono ?_
  rintro e u2 ⟨rfl, hC2⟩
  clear hu1
  have HA := Lib.hid (HA.out.below (hC2.mono (by omega)))
  have HB := Lib.hid (HB.out.below (by omega) (hC2.mono (by omega)))
  have HX := Lib.hid (HX.out.below hC2)
  have HC := Lib.hid (HC.out.below hC2)
  have hC2s := hC2.size
  have Bg := Be.trans (hC2.mono Be.size)
  go_wp2_with fail
  have hDd := (Below.refl u2.heap.size u2).drew
  have HA := Lib.hid (HA.out.below (hDd.mono (by omega)))
  have HB := Lib.hid (HB.out.below (by omega) (hDd.mono (by omega)))
  have HX := Lib.hid (HX.out.below hDd)
  have HC := Lib.hid (HC.out.below hDd)
  have hDds := hDd.size
  have Bd := Bg.trans (hDd.mono Bg.size)
  have HQ0 := Lib.hid (and8 (And.intro HX.out.bx.four HA.out.bx.four))
  go_region_held3 (fun w' => w'.cell? ⟨w7.heap.size, 0, none⟩ = some (.string t) ∧ w'.cell? ⟨w7.heap.size, 1, none⟩ = some (.string s) ∧ w'.cell? ⟨w7.heap.size, 2, none⟩ = some (.slice (some ⟨g6, 0, none⟩) fs.length fs.length) ∧ w'.cell? ⟨w7.heap.size, 3, none⟩ = some (.string y) ∧ w'.cell? ⟨w.heap.size, 0, none⟩ = some (.string t) ∧ w'.cell? ⟨w.heap.size, 1, none⟩ = some (.string s) ∧ w'.cell? ⟨w.heap.size, 2, none⟩ = some (.slice a1 fs.length c1) ∧ w'.cell? ⟨w.heap.size, 3, none⟩ = some (.string y)) (first | exact HQ0.out | exact HQ1.out | exact HQ2.out)
    ((first
     | (go_at_call 17; refine (toEntry_any t s fs y a1 fs.length c1 _ (HA.out.hk.more (by omega)) hfl).mono ?_; rintro e u3 ⟨g9, rfl, hg9, hO9, hC3⟩; have HAx := Lib.hid (HA.out.below (hC3.mono (by omega))); have HBx := Lib.hid (HB.out.below (by omega) (hC3.mono (by omega))); have HXx := Lib.hid (HX.out.below hC3); have HCx := Lib.hid (HC.out.below hC3); have hC3s := hC3.size; have Bh := Bd.trans (hC3.mono Bd.size); have HQ1 := Lib.hid (and8 (And.intro HXx.out.bx.four HAx.out.bx.four)))
     | (go_at_call 10; refine (eqEntry_any t s fs y _ _ fs.length _ _ u3 (HXx.out.own.in_ rfl) (hO9.in_ rfl) hn1).mono ?_; rintro e u4 ⟨rfl, hC4⟩; have HAy := Lib.hid (HAx.out.below (hC4.mono (by omega))); have HBy := Lib.hid (HBx.out.below (by omega) (hC4.mono (by omega))); have HXy := Lib.hid (HXx.out.below hC4); have HCy := Lib.hid (HCx.out.below hC4); have hC4s := hC4.size; have Bi := Bh.trans (hC4.mono Bh.size); have HQ2 := Lib.hid (and8 (And.intro HXy.out.bx.four HAy.out.bx.four)))))
  clear HQ0 HQ1 HQ2 hO9 hg9 HA HB HX HC HAx HBx HXx HCx
  have HA := HAy
  have HB := HBy
  have HX := HXy
  have HC := HCy
  clear HAy HBy HXy HCy
  have hmle := enMk_le es
  go_wp2_with fail
  refine (markEs_any gs n n 1 (gs + 1) w6.heap.size es u4 HB.out.sk hnl (Nat.lt_succ_self _) HB.out.lg (by omega) (Nat.le_refl _) (by omega) hn2).mono ?_
  rintro e w10 ⟨rfl, hT⟩
  have hTs := hT.size
  have hM := hT.below (show gs ≤ u4.heap.size by have := HB.out.lg; omega)
  have HA := Lib.hid (HA.out.below (hM.mono (by have := Hgs.out; omega)))
  have HX := Lib.hid (HX.out.tch hT hg6)
  have HC := Lib.hid (HC.out.tch (hT.more (Nat.le_refl _) (show w6.heap.size ≤ v7.heap.size by omega)))
  have B10 := Bi.trans (hM.mono (by have := Hgs.out; have := B5.size; omega))
  clear hT hM HB
  obtain ⟨p0, p1, p2, p3⟩ := HX.out.bx.four
  have hgx := HX.out.lt
  go_wp2_with fail
  refine (markEn_any t s fs y _ fs.length w6.heap.size (1 + enMk es) w10 (HX.out.owns hg6 hfl) hfl (by omega) (by omega)).mono ?_
  rintro e w11 ⟨rfl, _, hgr⟩
  have hgrs := hgr.size
  have hM : Below w6.heap.size w10 w11 := (Below.refl _ _).grown hgr (by omega) (fun q hq => by have hq : g6 = q := by injection hq
                                                                                                omega)
  have HA := Lib.hid (HA.out.below (hM.mono (by omega)))
  have hcin := HC.out.in_
  have HC := Lib.hid (HC.out.keep hgrs fun q hq => hgr.block q (hcin q hq).2 fun e => by
    have e : q = g6 := by injection e
    have := (hcin q hq).1
    omega)
  have B11 := B10.trans (hM.mono (by have := B6.size; omega))
  clear hM hgr hcin p0 p1 p2 p3 HX
  have hneg : ¬ (((1 + enMk es + 2 * fs.length : Nat) : Int) < 0) := by omega
  go_wp2_with fail
  refine (eqEntryS_any rs a8 a0 rs.length c8 c0 _ HC.out.at_ (HA.out.h0.more (Nat.le_refl _) (by omega)) Hrs.out.1 hrl).mono ?_
  rintro e w12 ⟨rfl, hB12⟩
  have HA := Lib.hid (HA.out.below (hB12.mono (by omega)))
  have HC := Lib.hid (HC.out.below hB12)
  have hB12s := hB12.size
  have B12 := B11.trans (hB12.mono B11.size)
  go_wp2_with fail
  refine (markD_any _ v7.heap.size 1 rs bs8 w12 HC.out (Nat.le_refl _) (by omega) Hrs.out.2).mono ?_
  rintro e w13 ⟨rfl, hmk13, hM13⟩
  have hs13 := hM13.size
  have HC := Lib.hid hmk13
  have HA := Lib.hid (HA.out.below (hM13.mono (by omega)))
  have B13 := B12.trans (hM13.mono (by have := B7.size; omega))
  clear hmk13 hM13
  go_wp2_with fail
  refine (heldD_any a8 rs.length c8 1 rs _ HC.out.at_ (Nat.le_refl _) (by omega) Hrs.out.2).mono ?_
  rintro e w14 ⟨rfl, hB14⟩
  have HA := Lib.hid (HA.out.below (hB14.mono (by omega)))
  have HC := Lib.hid (HC.out.below hB14)
  have hB14s := hB14.size
  have B14 := B13.trans (hB14.mono B13.size)
  have hneg2 : ¬ (((1 + enMk rs : Nat) : Int) < 0) := by omega
  go_wp2_with fail
  have hDe := (Below.refl w14.heap.size w14).drew
  have HA := Lib.hid (HA.out.below (hDe.mono (by omega)))
  have HC := Lib.hid (HC.out.below hDe)
  have hDes := hDe.size
  have Bk := B14.trans (hDe.mono B14.size)
  have HQ0 := Lib.hid HA.out.bx.four
  go_region_held3 (fun w' => w'.cell? ⟨w.heap.size, 0, none⟩ = some (.string t) ∧ w'.cell? ⟨w.heap.size, 1, none⟩ = some (.string s) ∧ w'.cell? ⟨w.heap.size, 2, none⟩ = some (.slice a1 fs.length c1) ∧ w'.cell? ⟨w.heap.size, 3, none⟩ = some (.string y)) (first | exact HQ0.out | exact HQ1.out | exact HQ2.out | exact HQ3.out)
    ((first
     | (go_at_call 8; refine (toEntryS_any es a n c _ (HA.out.hf.more (Nat.le_refl _) (by omega)) hn2).mono ?_; rintro e x3 ⟨g3, rfl, hO3, hD3⟩; have HAx := Lib.hid (HA.out.below (hD3.mono (by omega))); have HCx := Lib.hid (HC.out.below hD3); have hD3s := hD3.size; have Bl := Bk.trans (hD3.mono Bk.size); have HQ1 := Lib.hid HAx.out.bx.four)
     | (go_at_call 17; refine (toEntry_any t s fs y a1 fs.length c1 x3 (HAx.out.hk.more (by omega)) hfl).mono ?_; rintro e x4 ⟨g4, rfl, hg4, hO4, hD4⟩; have HAy := Lib.hid (HAx.out.below (hD4.mono (by omega))); have HCy := Lib.hid (HCx.out.below hD4); have hD4s := hD4.size; have Bm := Bl.trans (hD4.mono Bl.size); have hO3 := hO3.next hD4; have HQ2 := Lib.hid HAy.out.bx.four)
     | (go_at_call 18; have Hc9 := Lib.hid (putEI_any pb Hpb.out es _ n n t s fs y _ fs.length x4 (hO3.more (Nat.zero_le _) (Nat.le_refl _)) (hO4.in_ rfl) (Nat.le_refl _) Hs.out Hs'.out hn Hz3.out); rw [Hres.out] at Hc9; refine Hc9.out.mono ?_; rintro e x5 ⟨v9, bs9, rfl, hown9, hD5⟩; have HAz := Lib.hid (HAy.out.below (hD5.mono (by omega))); have HCz := Lib.hid (HCy.out.below hD5); have hD5s := hD5.size; have Bn := Bm.trans (hD5.mono Bm.size); have HQ3 := Lib.hid HAz.out.bx.four)))
  obtain ⟨a9, c9, rfl, _, _⟩ := hown9.form
  have Hk9 := Lib.hid hown9.at_
  clear HQ0 HQ1 HQ2 HQ3 HA HC HAx HCx HAy HCy hO3 hO4 hg4 hown9
  have HA := HAz
  have HC := HCz
  clear HAz HCz
  go_wp2_with fail
  refine (eqEntryS_any rs a9 a0 rs.length c9 c0 _ Hk9.out (HA.out.h0.more (Nat.le_refl _) (by omega)) Hrs.out.1 hrl).mono ?_
  rintro e w16 ⟨rfl, hB16⟩
  have HA := Lib.hid (HA.out.below (hB16.mono (by omega)))
  have HC := Lib.hid (HC.out.below hB16)
  have hB16s := hB16.size
  have B16 := Bn.trans (hB16.mono Bn.size)
  go_wp2_with fail
  refine (heldD_any a8 rs.length c8 1 rs _ HC.out.at_ (Nat.le_refl _) (by omega) Hrs.out.2).mono ?_
  rintro e w17 ⟨rfl, hB17⟩
  have B17 := B16.trans (hB17.mono B16.size)
  go_wp2_with fail
  go_ret
  exact ⟨rfl, B17⟩
end Go.Proofs.YtaiijnepeccllaaGreat
