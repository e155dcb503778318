/-
  The exact law of ProjectSame, walked.
-/
import Derived.Test.YtfnnpeggjnonjaaPjI
import Derived.Test.YtfnnpeggjnonjaaPjS
import Derived.Test.YtfnnpeggjnonjaaInPr
import Derived.Deep.RegionHeld3
import Derived.Deep.DeepCutAuto
namespace Go.Proofs.Ytfnnpeggjnonjaa
set_option linter.unusedVariables false
set_option linter.unusedSimpArgs false
open Go.RowKit

/-- a box with a project -/
def PjB (V : World) (g : Nat) (fs : List Fl) (rs : List Ru) (a1 a2 : Option Addr) (c1 c2 : Nat) (T : TypeId) : Prop := BxP V g (.slice a1 fs.length c1) (.slice a2 rs.length c2) T ∧ FilesAt V V.heap.size a1 fs.length fs ∧ RuAt V 0 V.heap.size rs a2 rs.length
/-- .. of a law's copy -/
def PjC (V : World) (g : Nat) (fs : List Fl) (rs : List Ru) (a1 a2 : Option Addr) (c1 c2 : Nat) (T : TypeId) : Prop := PjB V g fs rs a1 a2 c1 c2 T ∧ RuP V rs a2 rs.length
section
variable {V V' : World} {g g' : Nat} {fs gs : List Fl} {rs qs : List Ru} {a1 a2 b1 b2 : Option Addr} {c1 c2 d1 d2 : Nat} {T : TypeId}
theorem PjB.next (h : PjB V g fs rs a1 a2 c1 c2 T) (hB : Below V.heap.size V V') : PjB V' g fs rs a1 a2 c1 c2 T := ⟨h.1.next hB, (h.2.1.below hB).more hB.size, h.2.2.next hB⟩
theorem PjC.next (h : PjC V g fs rs a1 a2 c1 c2 T) (hB : Below V.heap.size V V') : PjC V' g fs rs a1 a2 c1 c2 T := ⟨h.1.next hB, h.2.next hB⟩
/-- the two arguments in their boxes -/
def ArP (V : World) (g : Nat) (fs : List Fl) (rs : List Ru) (a1 a2 : Option Addr) (c1 c2 : Nat) (g' : Nat) (gs : List Fl) (qs : List Ru) (b1 b2 : Option Addr) (d1 d2 : Nat) (T : TypeId) : Prop := PjB V g fs rs a1 a2 c1 c2 T ∧ PjB V g' gs qs b1 b2 d1 d2 T
theorem ArP.next (h : ArP V g fs rs a1 a2 c1 c2 g' gs qs b1 b2 d1 d2 T) (hB : Below V.heap.size V V') : ArP V' g fs rs a1 a2 c1 c2 g' gs qs b1 b2 d1 d2 T := ⟨h.1.next hB, h.2.next hB⟩
end
theorem szP_pos {left : Int} {fs : List Fl} {rs : List Ru} (h : (fs.length + tot fs + (rs.length + ruTot rs) : Int) ≤ left) : szP left fs rs = left - (fs.length + tot fs + (rs.length + ruTot rs)) := by unfold szP; rw [if_pos h]
theorem szP_neg {left : Int} {fs : List Fl} {rs : List Ru} (h : ¬ (fs.length + tot fs + (rs.length + ruTot rs) : Int) ≤ left) : szP left fs rs = -1 := by unfold szP; rw [if_neg h]
theorem ru_small {rs : List Ru} (h : rs.length + ruTot rs ≤ 1048576) : ∀ x ∈ rs, x.2.2.2.size ≤ 1048576 := by
  intro x hx
  obtain ⟨j, hj⟩ := List.mem_iff_getElem?.1 hx
  have := ruTot_get hj
  have := x.2.2.2.size_le
  simp only [ruSz] at *
  omega

set_option maxRecDepth 100000 in
set_option maxHeartbeats 8000000 in
theorem walkFnExactProjectSame (a1 a2 : Option Addr) (n1 n2 c1 c2 : Nat) (fs : List Fl) (rs : List Ru) (b1 b2 : Option Addr) (m1 m2 d1 d2 : Nat) (gs : List Fl) (qs : List Ru) (w : World) (h : InP w fs rs a1 a2 n1 n2) (h' : InP w gs qs b1 b2 m1 m2) :
    Calls Try.prog 4 #[.agg #[.slice a1 n1 c1, .slice a2 n2 c2], .agg #[.slice b1 m1 d1, .slice b2 m2 d2]] w fun e w' => e = .returned (.bool true) ∧ Below w.heap.size w w' := by
  obtain ⟨hf, hff, hn1, hr, hrf, hn2⟩ := h
  obtain ⟨hg, hgf, hm1, hq, hqf, hm2⟩ := h'
  obtain rfl := hf.1
  obtain rfl := hr.1
  obtain rfl := hg.1
  obtain rfl := hq.1
  have B0 := ((Below.refl w.heap.size w).alloc (Nat.le_refl _) (.cells #[.slice a1 fs.length c1, .slice a2 rs.length c2] 35)).alloc (by simp) (.cells #[.slice b1 gs.length d1, .slice b2 qs.length d2] 35)
  have hb2 := BxP.new (w.alloc (.cells #[.slice a1 fs.length c1, .slice a2 rs.length c2] 35)) (.slice b1 gs.length d1) (.slice b2 qs.length d2) 35
  rw [World.size_alloc] at hb2
  have H0 : ArP ((w.alloc (.cells #[.slice a1 fs.length c1, .slice a2 rs.length c2] 35)).alloc (.cells #[.slice b1 gs.length d1, .slice b2 qs.length d2] 35)) w.heap.size fs rs a1 a2 c1 c2 (w.heap.size + 1) gs qs b1 b2 d1 d2 35 :=
    ⟨⟨(BxP.new w (.slice a1 fs.length c1) (.slice a2 rs.length c2) 35).alloc _, (hf.below B0).more B0.size, hr.next B0⟩, ⟨hb2, (hg.below B0).more B0.size, hq.next B0⟩⟩
  have H0 := Lib.hid H0
  have Hs := Lib.hid (And.intro hff (And.intro hrf (And.intro hn1 hn2)))
  have Hs' := Lib.hid (And.intro hgf (And.intro hqf (And.intro hm1 hm2)))
  clear hb2 hf hg hr hq hff hgf hrf hqf hn1 hn2 hm1 hm2
  by_cases hsz : (fs.length + tot fs + (rs.length + ruTot rs) : Int) ≤ 1048576
  case neg =>
    have Hsz := Lib.hid (szP_neg hsz)
    clear hsz
    go_enter Try.func4, Try.ntmps4
    go_wp2_with fail
    refine (szProject_any a1 a2 _ _ c1 c2 fs rs 1048576 _ H0.out.1.2.1 H0.out.1.2.2 Hs.out.1 Hs.out.2.1 Hs.out.2.2.1 Hs.out.2.2.2 (by omega) (by omega)).mono ?_
    rintro e w1 ⟨rfl, hB1⟩
    have B1 := B0.trans (hB1.mono B0.size)
    rw [Hsz.out]
    go_wp2_with fail
    go_ret
    exact ⟨rfl, B1⟩
  case pos =>
  have hz0 : 0 ≤ szP 1048576 fs rs := by rw [szP_pos hsz]; omega
  have hz9 : szP 1048576 fs rs ≤ 1048576 := by rw [szP_pos hsz]; omega
  have hts : fs.length + tot fs + (rs.length + ruTot rs) ≤ 1048576 := by omega
  by_cases hsz2 : (gs.length + tot gs + (qs.length + ruTot qs) : Int) ≤ szP 1048576 fs rs
  case neg =>
    have Hsz2 := Lib.hid (szP_neg hsz2)
    clear hsz hsz2 hts
    go_enter Try.func4, Try.ntmps4
    go_wp2_with fail
    refine (szProject_any a1 a2 _ _ c1 c2 fs rs 1048576 _ H0.out.1.2.1 H0.out.1.2.2 Hs.out.1 Hs.out.2.1 Hs.out.2.2.1 Hs.out.2.2.2 (by omega) (by omega)).mono ?_
    rintro e w1 ⟨rfl, hB1⟩
    have B1 := B0.trans (hB1.mono B0.size)
    have H1 := Lib.hid (H0.out.next hB1)
    obtain ⟨p0, p1, q0, q1⟩ := bxP_four (And.intro H1.out.1.1 H1.out.2.1)
    generalize szP 1048576 fs rs = z at *
    go_wp2_with fail
    refine (szProject_any b1 b2 _ _ d1 d2 gs qs z _ H1.out.2.2.1 H1.out.2.2.2 Hs'.out.1 Hs'.out.2.1 Hs'.out.2.2.1 Hs'.out.2.2.2 hz0 hz9).mono ?_
    rintro e w2 ⟨rfl, hB2⟩
    have B2 := B1.trans (hB2.mono B1.size)
    rw [Hsz2.out]
    go_wp2_with fail
    go_ret
    exact ⟨rfl, B2⟩
  case pos =>
  have hts' : gs.length + tot gs + (qs.length + ruTot qs) ≤ 1048576 := by rw [szP_pos hsz] at hsz2; omega
  have hz1 : 0 ≤ szP (szP 1048576 fs rs) gs qs := by rw [szP_pos hsz2]; omega
  have Hts := Lib.hid (And.intro hts hts')
  clear hsz hsz2 hts hts'
  go_enter Try.func4, Try.ntmps4
  go_wp2_with fail
  refine (szProject_any a1 a2 _ _ c1 c2 fs rs 1048576 _ H0.out.1.2.1 H0.out.1.2.2 Hs.out.1 Hs.out.2.1 Hs.out.2.2.1 Hs.out.2.2.2 (by omega) (by omega)).mono ?_
  rintro e w1 ⟨rfl, hB1⟩
  have B1 := B0.trans (hB1.mono B0.size)
  have H1 := Lib.hid (H0.out.next hB1)
  obtain ⟨p0, p1, q0, q1⟩ := bxP_four (And.intro H1.out.1.1 H1.out.2.1)
  generalize szP 1048576 fs rs = z at *
  go_wp2_with fail
  refine (szProject_any b1 b2 _ _ d1 d2 gs qs z _ H1.out.2.2.1 H1.out.2.2.2 Hs'.out.1 Hs'.out.2.1 Hs'.out.2.2.1 Hs'.out.2.2.2 hz0 hz9).mono ?_
  rintro e w2 ⟨rfl, hB2⟩
  have B2 := B1.trans (hB2.mono B1.size)
  have H2 := Lib.hid (H1.out.next hB2)
  generalize szP z gs qs = z2 at *
  have hz1' : ¬ z2 < 0 := by omega
  clear p0 p1 q0 q1 hB2 hB1
  go_wp2_with fail
  have hD := (Below.refl w2.heap.size w2).drew
  have HD := Lib.hid (H2.out.next hD)
  have BD := B2.trans (hD.mono B2.size)
  have fD := HD.out.1.2
  obtain ⟨r, hr⟩ := bool_of (fs = gs ∧ rs = qs)
  have Hr := Lib.hid hr
  clear hr
  have HC2 := Lib.hid (bxP_four (And.intro HD.out.1.1 HD.out.2.1))
  go_region_held3 (fun w' => w'.cell? ⟨w.heap.size, 0, none⟩ = some (.slice a1 fs.length c1) ∧ w'.cell? ⟨w.heap.size, 1, none⟩ = some (.slice a2 rs.length c2) ∧ w'.cell? ⟨w.heap.size + 1, 0, none⟩ = some (.slice b1 gs.length d1) ∧ w'.cell? ⟨w.heap.size + 1, 1, none⟩ = some (.slice b2 qs.length d2)) (first | exact HC2.out | exact HC3.out | exact HC4.out | exact HC5.out)
    ((first
     | (go_at_call 12; (with_reducible refine (toProject_any a1 a2 _ _ c1 c2 fs rs w2.drew fD.1 fD.2 Hts.out.1).mono ?_); rintro e w3 ⟨g3, g3', rfl, hO3, hP3, hB3⟩; have B3 := BD.trans (hB3.mono BD.size); have H3 := Lib.hid (HD.out.next hB3); have HC3 := Lib.hid (bxP_four (And.intro H3.out.1.1 H3.out.2.1)))
     | (go_at_call 12; refine (toProject_any b1 b2 _ _ d1 d2 gs qs w3 H3.out.2.2.1 H3.out.2.2.2 Hts.out.2).mono ?_; rintro e w4 ⟨g4, g4', rfl, hO4, hP4, hB4⟩; have B4 := B3.trans (hB4.mono B3.size); have H4 := Lib.hid (H3.out.next hB4); have hO3 := (hO3.below hB4).more hB4.size; have hP3 := hP3.next hB4; have HC4 := Lib.hid (bxP_four (And.intro H4.out.1.1 H4.out.2.1)))
     | (go_at_call 11; refine (pjSameS_any r fs gs rs qs Hr.out _ _ _ _ _ _ _ _ _ _ _ _ w4 hO3 (hP3.more (Nat.zero_le _) (Nat.le_refl _)) hO4 (hP4.more (Nat.zero_le _) (Nat.le_refl _)) Hs.out.2.1 Hs'.out.2.1 Hs.out.2.2.1 Hs'.out.2.2.1 Hs.out.2.2.2 Hs'.out.2.2.2).mono ?_; rintro e w5 ⟨rfl, hB5⟩; have B5 := B4.trans (hB5.mono B4.size); have H5 := Lib.hid (H4.out.next hB5); have HC5 := Lib.hid (bxP_four (And.intro H5.out.1.1 H5.out.2.1)))))
  have hrr : (r != r) = false := by simp
  obtain ⟨p0, p1, q0, q1⟩ := bxP_four (And.intro H5.out.1.1 H5.out.2.1)
  clear hB3 hB4 hB5 hO3 hO4 hP3 hP4 HC2 HC3 HC4 HC5
  go_wp2_with fail
  refine (toProject_sk a1 a2 _ _ c1 c2 fs rs w5 H5.out.1.2.1 H5.out.1.2.2 Hts.out.1).mono ?_
  rintro e w6 ⟨g6, h6, rfl, hO6, hP6, _, hK6, _, _, hL6, hB6⟩
  have B6 := B5.trans (hB6.mono B5.size)
  have H6 := Lib.hid (H5.out.next hB6)
  have hA6 := (Below.refl w6.heap.size w6).alloc (Nat.le_refl _) (.cells #[.slice (some ⟨g6, 0, none⟩) fs.length fs.length, .slice (some ⟨h6, 0, none⟩) rs.length rs.length] 41)
  have X6 : PjC (w6.alloc (.cells #[.slice (some ⟨g6, 0, none⟩) fs.length fs.length, .slice (some ⟨h6, 0, none⟩) rs.length rs.length] 41)) w6.heap.size fs rs (some ⟨g6, 0, none⟩) (some ⟨h6, 0, none⟩) fs.length rs.length 41 := ⟨⟨BxP.new _ _ _ _, (hO6.below hA6).more hA6.size, (hP6.next hA6).more (Nat.zero_le _) (Nat.le_refl _)⟩, (RuP.of hP6 hK6 hL6).next hA6⟩
  have X6 := Lib.hid X6
  clear p0 p1 q0 q1
  have H6 := Lib.hid (H6.out.next hA6)
  have B6 := B6.trans (hA6.mono B6.size)
  go_upto_region 10 with (fail)
  generalize w6.alloc (.cells #[.slice (some ⟨g6, 0, none⟩) fs.length fs.length, .slice (some ⟨h6, 0, none⟩) rs.length rs.length] 41) = v6 at *
  obtain ⟨p0, p1, q0, q1⟩ := bxP_four (And.intro H6.out.1.1 H6.out.2.1)
  go_wp2_with fail
  refine (toProject_sk b1 b2 _ _ d1 d2 gs qs v6 H6.out.2.2.1 H6.out.2.2.2 Hts.out.2).mono ?_
  rintro e w7 ⟨g7, h7, rfl, hO7, hP7, _, hK7, _, _, hL7, hB7⟩
  have B7 := B6.trans (hB7.mono B6.size)
  have H7 := Lib.hid (H6.out.next hB7)
  have hA7 := (Below.refl w7.heap.size w7).alloc (Nat.le_refl _) (.cells #[.slice (some ⟨g7, 0, none⟩) gs.length gs.length, .slice (some ⟨h7, 0, none⟩) qs.length qs.length] 41)
  have X7 : PjC (w7.alloc (.cells #[.slice (some ⟨g7, 0, none⟩) gs.length gs.length, .slice (some ⟨h7, 0, none⟩) qs.length qs.length] 41)) w7.heap.size gs qs (some ⟨g7, 0, none⟩) (some ⟨h7, 0, none⟩) gs.length qs.length 41 := ⟨⟨BxP.new _ _ _ _, (hO7.below hA7).more hA7.size, (hP7.next hA7).more (Nat.zero_le _) (Nat.le_refl _)⟩, (RuP.of hP7 hK7 hL7).next hA7⟩
  have X6 := Lib.hid (X6.out.next hB7)
  clear p0 p1 q0 q1
  have XY := Lib.hid (And.intro (X6.out.next hA7) X7)
  have H7 := Lib.hid (H7.out.next hA7)
  have B7 := B7.trans (hA7.mono B7.size)
  clear X7
  go_upto_region 11 with (fail)
  generalize w7.alloc (.cells #[.slice (some ⟨g7, 0, none⟩) gs.length gs.length, .slice (some ⟨h7, 0, none⟩) qs.length qs.length] 41) = v7 at *
  clear hB6 hB7 hO6 hO7 hP6 hP7 hK6 hK7 hL6 hL7 hA6 hA7 X6
  obtain ⟨c0, c1', d0, d1'⟩ := bxP_four (And.intro XY.out.1.1.1 XY.out.2.1.1)
  go_wp2_with fail
  refine (pjSameI_any r fs gs rs qs Hr.out _ _ _ _ _ _ _ _ _ _ _ _ v7 XY.out.1.1.2.1 XY.out.1.2 XY.out.2.1.2.1 XY.out.2.2 Hs.out.2.1 Hs'.out.2.1 (ru_small (by have := Hts.out.1; omega)) Hs.out.2.2.1 Hs'.out.2.2.1 Hs.out.2.2.2 Hs'.out.2.2.2).mono ?_
  rintro e w8 ⟨rfl, hB8⟩
  have B8 := B7.trans (hB8.mono B7.size)
  have H8 := Lib.hid (H7.out.next hB8)
  have XY8 := Lib.hid (And.intro (XY.out.1.1.next hB8) (XY.out.2.1.next hB8))
  clear c0 c1' d0 d1' hB8
  go_wp2_with fail
  have hD := (Below.refl w8.heap.size w8).drew
  have H8 := Lib.hid (H8.out.next hD)
  have XY8 := Lib.hid (And.intro (XY8.out.1.next hD) (XY8.out.2.next hD))
  have B8 := B8.trans (hD.mono B8.size)
  have fD := H8.out.1.2
  have C8 := Lib.hid (bxP_four (And.intro XY8.out.1.1 H8.out.1.1))
  go_region_held3 (fun w' => w'.cell? ⟨w6.heap.size, 0, none⟩ = some (.slice (some ⟨g6, 0, none⟩) fs.length fs.length) ∧ w'.cell? ⟨w6.heap.size, 1, none⟩ = some (.slice (some ⟨h6, 0, none⟩) rs.length rs.length) ∧ w'.cell? ⟨w.heap.size, 0, none⟩ = some (.slice a1 fs.length c1) ∧ w'.cell? ⟨w.heap.size, 1, none⟩ = some (.slice a2 rs.length c2)) (first | exact C8.out | exact C9.out | exact C10.out)
    ((first
     | (go_at_call 12; refine (toProject_any a1 a2 _ _ c1 c2 fs rs _ fD.1 fD.2 Hts.out.1).mono ?_; rintro e w9 ⟨g9, g9', rfl, hO9, hP9, hB9⟩; have B9 := B8.trans (hB9.mono B8.size); have H9 := Lib.hid (H8.out.next hB9); have XY9 := Lib.hid (And.intro (XY8.out.1.next hB9) (XY8.out.2.next hB9)); have C9 := Lib.hid (bxP_four (And.intro XY9.out.1.1 H9.out.1.1)))
     | (go_at_call 14; refine (eqProject_any _ _ _ _ _ _ _ _ fs rs w9 XY9.out.1.2.1 XY9.out.1.2.2 hO9 (hP9.more (Nat.zero_le _) (Nat.le_refl _)) Hs.out.2.1 Hs.out.2.2.1 Hs.out.2.2.2).mono ?_; rintro e w10 ⟨rfl, hB10⟩; have B10 := B9.trans (hB10.mono B9.size); have H10 := Lib.hid (H9.out.next hB10); have XY10 := Lib.hid (And.intro (XY9.out.1.next hB10) (XY9.out.2.next hB10)); have C10 := Lib.hid (bxP_four (And.intro XY10.out.1.1 H10.out.1.1)))))
  clear hB9 hB10 hO9 hP9 C8 C9 C10 fD hD
  go_wp2_with fail
  have hD := (Below.refl w10.heap.size w10).drew
  have H10 := Lib.hid (H10.out.next hD)
  have XY10 := Lib.hid (And.intro (XY10.out.1.next hD) (XY10.out.2.next hD))
  have B10 := B10.trans (hD.mono B10.size)
  have fD := H10.out.2.2
  have C8 := Lib.hid (bxP_four (And.intro XY10.out.2.1 H10.out.2.1))
  go_region_held3 (fun w' => w'.cell? ⟨w7.heap.size, 0, none⟩ = some (.slice (some ⟨g7, 0, none⟩) gs.length gs.length) ∧ w'.cell? ⟨w7.heap.size, 1, none⟩ = some (.slice (some ⟨h7, 0, none⟩) qs.length qs.length) ∧ w'.cell? ⟨w.heap.size + 1, 0, none⟩ = some (.slice b1 gs.length d1) ∧ w'.cell? ⟨w.heap.size + 1, 1, none⟩ = some (.slice b2 qs.length d2)) (first | exact C8.out | exact C9.out | exact C10.out)
    ((first
     | (go_at_call 12; refine (toProject_any b1 b2 _ _ d1 d2 gs qs _ fD.1 fD.2 Hts.out.2).mono ?_; rintro e w11 ⟨g9, g9', rfl, hO9, hP9, hB9⟩; have B11 := B10.trans (hB9.mono B10.size); have H11 := Lib.hid (H10.out.next hB9); have XY11 := Lib.hid (And.intro (XY10.out.1.next hB9) (XY10.out.2.next hB9)); have C9 := Lib.hid (bxP_four (And.intro XY11.out.2.1 H11.out.2.1)))
     | (go_at_call 14; refine (eqProject_any _ _ _ _ _ _ _ _ gs qs w11 XY11.out.2.2.1 XY11.out.2.2.2 hO9 (hP9.more (Nat.zero_le _) (Nat.le_refl _)) Hs'.out.2.1 Hs'.out.2.2.1 Hs'.out.2.2.2).mono ?_; rintro e w12 ⟨rfl, hB10⟩; have B12 := B11.trans (hB10.mono B11.size); have H12 := Lib.hid (H11.out.next hB10); have XY12 := Lib.hid (And.intro (XY11.out.1.next hB10) (XY11.out.2.next hB10)); have C10 := Lib.hid (bxP_four (And.intro XY12.out.2.1 H12.out.2.1)))))
  clear hB9 hB10 hO9 hP9 C8 C9 C10 fD hD
  go_wp2_with fail
  go_ret
  exact ⟨rfl, B12⟩
end Go.Proofs.Ytfnnpeggjnonjaa
