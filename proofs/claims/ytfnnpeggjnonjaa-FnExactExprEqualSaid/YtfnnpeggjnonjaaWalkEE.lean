/-
  The exact law of ExprEqual, walked.
-/
import Derived.Test.YtfnnpeggjnonjaaEqW
import Derived.Test.YtfnnpeggjnonjaaEqS
import Derived.Test.YtfnnpeggjnonjaaEqB
import Derived.Test.YtfnnpeggjnonjaaTreeE
import Derived.Test.YtfnnpeggjnonjaaTreeZ
import Derived.Deep.RegionHeld3
import Derived.Deep.DeepCutAuto
namespace Go.Proofs.Ytfnnpeggjnonjaa
set_option linter.unusedVariables false
set_option linter.unusedSimpArgs false
open Go.RowKit

/-- the two arguments in their boxes -/
def ArE (V : World) (g : Nat) (k : Int) (s : ByteArray) (ks : Fo) (a : Option Addr) (c : Nat) (g' : Nat) (k' : Int) (s' : ByteArray) (ls : Fo) (b : Option Addr) (d : Nat) (T : TypeId) : Prop := ExB V g k s ks a ks.len c T ∧ ExB V g' k' s' ls b ls.len d T
theorem ArE.next {V V' : World} {g g' : Nat} {k k' : Int} {s s' : ByteArray} {ks ls : Fo} {a b : Option Addr} {c d : Nat} {T : TypeId} (h : ArE V g k s ks a c g' k' s' ls b d T) (hB : Below V.heap.size V V') : ArE V' g k s ks a c g' k' s' ls b d T := ⟨h.1.next hB, h.2.next hB⟩
theorem szE_pos {left : Int} {s : ByteArray} {ks : Fo} (h : (s.size + ks.len + ks.tot : Int) ≤ left) : szE left s ks = left - (s.size + ks.len + ks.tot) := by unfold szE; rw [if_pos h]
theorem szE_neg {left : Int} {s : ByteArray} {ks : Fo} (h : ¬ (s.size + ks.len + ks.tot : Int) ≤ left) : szE left s ks = -1 := by unfold szE; rw [if_neg h]

set_option maxRecDepth 100000 in
set_option maxHeartbeats 8000000 in
theorem walkFnExactExprEqual (k : Int) (s : ByteArray) (ks : Fo) (a : Option Addr) (n c : Nat) (k' : Int) (s' : ByteArray) (ls : Fo) (b : Option Addr) (m d : Nat) (w : World) (h : InE w s ks a n c) (h' : InE w s' ls b m d) :
    Calls Try.prog 3 #[.agg #[.int .i64 k, .string s, .slice a n c], .agg #[.int .i64 k', .string s', .slice b m d]] w fun e w' => e = .returned (.bool true) ∧ Below w.heap.size w w' := by
  obtain ⟨hf, hfit, hss, hnc, hn⟩ := h
  obtain ⟨hg, hfit', hss', hmd, hm⟩ := h'
  obtain rfl : ks.len = n := hf.1
  obtain rfl : ls.len = m := hg.1
  have B0 := ((Below.refl w.heap.size w).alloc (Nat.le_refl _) (.cells #[.int .i64 k, .string s, .slice a ks.len c] 24)).alloc (by simp) (.cells #[.int .i64 k', .string s', .slice b ls.len d] 24)
  have hb2 := BxE.new (w.alloc (.cells #[.int .i64 k, .string s, .slice a ks.len c] 24)) k' s' (.slice b ls.len d) 24
  rw [World.size_alloc] at hb2
  have H0 : ArE ((w.alloc (.cells #[.int .i64 k, .string s, .slice a ks.len c] 24)).alloc (.cells #[.int .i64 k', .string s', .slice b ls.len d] 24)) w.heap.size k s ks a c (w.heap.size + 1) k' s' ls b d 24 :=
    ⟨⟨(Below.heap_alloc _ _ _ (by simp)).trans (BxE.new w k s (.slice a ks.len c) 24), hf.next B0⟩, ⟨hb2, hg.next B0⟩⟩
  have H0 := Lib.hid H0
  have Hs := Lib.hid (And.intro hfit (And.intro hss hn))
  have Hs' := Lib.hid (And.intro hfit' (And.intro hss' hm))
  clear hb2 hf hg hfit hfit' hss hss'
  by_cases hsz : (s.size + ks.len + ks.tot : Int) ≤ 1048576
  case neg =>
    have Hsz := Lib.hid (szE_neg hsz)
    clear hsz
    go_enter Try.func3, Try.ntmps3
    go_wp2_with fail
    refine (szExpr_any k s ks a ks.len c 1048576 _ H0.out.1.2 Hs.out.1 Hs.out.2.1 Hs.out.2.2 (by omega) (by omega)).mono ?_
    rintro e w1 ⟨rfl, hB1⟩
    have B1 := B0.trans (hB1.mono B0.size)
    rw [Hsz.out]
    go_wp2_with fail
    go_ret
    exact ⟨rfl, B1⟩
  case pos =>
  have hz0 : 0 ≤ szE 1048576 s ks := by rw [szE_pos hsz]; omega
  have hz9 : szE 1048576 s ks ≤ 1048576 := by rw [szE_pos hsz]; omega
  have hts : ks.len + ks.tot ≤ 1048576 := by omega
  by_cases hsz2 : (s'.size + ls.len + ls.tot : Int) ≤ szE 1048576 s ks
  case neg =>
    have Hsz2 := Lib.hid (szE_neg hsz2)
    clear hsz hsz2 hts
    go_enter Try.func3, Try.ntmps3
    go_wp2_with fail
    refine (szExpr_any k s ks a ks.len c 1048576 _ H0.out.1.2 Hs.out.1 Hs.out.2.1 Hs.out.2.2 (by omega) (by omega)).mono ?_
    rintro e w1 ⟨rfl, hB1⟩
    have B1 := B0.trans (hB1.mono B0.size)
    have H1 := Lib.hid (H0.out.next hB1)
    obtain ⟨⟨p0, p1, p2⟩, ⟨q0, q1, q2⟩⟩ := And.intro H1.out.1.three H1.out.2.three
    generalize szE 1048576 s ks = z at *
    go_wp2_with fail
    refine (szExpr_any k' s' ls b ls.len d z _ H1.out.2.2 Hs'.out.1 Hs'.out.2.1 Hs'.out.2.2 hz0 hz9).mono ?_
    rintro e w2 ⟨rfl, hB2⟩
    have B2 := B1.trans (hB2.mono B1.size)
    rw [Hsz2.out]
    go_wp2_with fail
    go_ret
    exact ⟨rfl, B2⟩
  case pos =>
  have hts' : ls.len + ls.tot ≤ 1048576 := by rw [szE_pos hsz] at hsz2; omega
  have hz1 : 0 ≤ szE (szE 1048576 s ks) s' ls := by rw [szE_pos hsz2]; omega
  have Hts := Lib.hid (And.intro hts hts')
  clear hsz hsz2 hts hts'
  go_enter Try.func3, Try.ntmps3
  go_wp2_with fail
  refine (szExpr_any k s ks a ks.len c 1048576 _ H0.out.1.2 Hs.out.1 Hs.out.2.1 Hs.out.2.2 (by omega) (by omega)).mono ?_
  rintro e w1 ⟨rfl, hB1⟩
  have B1 := B0.trans (hB1.mono B0.size)
  have H1 := Lib.hid (H0.out.next hB1)
  obtain ⟨⟨p0, p1, p2⟩, ⟨q0, q1, q2⟩⟩ := And.intro H1.out.1.three H1.out.2.three
  generalize szE 1048576 s ks = z at *
  go_wp2_with fail
  refine (szExpr_any k' s' ls b ls.len d z _ H1.out.2.2 Hs'.out.1 Hs'.out.2.1 Hs'.out.2.2 hz0 hz9).mono ?_
  rintro e w2 ⟨rfl, hB2⟩
  have B2 := B1.trans (hB2.mono B1.size)
  have H2 := Lib.hid (H1.out.next hB2)
  generalize szE z s' ls = z2 at *
  have hz1' : ¬ z2 < 0 := by omega
  clear p0 p1 p2 q0 q1 q2 hB2 hB1
  go_wp2_with fail
  have hD := (Below.refl w2.heap.size w2).drew
  have HD := Lib.hid (H2.out.next hD)
  have BD := B2.trans (hD.mono B2.size)
  have fD := HD.out.1.2
  obtain ⟨r, hr⟩ : ∃ r : Bool, (r = true ↔ k = k' ∧ s = s' ∧ ks = ls) := by
    by_cases h : k = k' ∧ s = s' ∧ ks = ls
    · exact ⟨true, by simp [h]⟩
    · exact ⟨false, by simp [h]⟩
  have Hr := Lib.hid hr
  clear hr
  have HC2 := Lib.hid (and6 (And.intro HD.out.1.three HD.out.2.three))
  go_region_held3 (fun w' => w'.cell? ⟨w.heap.size, 0, none⟩ = some (.int .i64 k) ∧ w'.cell? ⟨w.heap.size, 1, none⟩ = some (.string s) ∧ w'.cell? ⟨w.heap.size, 2, none⟩ = some (.slice a ks.len c) ∧ w'.cell? ⟨w.heap.size + 1, 0, none⟩ = some (.int .i64 k') ∧ w'.cell? ⟨w.heap.size + 1, 1, none⟩ = some (.string s') ∧ w'.cell? ⟨w.heap.size + 1, 2, none⟩ = some (.slice b ls.len d)) (first | exact HC2.out | exact HC3.out | exact HC4.out | exact HC5.out)
    ((first
     | (go_at_call 7; (with_reducible refine (toExpr_sk k s ks a ks.len c w2.drew fD Hts.out.1).mono ?_); rintro e w3 ⟨g3, rfl, hO3, hB3⟩; have B3 := BD.trans (hB3.mono BD.size); have H3 := Lib.hid (HD.out.next hB3); have HC3 := Lib.hid (and6 (And.intro H3.out.1.three H3.out.2.three)))
     | (go_at_call 7; refine (toExpr_sk k' s' ls b ls.len d w3 H3.out.2.2 Hts.out.2).mono ?_; rintro e w4 ⟨g4, rfl, hO4, hB4⟩; have B4 := B3.trans (hB4.mono B3.size); have H4 := Lib.hid (H3.out.next hB4); have hO3 := hO3.next hB4; have HC4 := Lib.hid (and6 (And.intro H4.out.1.three H4.out.2.three)))
     | (go_at_call 6; refine (eqSp_any ks k k' s s' ls _ _ _ _ _ _ w4 r (hO3.1.more (Nat.zero_le _) (Nat.le_refl _)) (hO4.1.more (Nat.zero_le _) (Nat.le_refl _)) Hs.out.1 Hs'.out.1 Hs.out.2.2 Hs'.out.2.2 Hr.out).mono ?_; rintro e w5 ⟨rfl, hB5⟩; have B5 := B4.trans (hB5.mono B4.size); have H5 := Lib.hid (H4.out.next hB5); have HC5 := Lib.hid (and6 (And.intro H5.out.1.three H5.out.2.three)))))
  have hrr : (r != r) = false := by simp
  obtain ⟨⟨p0, p1, p2⟩, ⟨q0, q1, q2⟩⟩ := And.intro H5.out.1.three H5.out.2.three
  clear hB3 hB4 hB5 hO3 hO4 HC2 HC3 HC4 HC5
  go_wp2_with fail
  refine (toExpr_sk k s ks a ks.len c w5 H5.out.1.2 Hts.out.1).mono ?_
  rintro e w6 ⟨g6, rfl, hO6, hB6⟩
  have B6 := B5.trans (hB6.mono B5.size)
  have H6 := Lib.hid (H5.out.next hB6)
  clear p0 p1 p2 q0 q1 q2
  have hA6 := (Below.refl w6.heap.size w6).alloc (Nat.le_refl _) (.cells #[.int .i64 k, .string s, .slice (some ⟨g6, 0, none⟩) ks.len ks.len] 29)
  have X6 := Lib.hid (show ExC (w6.alloc (.cells #[.int .i64 k, .string s, .slice (some ⟨g6, 0, none⟩) ks.len ks.len] 29)) w6.heap.size k s ks (some ⟨g6, 0, none⟩) ks.len ks.len 29 from ⟨⟨BxE.new _ _ _ _ _, (hO6.1.next hA6).more (Nat.zero_le _) (Nat.le_refl _)⟩, hO6.rd.keep fun b hb => hA6.block b hb⟩)
  have H6 := Lib.hid (H6.out.next hA6)
  have B6 := B6.trans (hA6.mono B6.size)
  go_upto_region 10 with (fail)
  generalize w6.alloc (.cells #[.int .i64 k, .string s, .slice (some ⟨g6, 0, none⟩) ks.len ks.len] 29) = v6 at *
  obtain ⟨⟨p0, p1, p2⟩, ⟨q0, q1, q2⟩⟩ := And.intro H6.out.1.three H6.out.2.three
  go_wp2_with fail
  refine (toExpr_sk k' s' ls b ls.len d v6 H6.out.2.2 Hts.out.2).mono ?_
  rintro e w7 ⟨g7, rfl, hO7, hB7⟩
  have B7 := B6.trans (hB7.mono B6.size)
  have H7 := Lib.hid (H6.out.next hB7)
  have X7 := Lib.hid (X6.out.next hB7)
  clear p0 p1 p2 q0 q1 q2
  have hA7 := (Below.refl w7.heap.size w7).alloc (Nat.le_refl _) (.cells #[.int .i64 k', .string s', .slice (some ⟨g7, 0, none⟩) ls.len ls.len] 29)
  have Y7 : ExC (w7.alloc (.cells #[.int .i64 k', .string s', .slice (some ⟨g7, 0, none⟩) ls.len ls.len] 29)) w7.heap.size k' s' ls (some ⟨g7, 0, none⟩) ls.len ls.len 29 := ⟨⟨BxE.new _ _ _ _ _, (hO7.1.next hA7).more (Nat.zero_le _) (Nat.le_refl _)⟩, hO7.rd.keep fun b hb => hA7.block b hb⟩
  have XY := Lib.hid (And.intro (X7.out.next hA7) Y7)
  have H7 := Lib.hid (H7.out.next hA7)
  have B7 := B7.trans (hA7.mono B7.size)
  go_upto_region 11 with (fail)
  generalize w7.alloc (.cells #[.int .i64 k', .string s', .slice (some ⟨g7, 0, none⟩) ls.len ls.len] 29) = v7 at *
  have hl6 := blk_lt XY.out.1.1.1
  clear hB6 hB7 hO6 hO7 hA6 hA7 X6 X7 Y7
  obtain ⟨c0, c1, c2⟩ := XY.out.1.1.three
  obtain ⟨d0, d1, d2⟩ := XY.out.2.1.three
  go_wp2_with fail
  refine (eqI_any r k k' s s' ks ls Hr.out _ _ _ _ _ _ v7 XY.out.1.2 XY.out.2.2 (Nat.le_refl _) (Nat.le_refl _) (by have := ks.size_le; have := Hts.out.1; omega) ⟨Hs.out.2.1, Hs.out.2.2, Hs'.out.2.2⟩).mono ?_
  rintro e w8 ⟨rfl, hB8⟩
  have B8 := B7.trans (hB8.mono B7.size)
  have H8 := Lib.hid (H7.out.next hB8)
  have XY8 := Lib.hid (And.intro (XY.out.1.1.next hB8) (XY.out.2.1.next hB8))
  clear c0 c1 c2 d0 d1 d2 hB8
  go_wp2_with fail
  have hD := (Below.refl w8.heap.size w8).drew
  have H8 := Lib.hid (H8.out.next hD)
  have XY8 := Lib.hid (And.intro (XY8.out.1.next hD) (XY8.out.2.next hD))
  have B8 := B8.trans (hD.mono B8.size)
  have fD := H8.out.1.2
  have C8 := Lib.hid (and6 (And.intro XY8.out.1.three H8.out.1.three))
  go_region_held3 (fun w' => w'.cell? ⟨w6.heap.size, 0, none⟩ = some (.int .i64 k) ∧ w'.cell? ⟨w6.heap.size, 1, none⟩ = some (.string s) ∧ w'.cell? ⟨w6.heap.size, 2, none⟩ = some (.slice (some ⟨g6, 0, none⟩) ks.len ks.len) ∧ w'.cell? ⟨w.heap.size, 0, none⟩ = some (.int .i64 k) ∧ w'.cell? ⟨w.heap.size, 1, none⟩ = some (.string s) ∧ w'.cell? ⟨w.heap.size, 2, none⟩ = some (.slice a ks.len c)) (first | exact C8.out | exact C9.out | exact C10.out)
    ((first
     | (go_at_call 7; refine (toExpr_sk k s ks a ks.len c _ fD Hts.out.1).mono ?_; rintro e w9 ⟨g9, rfl, hO9, hB9⟩; have B9 := B8.trans (hB9.mono B8.size); have H9 := Lib.hid (H8.out.next hB9); have XY9 := Lib.hid (And.intro (XY8.out.1.next hB9) (XY8.out.2.next hB9)); have C9 := Lib.hid (and6 (And.intro XY9.out.1.three H9.out.1.three)))
     | (go_at_call 9; refine (eqExpr_yes k s ks _ _ ks.len _ _ w9 XY9.out.1.2 (hO9.1.more (Nat.zero_le _) (Nat.le_refl _)) Hs.out.1 Hs.out.2.2).mono ?_; rintro e w10 ⟨rfl, hB10⟩; have B10 := B9.trans (hB10.mono B9.size); have H10 := Lib.hid (H9.out.next hB10); have XY10 := Lib.hid (And.intro (XY9.out.1.next hB10) (XY9.out.2.next hB10)); have C10 := Lib.hid (and6 (And.intro XY10.out.1.three H10.out.1.three)))))
  clear hB9 hB10 hO9 C8 C9 C10 fD hD
  go_wp2_with fail
  have hD := (Below.refl w10.heap.size w10).drew
  have H10 := Lib.hid (H10.out.next hD)
  have XY10 := Lib.hid (And.intro (XY10.out.1.next hD) (XY10.out.2.next hD))
  have B10 := B10.trans (hD.mono B10.size)
  have fD := H10.out.2.2
  have C8 := Lib.hid (and6 (And.intro XY10.out.2.three H10.out.2.three))
  go_region_held3 (fun w' => w'.cell? ⟨w7.heap.size, 0, none⟩ = some (.int .i64 k') ∧ w'.cell? ⟨w7.heap.size, 1, none⟩ = some (.string s') ∧ w'.cell? ⟨w7.heap.size, 2, none⟩ = some (.slice (some ⟨g7, 0, none⟩) ls.len ls.len) ∧ w'.cell? ⟨w.heap.size + 1, 0, none⟩ = some (.int .i64 k') ∧ w'.cell? ⟨w.heap.size + 1, 1, none⟩ = some (.string s') ∧ w'.cell? ⟨w.heap.size + 1, 2, none⟩ = some (.slice b ls.len d)) (first | exact C8.out | exact C9.out | exact C10.out)
    ((first
     | (go_at_call 7; refine (toExpr_sk k' s' ls b ls.len d _ fD Hts.out.2).mono ?_; rintro e w11 ⟨g9, rfl, hO9, hB9⟩; have B11 := B10.trans (hB9.mono B10.size); have H11 := Lib.hid (H10.out.next hB9); have XY11 := Lib.hid (And.intro (XY10.out.1.next hB9) (XY10.out.2.next hB9)); have C9 := Lib.hid (and6 (And.intro XY11.out.2.three H11.out.2.three)))
     | (go_at_call 9; refine (eqExpr_yes k' s' ls _ _ ls.len _ _ w11 XY11.out.2.2 (hO9.1.more (Nat.zero_le _) (Nat.le_refl _)) Hs'.out.1 Hs'.out.2.2).mono ?_; rintro e w12 ⟨rfl, hB10⟩; have B12 := B11.trans (hB10.mono B11.size); have H12 := Lib.hid (H11.out.next hB10); have XY12 := Lib.hid (And.intro (XY11.out.1.next hB10) (XY11.out.2.next hB10)); have C10 := Lib.hid (and6 (And.intro XY12.out.2.three H12.out.2.three)))))
  clear hB9 hB10 hO9 C8 C9 C10 fD hD
  go_wp2_with fail
  go_ret
  exact ⟨rfl, B12⟩
end Go.Proofs.Ytfnnpeggjnonjaa
