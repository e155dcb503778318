/-
  The exact law of EntrySame, walked.
-/
import Derived.Test.YtfegnjmekmmmpaaEnS
import Derived.Deep.RegionHeld3
import Derived.Deep.DeepCutAuto
namespace Go.Proofs.Ytfegnjmekmmmpaa
set_option linter.unusedVariables false
set_option linter.unusedSimpArgs false
open Go.RowKit

/-- what a law's argument is told of: a readable entry -/
def InN (w : World) (t s : ByteArray) (fs : List Fl) (x : ByteArray) (a : Option Addr) (n : Nat) : Prop := FilesAt w w.heap.size a n fs ∧ EnFit (t, s, fs, x) ∧ n ≤ maxLen
theorem BxN.four {w : World} {g : Nat} {t s : ByteArray} {v : Value} {x : ByteArray} {T : TypeId} (h : BxN w g t s v x T) : w.cell? ⟨g, 0, none⟩ = some (.string t) ∧ w.cell? ⟨g, 1, none⟩ = some (.string s) ∧ w.cell? ⟨g, 2, none⟩ = some v ∧ w.cell? ⟨g, 3, none⟩ = some (.string x) := ⟨h.facts.1, h.facts.2.1, h.facts.2.2.1, h.facts.2.2.2.1⟩
/-- a box with an entry whose reads lie somewhere -/
def EnB (V : World) (k : Nat) (t s : ByteArray) (fs : List Fl) (x : ByteArray) (a : Option Addr) (n c : Nat) (T : TypeId) : Prop := BxN V k t s (.slice a n c) x T ∧ FilesAt V V.heap.size a n fs
theorem and8 {a b c d e f g h : Prop} (H : (a ∧ b ∧ c ∧ d) ∧ (e ∧ f ∧ g ∧ h)) : a ∧ b ∧ c ∧ d ∧ e ∧ f ∧ g ∧ h := ⟨H.1.1, H.1.2.1, H.1.2.2.1, H.1.2.2.2, H.2⟩
theorem EnB.next {V V' : World} {k : Nat} {t s : ByteArray} {fs : List Fl} {x : ByteArray} {a : Option Addr} {n c : Nat} {T : TypeId} (h : EnB V k t s fs x a n c T) (hB : Below V.heap.size V V') : EnB V' k t s fs x a n c T := ⟨h.1.next hB, (h.2.below hB).more hB.size⟩
/-- two of them -/
def EnB2 (V : World) (k : Nat) (t s : ByteArray) (fs : List Fl) (x : ByteArray) (a : Option Addr) (n c : Nat) (T : TypeId) (k' : Nat) (t' s' : ByteArray) (fs' : List Fl) (x' : ByteArray) (a' : Option Addr) (n' c' : Nat) (T' : TypeId) : Prop := EnB V k t s fs x a n c T ∧ EnB V k' t' s' fs' x' a' n' c' T'
section
variable {V V' : World} {k : Nat} {t s : ByteArray} {fs : List Fl} {x : ByteArray} {a : Option Addr} {n c : Nat} {T : TypeId} {k' : Nat} {t' s' : ByteArray} {fs' : List Fl} {x' : ByteArray} {a' : Option Addr} {n' c' : Nat} {T' : TypeId}
theorem EnB2.next (h : EnB2 V k t s fs x a n c T k' t' s' fs' x' a' n' c' T') (hB : Below V.heap.size V V') : EnB2 V' k t s fs x a n c T k' t' s' fs' x' a' n' c' T' := ⟨h.1.next hB, h.2.next hB⟩
theorem EnB2.cells (h : EnB2 V k t s fs x a n c T k' t' s' fs' x' a' n' c' T') : V.cell? ⟨k, 0, none⟩ = some (.string t) ∧ V.cell? ⟨k, 1, none⟩ = some (.string s) ∧ V.cell? ⟨k, 2, none⟩ = some (.slice a n c) ∧ V.cell? ⟨k, 3, none⟩ = some (.string x) ∧ V.cell? ⟨k', 0, none⟩ = some (.string t') ∧ V.cell? ⟨k', 1, none⟩ = some (.string s') ∧ V.cell? ⟨k', 2, none⟩ = some (.slice a' n' c') ∧ V.cell? ⟨k', 3, none⟩ = some (.string x') :=
  ⟨h.1.1.four.1, h.1.1.four.2.1, h.1.1.four.2.2.1, h.1.1.four.2.2.2, h.2.1.four.1, h.2.1.four.2.1, h.2.1.four.2.2.1, h.2.1.four.2.2.2⟩
end

set_option maxRecDepth 100000 in
set_option maxHeartbeats 4000000 in
theorem walkFnExactEntrySame (t s : ByteArray) (fs : List Fl) (x : ByteArray) (a : Option Addr) (n c : Nat) (t' s' : ByteArray) (gs : List Fl) (x' : ByteArray) (b : Option Addr) (m d : Nat) (w : World) (h : InN w t s fs x a n) (h' : InN w t' s' gs x' b m) :
    Calls Try.prog 3 #[.agg #[.string t, .string s, .slice a n c, .string x], .agg #[.string t', .string s', .slice b m d, .string x']] w fun e w' => e = .returned (.bool true) ∧ Below w.heap.size w w' := by
  obtain ⟨hf, hs, hn⟩ := h
  obtain ⟨hg, hs', hm⟩ := h'
  obtain rfl := hf.1
  obtain rfl := hg.1
  have B0 := ((Below.refl w.heap.size w).alloc (Nat.le_refl _) (.cells #[.string t, .string s, .slice a fs.length c, .string x] 24)).alloc (by simp) (.cells #[.string t', .string s', .slice b gs.length d, .string x'] 24)
  have hb2 := BxN.new (w.alloc (.cells #[.string t, .string s, .slice a fs.length c, .string x] 24)) t' s' (.slice b gs.length d) x' 24
  rw [World.size_alloc] at hb2
  have H0 : EnB2 ((w.alloc (.cells #[.string t, .string s, .slice a fs.length c, .string x] 24)).alloc (.cells #[.string t', .string s', .slice b gs.length d, .string x'] 24)) w.heap.size t s fs x a fs.length c 24 (w.heap.size + 1) t' s' gs x' b gs.length d 24 :=
    ⟨⟨(BxN.new w t s (.slice a fs.length c) x 24).alloc _, (hf.below B0).more B0.size⟩, ⟨hb2, (hg.below B0).more B0.size⟩⟩
  have H0 := Lib.hid H0
  clear hb2 hf hg
  by_cases hsz : (enSz (t, s, fs, x) : Int) ≤ 1048576
  case neg =>
    have Hsz := Lib.hid (szN_neg hsz)
    clear hsz
    go_enter Try.func3, Try.ntmps3
    go_wp2_with fail
    refine (szEntry_any t s fs x a fs.length c 1048576 _ H0.out.1.2 hs (by omega) (by omega)).mono ?_
    rintro e w1 ⟨rfl, hB1⟩
    have B1 := B0.trans (hB1.mono B0.size)
    rw [Hsz.out]
    go_wp2_with fail
    go_ret
    exact ⟨rfl, B1⟩
  case pos =>
  have Hsz := Lib.hid (szN_pos hsz)
  have hz0 : 0 ≤ szN 1048576 (t, s, fs, x) := by rw [szN_pos hsz]; omega
  have hz9 : szN 1048576 (t, s, fs, x) ≤ 1048576 := by rw [szN_pos hsz]; omega
  have hn2 : fs.length ≤ 1048576 := by simp only [enSz] at hsz; omega
  by_cases hsz2 : (enSz (t', s', gs, x') : Int) ≤ szN 1048576 (t, s, fs, x)
  case neg =>
    have Hsz2 := Lib.hid (szN_neg hsz2)
    clear hsz hsz2 hn2
    go_enter Try.func3, Try.ntmps3
    go_wp2_with fail
    refine (szEntry_any t s fs x a fs.length c 1048576 _ H0.out.1.2 hs (by omega) (by omega)).mono ?_
    rintro e w1 ⟨rfl, hB1⟩
    have B1 := B0.trans (hB1.mono B0.size)
    have H1 := Lib.hid (H0.out.next hB1)
    obtain ⟨p0, p1, p2, p3, q0, q1, q2, q3⟩ := H1.out.cells
    generalize szN 1048576 (t, s, fs, x) = z at *
    go_wp2_with fail
    refine (szEntry_any t' s' gs x' b gs.length d z _ H1.out.2.2 hs' hz0 hz9).mono ?_
    rintro e w2 ⟨rfl, hB2⟩
    have B2 := B1.trans (hB2.mono B1.size)
    rw [Hsz2.out]
    go_wp2_with fail
    go_ret
    exact ⟨rfl, B2⟩
  case pos =>
  have Hsz2 := Lib.hid (szN_pos hsz2)
  have hm2 : gs.length ≤ 1048576 := by simp only [enSz] at hsz hsz2; omega
  have hz1 : 0 ≤ szN (szN 1048576 (t, s, fs, x)) (t', s', gs, x') := by rw [szN_pos hsz2]; omega
  have Hs := Lib.hid hs
  have Hs' := Lib.hid hs'
  clear hsz hsz2 hs hs'
  go_enter Try.func3, Try.ntmps3
  go_wp2_with fail
  refine (szEntry_any t s fs x a fs.length c 1048576 _ H0.out.1.2 Hs.out (by omega) (by omega)).mono ?_
  rintro e w1 ⟨rfl, hB1⟩
  have B1 := B0.trans (hB1.mono B0.size)
  have H1 := Lib.hid (H0.out.next hB1)
  obtain ⟨p0, p1, p2, p3, q0, q1, q2, q3⟩ := H1.out.cells
  generalize szN 1048576 (t, s, fs, x) = z at *
  go_wp2_with fail
  refine (szEntry_any t' s' gs x' b gs.length d z _ H1.out.2.2 Hs'.out hz0 hz9).mono ?_
  rintro e w2 ⟨rfl, hB2⟩
  have B2 := B1.trans (hB2.mono B1.size)
  have H2 := Lib.hid (H1.out.next hB2)
  generalize szN z (t', s', gs, x') = z2 at *
  have hz1' : ¬ z2 < 0 := by omega
  clear p0 p1 p2 p3 q0 q1 q2 q3 hB2 hB1
  go_wp2_with fail
  have hD := (Below.refl w2.heap.size w2).drew
  have HD := Lib.hid (H2.out.next hD)
  have BD := B2.trans (hD.mono B2.size)
  have fD := HD.out.1.2
  obtain ⟨r, hr⟩ : ∃ r, decide (((t, s, fs, x) : En) = (t', s', gs, x')) = r := ⟨_, rfl⟩
  have Hr := Lib.hid hr
  clear hr
  go_region_held3 (fun w' => w'.cell? ⟨w.heap.size, 0, none⟩ = some (.string t) ∧ w'.cell? ⟨w.heap.size, 1, none⟩ = some (.string s) ∧ w'.cell? ⟨w.heap.size, 2, none⟩ = some (.slice a fs.length c) ∧ w'.cell? ⟨w.heap.size, 3, none⟩ = some (.string x) ∧ w'.cell? ⟨w.heap.size + 1, 0, none⟩ = some (.string t') ∧ w'.cell? ⟨w.heap.size + 1, 1, none⟩ = some (.string s') ∧ w'.cell? ⟨w.heap.size + 1, 2, none⟩ = some (.slice b gs.length d) ∧ w'.cell? ⟨w.heap.size + 1, 3, none⟩ = some (.string x')) (first | exact HD.out.cells | exact H3.out.cells | exact H4.out.cells | exact H5.out.cells)
    ((first
     | (go_at_call 7; (with_reducible refine (toEntry_any t s fs x a fs.length c w2.drew fD hn2).mono ?_); rintro e w3 ⟨g3, rfl, hg3, hO3, hB3⟩; have B3 := BD.trans (hB3.mono BD.size); have H3 := Lib.hid (HD.out.next hB3))
     | (go_at_call 7; refine (toEntry_any t' s' gs x' b gs.length d w3 H3.out.2.2 hm2).mono ?_; rintro e w4 ⟨g4, rfl, hg4, hO4, hB4⟩; have B4 := B3.trans (hB4.mono B3.size); have H4 := Lib.hid (H3.out.next hB4); have hO3 := hO3.below hB4 hO3.lt)
     | (go_at_call 6; refine ((enSameS_any t s fs x _ fs.length _ t' s' gs x' _ gs.length _ w4 (hO3.in_ rfl) (hO4.in_ rfl) Hs.out.2.2.1 Hs'.out.2.2.1).mono fun e w' h => (And.intro (h.1.trans (ret_bool Hr.out)) h.2 : e = .returned (.bool r) ∧ Below w4.heap.size w4 w')).mono ?_; rintro e w5 ⟨rfl, hB5⟩; have B5 := B4.trans (hB5.mono B4.size); have H5 := Lib.hid (H4.out.next hB5))))
  have hrr : (r != r) = false := by simp
  obtain ⟨p0, p1, p2, p3, q0, q1, q2, q3⟩ := H5.out.cells
  clear hB3 hB4 hB5 hO3 hO4 hg3 hg4
  go_wp2_with fail
  refine (toEntry_any t s fs x a fs.length c w5 H5.out.1.2 hn2).mono ?_
  rintro e w6 ⟨g6, rfl, hg6, hO6, hB6⟩
  have B6 := B5.trans (hB6.mono B5.size)
  have H6 := Lib.hid (H5.out.next hB6)
  clear p0 p1 p2 p3 q0 q1 q2 q3
  have hA6 := (Below.refl w6.heap.size w6).alloc (Nat.le_refl _) (.cells #[.string t, .string s, .slice (some ⟨g6, 0, none⟩) fs.length fs.length, .string x] 29)
  have X6 : EnB (w6.alloc (.cells #[.string t, .string s, .slice (some ⟨g6, 0, none⟩) fs.length fs.length, .string x] 29)) w6.heap.size t s fs x (some ⟨g6, 0, none⟩) fs.length fs.length 29 := ⟨BxN.new _ _ _ _ _ _, (hO6.alloc _).in_ rfl⟩
  have X6 := Lib.hid X6
  have H6 := Lib.hid (H6.out.next hA6)
  have B6 := B6.trans (hA6.mono B6.size)
  go_upto_region 10 with (fail)
  generalize w6.alloc (.cells #[.string t, .string s, .slice (some ⟨g6, 0, none⟩) fs.length fs.length, .string x] 29) = v6 at *
  obtain ⟨p0, p1, p2, p3, q0, q1, q2, q3⟩ := H6.out.cells
  go_wp2_with fail
  refine (toEntry_any t' s' gs x' b gs.length d v6 H6.out.2.2 hm2).mono ?_
  rintro e w7 ⟨g7, rfl, hg7, hO7, hB7⟩
  have B7 := B6.trans (hB7.mono B6.size)
  have H7 := Lib.hid (H6.out.next hB7)
  have X7 := Lib.hid (X6.out.next hB7)
  clear p0 p1 p2 p3 q0 q1 q2 q3
  have hA7 := (Below.refl w7.heap.size w7).alloc (Nat.le_refl _) (.cells #[.string t', .string s', .slice (some ⟨g7, 0, none⟩) gs.length gs.length, .string x'] 29)
  have Y7 : EnB (w7.alloc (.cells #[.string t', .string s', .slice (some ⟨g7, 0, none⟩) gs.length gs.length, .string x'] 29)) w7.heap.size t' s' gs x' (some ⟨g7, 0, none⟩) gs.length gs.length 29 := ⟨BxN.new _ _ _ _ _ _, (hO7.alloc _).in_ rfl⟩
  have XY := Lib.hid (And.intro (X7.out.next hA7) Y7)
  have H7 := Lib.hid (H7.out.next hA7)
  have B7 := B7.trans (hA7.mono B7.size)
  go_upto_region 11 with (fail)
  generalize w7.alloc (.cells #[.string t', .string s', .slice (some ⟨g7, 0, none⟩) gs.length gs.length, .string x'] 29) = v7 at *
  have hl6 := blk_lt XY.out.1.1
  clear hB6 hB7 hg6 hg7 hO6 hO7 hA6 hA7 X6 X7 Y7
  obtain ⟨c0, c1, c2, c3⟩ := XY.out.1.1.four
  obtain ⟨d0, d1, d2, d3⟩ := XY.out.2.1.four
  go_wp2_with fail
  refine ((enSameI_any t s fs x _ fs.length _ t' s' gs x' _ gs.length _ v7 XY.out.1.2 XY.out.2.2 Hs.out.2.2.1 Hs'.out.2.2.1).mono fun e w' h => (And.intro (h.1.trans (ret_bool Hr.out)) h.2 : e = .returned (.bool r) ∧ Below v7.heap.size v7 w')).mono ?_
  rintro e w8 ⟨rfl, hB8⟩
  have B8 := B7.trans (hB8.mono B7.size)
  have H8 := Lib.hid (H7.out.next hB8)
  have XY8 := Lib.hid (And.intro (XY.out.1.next hB8) (XY.out.2.next hB8))
  clear c0 c1 c2 c3 d0 d1 d2 d3 hB8
  go_wp2_with fail
  have hD := (Below.refl w8.heap.size w8).drew
  have H8 := Lib.hid (H8.out.next hD)
  have XY8 := Lib.hid (And.intro (XY8.out.1.next hD) (XY8.out.2.next hD))
  have B8 := B8.trans (hD.mono B8.size)
  have fD := H8.out.1.2
  have C8 := Lib.hid (And.intro XY8.out.1.1.four H8.out.1.1.four)
  go_region_held3 (fun w' => w'.cell? ⟨w6.heap.size, 0, none⟩ = some (.string t) ∧ w'.cell? ⟨w6.heap.size, 1, none⟩ = some (.string s) ∧ w'.cell? ⟨w6.heap.size, 2, none⟩ = some (.slice (some ⟨g6, 0, none⟩) fs.length fs.length) ∧ w'.cell? ⟨w6.heap.size, 3, none⟩ = some (.string x) ∧ w'.cell? ⟨w.heap.size, 0, none⟩ = some (.string t) ∧ w'.cell? ⟨w.heap.size, 1, none⟩ = some (.string s) ∧ w'.cell? ⟨w.heap.size, 2, none⟩ = some (.slice a fs.length c) ∧ w'.cell? ⟨w.heap.size, 3, none⟩ = some (.string x)) (first | exact and8 C8.out | exact and8 C9.out | exact and8 C10.out)
    ((first
     | (go_at_call 7; refine (toEntry_any t s fs x a fs.length c _ fD hn2).mono ?_; rintro e w9 ⟨g9, rfl, hg9, hO9, hB9⟩; have B9 := B8.trans (hB9.mono B8.size); have H9 := Lib.hid (H8.out.next hB9); have XY9 := Lib.hid (And.intro (XY8.out.1.next hB9) (XY8.out.2.next hB9)); have C9 := Lib.hid (And.intro XY9.out.1.1.four H9.out.1.1.four))
     | (go_at_call 9; refine (eqEntry_any t s fs x _ _ fs.length _ _ w9 XY9.out.1.2 (hO9.in_ rfl) Hs.out.2.2.1).mono ?_; rintro e w10 ⟨rfl, hB10⟩; have B10 := B9.trans (hB10.mono B9.size); have H10 := Lib.hid (H9.out.next hB10); have XY10 := Lib.hid (And.intro (XY9.out.1.next hB10) (XY9.out.2.next hB10)); have C10 := Lib.hid (And.intro XY10.out.1.1.four H10.out.1.1.four))))
  clear hB9 hB10 hO9 hg9 C8 C9 C10 fD hD XY9 H9
  go_wp2_with fail
  have hD := (Below.refl w10.heap.size w10).drew
  have H10 := Lib.hid (H10.out.next hD)
  have XY10 := Lib.hid (And.intro (XY10.out.1.next hD) (XY10.out.2.next hD))
  have B10 := B10.trans (hD.mono B10.size)
  have fD := H10.out.2.2
  have C8 := Lib.hid (And.intro XY10.out.2.1.four H10.out.2.1.four)
  go_region_held3 (fun w' => w'.cell? ⟨w7.heap.size, 0, none⟩ = some (.string t') ∧ w'.cell? ⟨w7.heap.size, 1, none⟩ = some (.string s') ∧ w'.cell? ⟨w7.heap.size, 2, none⟩ = some (.slice (some ⟨g7, 0, none⟩) gs.length gs.length) ∧ w'.cell? ⟨w7.heap.size, 3, none⟩ = some (.string x') ∧ w'.cell? ⟨w.heap.size + 1, 0, none⟩ = some (.string t') ∧ w'.cell? ⟨w.heap.size + 1, 1, none⟩ = some (.string s') ∧ w'.cell? ⟨w.heap.size + 1, 2, none⟩ = some (.slice b gs.length d) ∧ w'.cell? ⟨w.heap.size + 1, 3, none⟩ = some (.string x')) (first | exact and8 C8.out | exact and8 C9.out | exact and8 C10.out)
    ((first
     | (go_at_call 7; refine (toEntry_any t' s' gs x' b gs.length d _ fD hm2).mono ?_; rintro e w11 ⟨g11, rfl, hg11, hO11, hB11⟩; have B11 := B10.trans (hB11.mono B10.size); have H11 := Lib.hid (H10.out.next hB11); have XY11 := Lib.hid (And.intro (XY10.out.1.next hB11) (XY10.out.2.next hB11)); have C9 := Lib.hid (And.intro XY11.out.2.1.four H11.out.2.1.four))
     | (go_at_call 9; refine (eqEntry_any t' s' gs x' _ _ gs.length _ _ w11 XY11.out.2.2 (hO11.in_ rfl) Hs'.out.2.2.1).mono ?_; rintro e w12 ⟨rfl, hB12⟩; have B12 := B11.trans (hB12.mono B11.size); have C10 := Lib.hid (And.intro (XY11.out.2.next hB12).1.four (H11.out.next hB12).2.1.four))))
  go_wp2_with fail
  go_ret
  exact ⟨rfl, B12⟩
end Go.Proofs.Ytfegnjmekmmmpaa
