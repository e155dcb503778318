/-
  The exact law of EntryValid, walked.
-/
import Derived.Test.YtfeepecmijmddaaEnV
import Derived.Test.YtfeepecmijmddaaEnBx
import Derived.Deep.RegionHeld3
import Derived.Deep.DeepCutAuto
namespace Go.Proofs.Ytfeepecmijmddaa
set_option linter.unusedVariables false
set_option linter.unusedSimpArgs false
open Go.RowKit

set_option maxRecDepth 100000 in
set_option maxHeartbeats 4000000 in
theorem walkFnExactEntryValid (t s : ByteArray) (fs : List Fl) (x : ByteArray) (a : Option Addr) (n c : Nat) (w : World) (h : InN w t s fs x a n) :
    Calls Try.prog 4 #[.agg #[.string t, .string s, .slice a n c, .string x]] w fun e w' => e = .returned (.bool true) ∧ Below w.heap.size w w' := by
  obtain ⟨hf, hs, hn⟩ := h
  obtain rfl := hf.1
  obtain ⟨b, hb⟩ := isP_ex s.data.toList
  have B0 := (Below.refl w.heap.size w).alloc (Nat.le_refl _) (.cells #[.string t, .string s, .slice a fs.length c, .string x] 32)
  have H0 : EnB (w.alloc (.cells #[.string t, .string s, .slice a fs.length c, .string x] 32)) w.heap.size t s fs x a fs.length c 32 := ⟨BxN.new w t s (.slice a fs.length c) x 32, (hf.below B0).more B0.size⟩
  have H0 := Lib.hid H0
  have Hb := Lib.hid hb
  clear hf hb
  by_cases hsz : (enSz (t, s, fs, x) : Int) ≤ 1048576
  case neg =>
    have Hsz := Lib.hid (szN_neg hsz)
    clear hsz
    go_enter Try.func4, Try.ntmps4
    go_wp2_with fail
    refine (szEntry_any t s fs x a fs.length c 1048576 _ H0.out.2 hs (by omega) (by omega)).mono ?_
    rintro e w1 ⟨rfl, hB1⟩
    have B1 := B0.trans (hB1.mono B0.size)
    rw [Hsz.out]
    go_wp2_with fail
    go_ret
    exact ⟨rfl, B1⟩
  case pos =>
  have hz0 : 0 ≤ szN 1048576 (t, s, fs, x) := by rw [szN_pos hsz]; omega
  have hn2 : fs.length ≤ 1048576 := by simp only [enSz] at hsz; omega
  have hs2 : s.size ≤ 1048576 := by simp only [enSz] at hsz; omega
  have Hs := Lib.hid hs
  clear hsz hs
  go_enter Try.func4, Try.ntmps4
  go_wp2_with fail
  refine (szEntry_any t s fs x a fs.length c 1048576 _ H0.out.2 Hs.out (by omega) (by omega)).mono ?_
  rintro e w1 ⟨rfl, hB1⟩
  have B1 := B0.trans (hB1.mono B0.size)
  have H1 := Lib.hid (H0.out.next hB1)
  obtain ⟨p0, p1, p2, p3, pf0, pf1, pf2, pf3, pl⟩ := H1.out.1.facts
  generalize szN 1048576 (t, s, fs, x) = z at *
  have hz1 : ¬ z < 0 := by omega
  clear hB1
  go_wp2_with fail
  refine (toEntry_any t s fs x a fs.length c w1 H1.out.2 hn2).mono ?_
  rintro e w2 ⟨g2, rfl, hg2, hO2, hB2⟩
  have B2 := B1.trans (hB2.mono B1.size)
  have H2 := Lib.hid (H1.out.next hB2)
  clear hB2 p0 p1 p2 p3 pf0 pf1 pf2 pf3 pl hg2
  obtain ⟨r, hr⟩ : ∃ r, enB b (t, s, fs, x) = r := ⟨_, rfl⟩
  have Hr := Lib.hid hr
  clear hr
  have HO2 := Lib.hid hO2
  clear hO2
  go_wp2_with fail
  refine ((entryS_any t s fs x _ fs.length _ b w2 (HO2.out.in_ rfl) Hs.out hs2 (Nat.le_refl _) Hb.out).mono fun e w' h => (And.intro (h.1.trans (ret_bool Hr.out)) h.2 : e = .returned (.bool r) ∧ Below w2.heap.size w2 w')).mono ?_
  rintro e w3 ⟨rfl, hB3⟩
  have B3 := B2.trans (hB3.mono B2.size)
  have H3 := Lib.hid (H2.out.next hB3)
  clear hB3 HO2
  obtain ⟨p0, p1, p2, p3, pf0, pf1, pf2, pf3, pl⟩ := H3.out.1.facts
  go_wp2_with fail
  refine (toEntry_any t s fs x a fs.length c w3 H3.out.2 hn2).mono ?_
  rintro e w6 ⟨g6, rfl, hg6, hO6, hB6⟩
  have B6 := B3.trans (hB6.mono B3.size)
  have H6 := Lib.hid (H3.out.next hB6)
  clear p0 p1 p2 p3 pf0 pf1 pf2 pf3 pl
  have hA6 := (Below.refl w6.heap.size w6).alloc (Nat.le_refl _) (.cells #[.string t, .string s, .slice (some ⟨g6, 0, none⟩) fs.length fs.length, .string x] 37)
  have X6 : EnB (w6.alloc (.cells #[.string t, .string s, .slice (some ⟨g6, 0, none⟩) fs.length fs.length, .string x] 37)) w6.heap.size t s fs x (some ⟨g6, 0, none⟩) fs.length fs.length 37 := ⟨BxN.new _ _ _ _ _ _, (hO6.alloc _).in_ rfl⟩
  have X6 := Lib.hid X6
  have H6 := Lib.hid (H6.out.next hA6)
  have B6 := B6.trans (hA6.mono B6.size)
  clear hB6 hg6 hO6 hA6
  go_upto_region 7 with (fail)
  generalize w6.alloc (.cells #[.string t, .string s, .slice (some ⟨g6, 0, none⟩) fs.length fs.length, .string x] 37) = v6 at *
  have hl6 := blk_lt X6.out.1
  obtain ⟨p0, p1, p2, p3, pf0, pf1, pf2, pf3, pl⟩ := X6.out.1.facts
  go_wp2_with fail
  refine ((entryI_any t s fs x _ fs.length _ b v6 X6.out.2 Hs.out hs2 (Nat.le_refl _) Hb.out).mono fun e w' h => (And.intro (h.1.trans (ret_bool Hr.out)) h.2 : e = .returned (.bool r) ∧ Below v6.heap.size v6 w')).mono ?_
  rintro e w8 ⟨rfl, hB8⟩
  have B8 := B6.trans (hB8.mono B6.size)
  have H8 := Lib.hid (H6.out.next hB8)
  have X8 := Lib.hid (X6.out.next hB8)
  have hrr : (r != r) = false := by simp
  clear p0 p1 p2 p3 pf0 pf1 pf2 pf3 pl hB8
  go_wp2_with fail
  have hD := (Below.refl w8.heap.size w8).drew
  have H8 := Lib.hid (H8.out.next hD)
  have X8 := Lib.hid (X8.out.next hD)
  have B8 := B8.trans (hD.mono B8.size)
  have fD := H8.out.2
  have C8 := Lib.hid (And.intro X8.out.1.four H8.out.1.four)
  go_region_held3 (fun w' => w'.cell? ⟨w6.heap.size, 0, none⟩ = some (.string t) ∧ w'.cell? ⟨w6.heap.size, 1, none⟩ = some (.string s) ∧ w'.cell? ⟨w6.heap.size, 2, none⟩ = some (.slice (some ⟨g6, 0, none⟩) fs.length fs.length) ∧ w'.cell? ⟨w6.heap.size, 3, none⟩ = some (.string x) ∧ w'.cell? ⟨w.heap.size, 0, none⟩ = some (.string t) ∧ w'.cell? ⟨w.heap.size, 1, none⟩ = some (.string s) ∧ w'.cell? ⟨w.heap.size, 2, none⟩ = some (.slice a fs.length c) ∧ w'.cell? ⟨w.heap.size, 3, none⟩ = some (.string x)) (first | exact and8 C8.out | exact and8 C9.out | exact and8 C10.out)
    ((first
     | (go_at_call 13; refine (toEntry_any t s fs x a fs.length c _ fD hn2).mono ?_; rintro e w9 ⟨g9, rfl, hg9, hO9, hB9⟩; have B9 := B8.trans (hB9.mono B8.size); have H9 := Lib.hid (H8.out.next hB9); have X9 := Lib.hid (X8.out.next hB9); have C9 := Lib.hid (And.intro X9.out.1.four H9.out.1.four))
     | (go_at_call 15; refine (eqEntry_any t s fs x _ _ fs.length _ _ w9 X9.out.2 (hO9.in_ rfl) Hs.out.2.2.1).mono ?_; rintro e w10 ⟨rfl, hB10⟩; have B10 := B9.trans (hB10.mono B9.size); have C10 := Lib.hid (And.intro (X9.out.next hB10).1.four (H9.out.next hB10).1.four))))
  go_wp2_with fail
  go_ret
  exact ⟨rfl, B10⟩
end Go.Proofs.Ytfeepecmijmddaa
