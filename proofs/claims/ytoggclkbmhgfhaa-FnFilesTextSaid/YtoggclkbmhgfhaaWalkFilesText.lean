/-
  The law FnFilesText, walked.
-/
import Derived.Test.YtoggclkbmhgfhaaParseP
import Derived.Test.YtoggclkbmhgfhaaDrawB
import Derived.Test.YtoggclkbmhgfhaaLawTools
namespace Go.Proofs.Ytoggclkbmhgfhaa
set_option linter.unusedVariables false
open Go.RowKit

section
variable {a b : Option Addr} {n c m d : Nat} {fs gs xs : List Fl} {xb : Bool} {s : ByteArray} {w : World}
theorem valid_nil : validB [] = true := by rfl
theorem parse_fmt (fs : List Fl) : parseR (fmtS fs).data.toList = (if validB fs = true then fs else [], true) := by
  by_cases h : validB fs = true
  · rw [if_pos h]
    exact parseR_fine h (by unfold fmtS; rw [if_pos h])
  · rw [if_neg h]
    exact parseR_fine valid_nil (by unfold fmtS; rw [if_neg h]; rfl)
theorem parseI_is (hX : parseR s.data.toList = (xs, xb)) (hs : s.size ≤ 1048576) :
    Calls Try.prog 7 #[.string s] w (ListR xs xb w) := (parseI_any s w hs).mono fun _ _ h => h.open hX
theorem parseS_is (hX : parseR s.data.toList = (xs, xb)) (hs : s.size ≤ 1048576) :
    Calls Try.prog 13 #[.string s] w (ListR xs xb w) := (parseS_any s w hs).mono fun _ _ h => h.open hX
theorem formatI_is (hX : fmtS fs = s) (hf : FilesAt w w.heap.size a n fs) (hs : Fits fs) (hn : fs.length ≤ 100) :
    Calls Try.prog 6 #[.slice a n c] w fun e w' => e = .returned (.string s) ∧ Below w.heap.size w w' :=
  (formatI_any a n c fs w hf hs (by have := hf.1; simp only [maxLen]; omega)).mono fun _ _ ⟨he, hb⟩ => ⟨by rw [he, hX], hb⟩
theorem formatS_is (hX : fmtS fs = s) (hf : FilesAt w w.heap.size a n fs) (hs : Fits fs) (hn : fs.length ≤ 100) :
    Calls Try.prog 8 #[.slice a n c] w fun e w' => e = .returned (.string s) ∧ Below w.heap.size w w' :=
  (formatS_any a n c fs w hf hs (by have := hf.1; simp only [maxLen]; omega)).mono fun _ _ ⟨he, hb⟩ => ⟨by rw [he, hX], hb⟩
theorem validI_is (hX : validB fs = xb) (hf : FilesAt w w.heap.size a n fs) (hs : Fits fs) (hn : fs.length ≤ 100) :
    Calls Try.prog 9 #[.slice a n c] w fun e w' => e = .returned (.bool xb) ∧ Below w.heap.size w w' :=
  (validI_any a n c fs w hf hs (by have := hf.1; simp only [maxLen]; omega)).mono fun _ _ ⟨he, hb⟩ => ⟨by rw [he, hX], hb⟩
theorem validS_is (hX : validB fs = xb) (hf : FilesAt w w.heap.size a n fs) (hs : Fits fs) (hn : fs.length ≤ 100) :
    Calls Try.prog 10 #[.slice a n c] w fun e w' => e = .returned (.bool xb) ∧ Below w.heap.size w w' :=
  (validS_any a n c fs w hf hs (by have := hf.1; simp only [maxLen]; omega)).mono fun _ _ ⟨he, hb⟩ => ⟨by rw [he, hX], hb⟩
theorem parse_back {t : ByteArray} {ys : List Fl} (h : parseR t.data.toList = (ys, true)) : fmtS ys = t ∧ Fits ys ∧ ys.length ≤ 12 := by
  obtain ⟨h1, h2⟩ := parseR_true h
  refine ⟨bytes_ext (by unfold fmtS; rw [if_pos h1]; simpa using h2), fun f hf => ?_, valid_length h1⟩
  have := (validB_iff.1 h1).2.1 f hf
  have h3 := ((pathB_iff _).1 this.1).2.1
  have h4 := ((textB_iff _).1 this.2).1
  simp only [maxLen]
  omega
end

set_option maxHeartbeats 4000000 in
theorem walkFnFilesText (a : Option Addr) (len cap : Nat) (zs : List Int) (b : Option Addr) (len' cap' : Nat) (zs' : List Int) (w : World) (h : IsRow .u8 w a len cap zs) (h' : IsRow .u8 w b len' cap' zs') :
    Calls Try.prog 3 #[.slice a len cap, .slice b len' cap'] w fun e w' => e = .returned (.bool true) ∧ Below w.heap.size w w' := by
  obtain ⟨hb, hn, hc⟩ := row_bytes h
  have hc' := Lib.hid hc
  unfold maxLen at hc
  obtain ⟨hb2, hn2, hc2⟩ := row_bytes h'
  have hc2' := Lib.hid hc2
  unfold maxLen at hc2
  by_cases hlong : 1048576 < len
  · go_enter Try.func3, Try.ntmps3
    go_wp2_with fail
    go_ret
    exact ⟨rfl, Below.refl _ _⟩
  by_cases hlong2 : 1048576 < len'
  · go_enter Try.func3, Try.ntmps3
    go_wp2_with fail
    go_ret
    exact ⟨rfl, Below.refl _ _⟩
  go_enter Try.func3, Try.ntmps3
  go_wp2_with fail
  refine (drawFormat_any a len cap w hb hn hc'.out).mono ?_
  rintro e w1 ⟨a1, c1, fs, rfl, hf, hs0, hl, hB1⟩
  have B1 := hB1
  have hs := hs0.fits (by omega)
  have hfz := fmtS_size fs
  obtain ⟨s, Hs⟩ : ∃ s, Hid (fmtS fs = s) := ⟨_, rfl⟩
  have hsz : s.size ≤ 840 := by rw [← Hs.out]; exact hfz
  have hd : (s.toList == s.toList) = true := by simp
  clear hfz
  have hb2 := hb2.under B1
  have hb2_ := hb2
  cases hv : validB fs with
  | false =>
    have Hv := Lib.hid hv; clear hv
    have HX : Hid (parseR s.data.toList = ([], true)) := Lib.hid (by rw [← Hs.out, parse_fmt]; rw [if_neg (by rw [Hv.out]; simp)])
    go_wp2_with fail
    refine (formatI_is Hs.out hf hs (by omega)).mono ?_
    rintro e w2 ⟨rfl, hB2⟩
    have hf := (hf.below hB2).more hB2.size
    have B2 := B1.trans (hB2.mono B1.size)
    have D2 := (Below.refl w1.heap.size w1).trans (hB2.mono (Below.refl w1.heap.size w1).size)
    go_wp2_with fail
    refine (parseI_is HX.out (by omega)).mono ?_
    rintro e w3 ⟨a3, c3, rfl, hx, hB3⟩
    have hf := (hf.below hB3).more hB3.size
    have B3 := B2.trans (hB3.mono B2.size)
    have D3 := D2.trans (hB3.mono D2.size)
    go_wp2_with fail
    refine (formatS_is Hs.out hf hs (by omega)).mono ?_
    rintro e w4 ⟨rfl, hB4⟩
    have hf := (hf.below hB4).more hB4.size
    have hx := (hx.below hB4).more hB4.size
    have B4 := B3.trans (hB4.mono B3.size)
    have D4 := D3.trans (hB4.mono D3.size)
    go_wp2_with fail
    refine (validI_is Hv.out hf hs (by omega)).mono ?_
    rintro e w5 ⟨rfl, hB5⟩
    have hf := (hf.below hB5).more hB5.size
    have hx := (hx.below hB5).more hB5.size
    have B5 := B4.trans (hB5.mono B4.size)
    have D5 := D4.trans (hB5.mono D4.size)
    go_wp2_with fail
    refine (validS_is Hv.out hf hs (by omega)).mono ?_
    rintro e w6 ⟨rfl, hB6⟩
    have hf := (hf.below hB6).more hB6.size
    have hx := (hx.below hB6).more hB6.size
    have B6 := B5.trans (hB6.mono B5.size)
    have D6 := D5.trans (hB6.mono D5.size)
    go_wp2_with fail
    refine (validI_is Hv.out hf hs (by omega)).mono ?_
    rintro e w7 ⟨rfl, hB7⟩
    have hf := (hf.below hB7).more hB7.size
    have hx := (hx.below hB7).more hB7.size
    have B7 := B6.trans (hB7.mono B6.size)
    have D7 := D6.trans (hB7.mono D6.size)
    go_wp2_with fail
    refine (drawParse_any b len' cap' _ (hb2_.under D7) hn2 hc2'.out).mono ?_
    rintro e w8 ⟨t, rfl, ht, hB8⟩
    have B8 := B7.trans (hB8.mono B7.size)
    obtain ⟨ys, yb, HY⟩ : ∃ ys yb, Hid (parseR t.data.toList = (ys, yb)) := ⟨_, _, rfl⟩
    go_wp2_with fail
    refine (parseI_is HY.out (by omega)).mono ?_
    rintro e w9 ⟨a8, c8, rfl, hy, hB9⟩
    have B9 := B8.trans (hB9.mono B8.size)
    go_wp2_with fail
    refine (parseS_is HY.out (by omega)).mono ?_
    rintro e w10 ⟨a9, c9, rfl, hz, hB10⟩
    have hy := (hy.below hB10).more hB10.size
    have B10 := B9.trans (hB10.mono B9.size)
    cases yb with
    | false =>
      have hy0 : ys.length ≤ 100 := by rw [parseR_nil HY.out]; simp
      go_wp2_with fail
      refine (sameI_yes hy hz (by omega) (by omega) rfl).mono ?_
      rintro e w11 ⟨rfl, hB11⟩
      have hy := (hy.below hB11).more hB11.size
      have hz := (hz.below hB11).more hB11.size
      have B11 := B10.trans (hB11.mono B10.size)
      go_wp2_with fail
      go_ret
      exact ⟨rfl, B11⟩
    | true =>
      obtain ⟨h1, h2, h3⟩ := parse_back HY.out
      have H1 := Lib.hid h1
      clear h1
      have hdt : (t.toList == t.toList) = true := by simp
      go_wp2_with fail
      refine (sameI_yes hy hz (by omega) (by omega) rfl).mono ?_
      rintro e w11 ⟨rfl, hB11⟩
      have hy := (hy.below hB11).more hB11.size
      have hz := (hz.below hB11).more hB11.size
      have B11 := B10.trans (hB11.mono B10.size)
      go_wp2_with fail
      refine (formatI_is H1.out hy h2 (by omega)).mono ?_
      rintro e w12 ⟨rfl, hB12⟩
      have hy := (hy.below hB12).more hB12.size
      have hz := (hz.below hB12).more hB12.size
      have B12 := B11.trans (hB12.mono B11.size)
      go_wp2_with fail
      go_ret
      exact ⟨rfl, B12⟩
  | true =>
    have Hv := Lib.hid hv; clear hv
    have HX : Hid (parseR s.data.toList = (fs, true)) := Lib.hid (by rw [← Hs.out, parse_fmt]; rw [if_pos Hv.out])
    go_wp2_with fail
    refine (formatI_is Hs.out hf hs (by omega)).mono ?_
    rintro e w2 ⟨rfl, hB2⟩
    have hf := (hf.below hB2).more hB2.size
    have B2 := B1.trans (hB2.mono B1.size)
    have D2 := (Below.refl w1.heap.size w1).trans (hB2.mono (Below.refl w1.heap.size w1).size)
    go_wp2_with fail
    refine (parseI_is HX.out (by omega)).mono ?_
    rintro e w3 ⟨a3, c3, rfl, hx, hB3⟩
    have hf := (hf.below hB3).more hB3.size
    have B3 := B2.trans (hB3.mono B2.size)
    have D3 := D2.trans (hB3.mono D2.size)
    go_wp2_with fail
    refine (formatS_is Hs.out hf hs (by omega)).mono ?_
    rintro e w4 ⟨rfl, hB4⟩
    have hf := (hf.below hB4).more hB4.size
    have hx := (hx.below hB4).more hB4.size
    have B4 := B3.trans (hB4.mono B3.size)
    have D4 := D3.trans (hB4.mono D3.size)
    go_wp2_with fail
    refine (validI_is Hv.out hf hs (by omega)).mono ?_
    rintro e w5 ⟨rfl, hB5⟩
    have hf := (hf.below hB5).more hB5.size
    have hx := (hx.below hB5).more hB5.size
    have B5 := B4.trans (hB5.mono B4.size)
    have D5 := D4.trans (hB5.mono D4.size)
    go_wp2_with fail
    refine (validS_is Hv.out hf hs (by omega)).mono ?_
    rintro e w6 ⟨rfl, hB6⟩
    have hf := (hf.below hB6).more hB6.size
    have hx := (hx.below hB6).more hB6.size
    have B6 := B5.trans (hB6.mono B5.size)
    have D6 := D5.trans (hB6.mono D5.size)
    go_wp2_with fail
    refine (validI_is Hv.out hf hs (by omega)).mono ?_
    rintro e w7 ⟨rfl, hB7⟩
    have hf := (hf.below hB7).more hB7.size
    have hx := (hx.below hB7).more hB7.size
    have B7 := B6.trans (hB7.mono B6.size)
    have D7 := D6.trans (hB7.mono D6.size)
    go_wp2_with fail
    refine (sameI_yes hx hf (by omega) (by omega) rfl).mono ?_
    rintro e w8 ⟨rfl, hB8⟩
    have hf := (hf.below hB8).more hB8.size
    have hx := (hx.below hB8).more hB8.size
    have B8 := B7.trans (hB8.mono B7.size)
    have D8 := D7.trans (hB8.mono D7.size)
    go_wp2_with fail
    refine (drawParse_any b len' cap' _ (hb2_.under D8) hn2 hc2'.out).mono ?_
    rintro e w9 ⟨t, rfl, ht, hB9⟩
    have B9 := B8.trans (hB9.mono B8.size)
    obtain ⟨ys, yb, HY⟩ : ∃ ys yb, Hid (parseR t.data.toList = (ys, yb)) := ⟨_, _, rfl⟩
    go_wp2_with fail
    refine (parseI_is HY.out (by omega)).mono ?_
    rintro e w10 ⟨a8, c8, rfl, hy, hB10⟩
    have B10 := B9.trans (hB10.mono B9.size)
    go_wp2_with fail
    refine (parseS_is HY.out (by omega)).mono ?_
    rintro e w11 ⟨a9, c9, rfl, hz, hB11⟩
    have hy := (hy.below hB11).more hB11.size
    have B11 := B10.trans (hB11.mono B10.size)
    cases yb with
    | false =>
      have hy0 : ys.length ≤ 100 := by rw [parseR_nil HY.out]; simp
      go_wp2_with fail
      refine (sameI_yes hy hz (by omega) (by omega) rfl).mono ?_
      rintro e w12 ⟨rfl, hB12⟩
      have hy := (hy.below hB12).more hB12.size
      have hz := (hz.below hB12).more hB12.size
      have B12 := B11.trans (hB12.mono B11.size)
      go_wp2_with fail
      go_ret
      exact ⟨rfl, B12⟩
    | true =>
      obtain ⟨h1, h2, h3⟩ := parse_back HY.out
      have H1 := Lib.hid h1
      clear h1
      have hdt : (t.toList == t.toList) = true := by simp
      go_wp2_with fail
      refine (sameI_yes hy hz (by omega) (by omega) rfl).mono ?_
      rintro e w12 ⟨rfl, hB12⟩
      have hy := (hy.below hB12).more hB12.size
      have hz := (hz.below hB12).more hB12.size
      have B12 := B11.trans (hB12.mono B11.size)
      go_wp2_with fail
      refine (formatI_is H1.out hy h2 (by omega)).mono ?_
      rintro e w13 ⟨rfl, hB13⟩
      have hy := (hy.below hB13).more hB13.size
      have hz := (hz.below hB13).more hB13.size
      have B13 := B12.trans (hB13.mono B12.size)
      go_wp2_with fail
      go_ret
      exact ⟨rfl, B13⟩
end Go.Proofs.Ytoggclkbmhgfhaa
