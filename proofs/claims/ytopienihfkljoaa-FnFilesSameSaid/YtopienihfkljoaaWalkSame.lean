/-
  The exact law of FilesSame, walked.
-/
import Derived.Test.YtopienihfkljoaaFSame
import Derived.Test.YtopienihfkljoaaFWalk
namespace Go.Proofs.Ytopienihfkljoaa
open Go.RowKit

theorem sameI_any (a b : Option Addr) (n c m d : Nat) (fs gs : List Fl) (w : World) (hf : FilesAt w w.heap.size a n fs) (hg : FilesAt w w.heap.size b m gs) (hn : n ≤ maxLen) (hm : m ≤ maxLen) :
    Calls Try.prog 9 #[.slice a n c, .slice b m d] w fun e w' =>
      e = .returned (.bool (decide (fs = gs))) ∧ Below w.heap.size w w' := by
  go_enter Try.func9, Try.ntmps9
  go_wp2_with fail
  refine (equal_any a b n c m d fs gs w hf hg hn hm).mono ?_
  rintro e w1 ⟨rfl, hB1⟩
  go_wp2_with fail
  go_ret
  exact ⟨rfl, hB1⟩

set_option maxHeartbeats 1200000 in
theorem walkFnExactFilesSame (a : Option Addr) (n c : Nat) (fs : List Fl) (b : Option Addr) (m d : Nat) (gs : List Fl) (w : World) (h : InF w a n fs) (h' : InF w b m gs) :
    Calls Try.prog 3 #[.slice a n c, .slice b m d] w fun e w' => e = .returned (.bool true) ∧ Below w.heap.size w w' := by
  obtain ⟨hf, hs, hn⟩ := h
  obtain ⟨hg, hs', hm⟩ := h'
  by_cases hsz : (fs.length + tot fs : Int) ≤ 1048576
  · have Hsz := Lib.hid (szAll_pos hsz)
    have hn2 : n ≤ 1048576 := by have := hf.1; omega
    have hz0 : 0 ≤ szAll 1048576 fs := by rw [szAll_pos hsz]; omega
    have hz9 : szAll 1048576 fs ≤ 1048576 := by rw [szAll_pos hsz]; omega
    by_cases hsz2 : (gs.length + tot gs : Int) ≤ szAll 1048576 fs
    · have Hsz2 := Lib.hid (szAll_pos hsz2)
      have hm2 : m ≤ 1048576 := by have := hg.1; omega
      have hz1 : 0 ≤ szAll (szAll 1048576 fs) gs := by rw [szAll_pos hsz2]; omega
      have hl := Lib.hid hf.1
      have hl2 := Lib.hid hg.1
      clear hsz hsz2
      go_enter Try.func3, Try.ntmps3
      go_wp2_with fail
      refine (szFileS_any a n c fs _ _ hf hs hn (by omega) (by omega)).mono ?_
      rintro e w1 ⟨rfl, B1⟩
      go_wp2_with fail
      refine (szFileS_any b m d gs _ _ ((hg.below B1).more B1.size) hs' hm hz0 hz9).mono ?_
      rintro e w2 ⟨rfl, hB2⟩
      have B2 := B1.trans (hB2.mono B1.size)
      go_wp2_with fail
      refine (toFileS_any a n c fs _ ((hf.below B2).more B2.size) hn2).mono ?_
      rintro e w3 ⟨g3, rfl, hg3, hO3, hB3⟩
      have B3 := B2.trans (hB3.mono B2.size)
      go_wp2_with fail
      refine (toFileS_any b m d gs _ ((hg.below B3).more B3.size) hm2).mono ?_
      rintro e w4 ⟨g4, rfl, hg4, hO4, hB4⟩
      have B4 := B3.trans (hB4.mono B3.size)
      go_wp2_with fail
      refine (sameS_any _ _ n n m m fs gs _ ((hO3.below hB4 hO3.lt).in_ hl.out) (hO4.in_ hl2.out) hn hm).mono ?_
      rintro e w5 ⟨rfl, hB5⟩
      have B5 := B4.trans (hB5.mono B4.size)
      go_wp2_with fail
      refine (toFileS_any a n c fs _ ((hf.below B5).more B5.size) hn2).mono ?_
      rintro e w6 ⟨g6, rfl, hg6, hO6, hB6⟩
      have B6 := B5.trans (hB6.mono B5.size)
      go_wp2_with fail
      refine (toFileS_any b m d gs _ ((hg.below B6).more B6.size) hm2).mono ?_
      rintro e w7 ⟨g7, rfl, hg7, hO7, hB7⟩
      have B7 := B6.trans (hB7.mono B6.size)
      have hO6 := hO6.below hB7 hO6.lt
      go_wp2_with fail
      refine (sameI_any _ _ n n m m fs gs _ (hO6.in_ hl.out) (hO7.in_ hl2.out) hn hm).mono ?_
      rintro e w8 ⟨rfl, hB8⟩
      have B8 := B7.trans (hB8.mono B7.size)
      have hO6 := hO6.below hB8 hO6.lt
      have hO7 := hO7.below hB8 hO7.lt
      go_wp2_with fail
      refine (toFileS_any a n c fs _ ((hf.below B8).more B8.size) hn2).mono ?_
      rintro e w9 ⟨g9, rfl, hg9, hO9, hB9⟩
      have B9 := B8.trans (hB9.mono B8.size)
      have hO6 := hO6.below hB9 hO6.lt
      have hO7 := hO7.below hB9 hO7.lt
      go_wp2_with fail
      refine (eqFileS_any _ _ n n n n fs fs _ (hO6.in_ hl.out) (hO9.in_ hl.out) hn hn).mono ?_
      rintro e w10 ⟨rfl, hB10⟩
      have B10 := B9.trans (hB10.mono B9.size)
      have hO7 := hO7.below hB10 hO7.lt
      go_wp2_with fail
      refine (toFileS_any b m d gs _ ((hg.below B10).more B10.size) hm2).mono ?_
      rintro e w11 ⟨g11, rfl, hg11, hO11, hB11⟩
      have B11 := B10.trans (hB11.mono B10.size)
      have hO7 := hO7.below hB11 hO7.lt
      go_wp2_with fail
      refine (eqFileS_any _ _ m m m m gs gs _ (hO7.in_ hl2.out) (hO11.in_ hl2.out) hm hm).mono ?_
      rintro e w12 ⟨rfl, hB12⟩
      have B12 := B11.trans (hB12.mono B11.size)
      go_wp2_with fail
      go_ret
      exact ⟨rfl, B12⟩
    · have Hsz2 := Lib.hid (szAll_neg hsz2)
      clear hsz hsz2
      go_enter Try.func3, Try.ntmps3
      go_wp2_with fail
      refine (szFileS_any a n c fs _ _ hf hs hn (by omega) (by omega)).mono ?_
      rintro e w1 ⟨rfl, B1⟩
      go_wp2_with fail
      refine (szFileS_any b m d gs _ _ ((hg.below B1).more B1.size) hs' hm hz0 hz9).mono ?_
      rintro e w2 ⟨rfl, hB2⟩
      rw [Hsz2.out]
      go_wp2_with fail
      go_ret
      exact ⟨rfl, B1.trans (hB2.mono B1.size)⟩
  · have Hsz := Lib.hid (szAll_neg hsz)
    clear hsz
    go_enter Try.func3, Try.ntmps3
    go_wp2_with fail
    refine (szFileS_any a n c fs _ _ hf hs hn (by omega) (by omega)).mono ?_
    rintro e w1 ⟨rfl, B1⟩
    rw [Hsz.out]
    go_wp2_with fail
    go_ret
    exact ⟨rfl, B1⟩
end Go.Proofs.Ytopienihfkljoaa
