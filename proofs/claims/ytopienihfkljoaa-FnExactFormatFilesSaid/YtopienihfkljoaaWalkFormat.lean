/-
  The exact law of FormatFiles, walked.
-/
import Derived.Test.YtopienihfkljoaaFFormat
import Derived.Test.YtopienihfkljoaaFWalk
namespace Go.Proofs.Ytopienihfkljoaa
open Go.RowKit

set_option maxHeartbeats 800000 in
theorem walkFnExactFormatFiles (a : Option Addr) (n c : Nat) (fs : List Fl) (w : World) (h : InF w a n fs) :
    Calls Try.prog 5 #[.slice a n c] w fun e w' => e = .returned (.bool true) ∧ Below w.heap.size w w' := by
  obtain ⟨hf, hs, hn⟩ := h
  by_cases hsz : (fs.length + tot fs : Int) ≤ 1048576
  · have Hsz := Lib.hid (szAll_pos hsz)
    have hn2 : n ≤ 1048576 := by have := hf.1; omega
    have hz0 : 0 ≤ szAll 1048576 fs := by rw [szAll_pos hsz]; omega
    have hl := Lib.hid hf.1
    clear hsz
    go_enter Try.func5, Try.ntmps5
    go_wp2_with fail
    refine (szFileS_any a n c fs _ _ hf hs hn (by omega) (by omega)).mono ?_
    rintro e w1 ⟨rfl, hB1⟩
    go_wp2_with fail
    refine (toFileS_any a n c fs _ ((hf.below hB1).more hB1.size) hn2).mono ?_
    rintro e w2 ⟨g2, rfl, hg2, hO2, hB2⟩
    have B2 := hB1.trans (hB2.mono hB1.size)
    go_wp2_with fail
    refine (formatS_any _ n n fs _ (hO2.in_ hl.out) hs hn).mono ?_
    rintro e w3 ⟨rfl, hB3⟩
    have B3 := B2.trans (hB3.mono B2.size)
    go_wp2_with fail
    refine (toFileS_any a n c fs _ ((hf.below B3).more B3.size) hn2).mono ?_
    rintro e w4 ⟨g4, rfl, hg4, hO4, hB4⟩
    have B4 := B3.trans (hB4.mono B3.size)
    go_wp2_with fail
    refine (formatI_any _ n n fs _ (hO4.in_ hl.out) hs hn).mono ?_
    rintro e w5 ⟨rfl, hB5⟩
    have B5 := B4.trans (hB5.mono B4.size)
    go_wp2_with fail
    refine (toFileS_any a n c fs _ ((hf.below B5).more B5.size) hn2).mono ?_
    rintro e w6 ⟨g6, rfl, hg6, hO6, hB6⟩
    have B6 := B5.trans (hB6.mono B5.size)
    have hO4' := (hO4.below hB5 hO4.lt).below hB6 (Nat.lt_of_lt_of_le hO4.lt hB5.size)
    go_wp2_with fail
    refine (eqFileS_any _ _ n n n n fs fs _ (hO4'.in_ hl.out) (hO6.in_ hl.out) hn hn).mono ?_
    rintro e w7 ⟨rfl, hB7⟩
    have B7 := B6.trans (hB7.mono B6.size)
    go_wp2_with fail
    go_ret
    exact ⟨rfl, B7⟩
  · have Hsz := Lib.hid (szAll_neg hsz)
    clear hsz
    go_enter Try.func5, Try.ntmps5
    go_wp2_with fail
    refine (szFileS_any a n c fs _ _ hf hs hn (by omega) (by omega)).mono ?_
    rintro e w1 ⟨rfl, hB1⟩
    rw [Hsz.out]
    go_wp2_with fail
    go_ret
    exact ⟨rfl, hB1⟩
end Go.Proofs.Ytopienihfkljoaa
