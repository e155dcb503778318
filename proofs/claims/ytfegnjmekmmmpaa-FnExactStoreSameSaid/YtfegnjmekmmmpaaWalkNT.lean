/-
  The exact law of StoreSame, walked.
-/
import Derived.Test.YtfegnjmekmmmpaaEnS
namespace Go.Proofs.Ytfegnjmekmmmpaa
set_option linter.unusedVariables false
open Go.RowKit

/-- what a law's argument is told of: a readable list of entries -/
def InNs (w : World) (a : Option Addr) (n : Nat) (es : List En) : Prop := EnAt w 0 w.heap.size es a n ∧ EnFits es ∧ n ≤ maxLen

set_option maxHeartbeats 1600000 in
theorem walkFnExactStoreSame (a : Option Addr) (n c : Nat) (es : List En) (b : Option Addr) (m d : Nat) (gs : List En) (w : World) (h : InNs w a n es) (h' : InNs w b m gs) :
    Calls Try.prog 4 #[.slice a n c, .slice b m d] w fun e w' => e = .returned (.bool true) ∧ Below w.heap.size w w' := by
  obtain ⟨hf, hs, hn⟩ := h
  obtain ⟨hg, hs', hm⟩ := h'
  by_cases hsz : (es.length + enTot es : Int) ≤ 1048576
  · have Hsz := Lib.hid (szNs_pos hsz)
    have hn2 : es.length + enTot es ≤ 1048576 := by omega
    have hz0 : 0 ≤ szNs 1048576 es := by rw [szNs_pos hsz]; omega
    have hz9 : szNs 1048576 es ≤ 1048576 := by rw [szNs_pos hsz]; omega
    by_cases hsz2 : (gs.length + enTot gs : Int) ≤ szNs 1048576 es
    · have Hsz2 := Lib.hid (szNs_pos hsz2)
      have hm2 : gs.length + enTot gs ≤ 1048576 := by omega
      have hz1 : 0 ≤ szNs (szNs 1048576 es) gs := by rw [szNs_pos hsz2]; omega
      clear hsz hsz2
      go_enter Try.func4, Try.ntmps4
      go_wp2_with fail
      refine (szEntryS_any es a n c _ _ hf hs hn (by omega) (by omega)).mono ?_
      rintro e w1 ⟨rfl, B1⟩
      go_wp2_with fail
      refine (szEntryS_any gs b m d _ _ (hg.next B1) hs' hm hz0 hz9).mono ?_
      rintro e w2 ⟨rfl, hB2⟩
      have B2 := B1.trans (hB2.mono B1.size)
      go_wp2_with fail
      refine (toEntryS_any es a n c _ (hf.next B2) hn2).mono ?_
      rintro e w3 ⟨g3, rfl, hO3, hB3⟩
      have B3 := B2.trans (hB3.mono B2.size)
      go_wp2_with fail
      refine (toEntryS_any gs b m d _ (hg.next B3) hm2).mono ?_
      rintro e w4 ⟨g4, rfl, hO4, hB4⟩
      have B4 := B3.trans (hB4.mono B3.size)
      have hO3 := hO3.next hB4
      go_wp2_with fail
      refine (storeSameS_any es gs _ _ n n m m _ (hO3.more (Nat.zero_le _) (Nat.le_refl _)) (hO4.more (Nat.zero_le _) (Nat.le_refl _)) hs hs' hn hm).mono ?_
      rintro e w5 ⟨rfl, hB5⟩
      have B5 := B4.trans (hB5.mono B4.size)
      go_wp2_with fail
      refine (toEntryS_any es a n c _ (hf.next B5) hn2).mono ?_
      rintro e w6 ⟨g6, rfl, hO6, hB6⟩
      have B6 := B5.trans (hB6.mono B5.size)
      go_wp2_with fail
      refine (toEntryS_any gs b m d _ (hg.next B6) hm2).mono ?_
      rintro e w7 ⟨g7, rfl, hO7, hB7⟩
      have B7 := B6.trans (hB7.mono B6.size)
      have hO6 := hO6.next hB7
      go_wp2_with fail
      refine (storeSameI_any es gs _ _ n n m m _ (hO6.more (Nat.zero_le _) (Nat.le_refl _)) (hO7.more (Nat.zero_le _) (Nat.le_refl _)) hs hs' hn hm).mono ?_
      rintro e w8 ⟨rfl, hB8⟩
      have B8 := B7.trans (hB8.mono B7.size)
      have hO6 := hO6.next hB8
      have hO7 := hO7.next hB8
      go_wp2_with fail
      refine (toEntryS_any es a n c _ (hf.next B8) hn2).mono ?_
      rintro e w9 ⟨g9, rfl, hO9, hB9⟩
      have B9 := B8.trans (hB9.mono B8.size)
      have hO6 := hO6.next hB9
      have hO7 := hO7.next hB9
      go_wp2_with fail
      refine (eqEntryS_any es _ _ n n n _ (hO6.more (Nat.zero_le _) (Nat.le_refl _)) (hO9.more (Nat.zero_le _) (Nat.le_refl _)) hs hn).mono ?_
      rintro e w10 ⟨rfl, hB10⟩
      have B10 := B9.trans (hB10.mono B9.size)
      have hO7 := hO7.next hB10
      go_wp2_with fail
      refine (toEntryS_any gs b m d _ (hg.next B10) hm2).mono ?_
      rintro e w11 ⟨g11, rfl, hO11, hB11⟩
      have B11 := B10.trans (hB11.mono B10.size)
      have hO7 := hO7.next hB11
      go_wp2_with fail
      refine (eqEntryS_any gs _ _ m m m _ (hO7.more (Nat.zero_le _) (Nat.le_refl _)) (hO11.more (Nat.zero_le _) (Nat.le_refl _)) hs' hm).mono ?_
      rintro e w12 ⟨rfl, hB12⟩
      have B12 := B11.trans (hB12.mono B11.size)
      go_wp2_with fail
      go_ret
      exact ⟨rfl, B12⟩
    · have Hsz2 := Lib.hid (szNs_neg hsz2)
      clear hsz hsz2
      go_enter Try.func4, Try.ntmps4
      go_wp2_with fail
      refine (szEntryS_any es a n c _ _ hf hs hn (by omega) (by omega)).mono ?_
      rintro e w1 ⟨rfl, B1⟩
      go_wp2_with fail
      refine (szEntryS_any gs b m d _ _ (hg.next B1) hs' hm hz0 hz9).mono ?_
      rintro e w2 ⟨rfl, hB2⟩
      rw [Hsz2.out]
      go_wp2_with fail
      go_ret
      exact ⟨rfl, B1.trans (hB2.mono B1.size)⟩
  · have Hsz := Lib.hid (szNs_neg hsz)
    clear hsz
    go_enter Try.func4, Try.ntmps4
    go_wp2_with fail
    refine (szEntryS_any es a n c _ _ hf hs hn (by omega) (by omega)).mono ?_
    rintro e w1 ⟨rfl, B1⟩
    rw [Hsz.out]
    go_wp2_with fail
    go_ret
    exact ⟨rfl, B1⟩
end Go.Proofs.Ytfegnjmekmmmpaa
