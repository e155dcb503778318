/-
  The exact law of FormatStore, walked.
-/
import Derived.Test.YtpmncjeccemgfaaGreatFsI
import Derived.Test.YtpmncjeccemgfaaGreatFsS
import Derived.Test.YtpmncjeccemgfaaGreatEnT
namespace Go.Proofs.YtpmncjeccemgfaaGreat
set_option linter.unusedVariables false
open Go.RowKit

set_option maxHeartbeats 1600000 in
theorem walkFnExactFormatStore (a : Option Addr) (n c : Nat) (es : List En) (w : World) (h : InNs w a n es) :
    Calls Tryz.prog 3 #[.slice a n c] w fun e w' => e = .returned (.bool true) ∧ Below w.heap.size w w' := by
  obtain ⟨hf, hs, hn⟩ := h
  obtain ⟨pb, hpb⟩ := isP_all
  by_cases hsz : (es.length + enTot es : Int) ≤ 1048576
  case neg =>
    have Hsz := Lib.hid (szNs_neg hsz)
    clear hsz
    go_enter Tryz.func3, Tryz.ntmps3
    go_wp2_with fail
    refine (szEntryS_any es a n c _ _ hf hs hn (by omega) (by omega)).mono ?_
    rintro e w1 ⟨rfl, B1⟩
    rw [Hsz.out]
    go_wp2_with fail
    go_ret
    exact ⟨rfl, B1⟩
  case pos =>
  have hn2 : es.length + enTot es ≤ 1048576 := by omega
  have hz0 : 0 ≤ szNs 1048576 es := by rw [szNs_pos hsz]; omega
  have Hpb := Lib.hid hpb
  obtain ⟨r, hr⟩ : ∃ r, fmtSt pb es = r := ⟨_, rfl⟩
  have Hr := Lib.hid hr
  have hrr : (r.toList == r.toList) = true := by simp
  have Hs := Lib.hid hs
  have Hn2 := Lib.hid hn2
  clear hsz hr hpb hs
  go_enter Tryz.func3, Tryz.ntmps3
  go_wp2_with fail
  refine (szEntryS_any es a n c _ _ hf Hs.out hn (by omega) (by omega)).mono ?_
  rintro e w1 ⟨rfl, B1⟩
  generalize szNs 1048576 es = z at *
  have hz1 : ¬ z < 0 := by omega
  go_wp2_with fail
  refine (toEntryS_any es a n c _ (hf.next B1) hn2).mono ?_
  rintro e w2 ⟨g2, rfl, hO2, hB2⟩
  have B2 := B1.trans (hB2.mono B1.size)
  go_wp2_with fail
  refine ((fmtSS_any pb Hpb.out es _ n n w2 (hO2.more (Nat.zero_le _) (Nat.le_refl _)) Hs.out hn Hn2.out).mono fun e w' h => (And.intro (h.1.trans (ret_str Hr.out)) h.2 : e = .returned (.string r) ∧ Below w2.heap.size w2 w')).mono ?_
  rintro e w3 ⟨rfl, hB3⟩
  have B3 := B2.trans (hB3.mono B2.size)
  go_wp2_with fail
  refine (toEntryS_any es a n c _ (hf.next B3) hn2).mono ?_
  rintro e w4 ⟨g4, rfl, hO4, hB4⟩
  have B4 := B3.trans (hB4.mono B3.size)
  go_wp2_with fail
  refine ((fmtSI_any pb Hpb.out es _ n n w4 (hO4.more (Nat.zero_le _) (Nat.le_refl _)) Hs.out hn Hn2.out).mono fun e w' h => (And.intro (h.1.trans (ret_str Hr.out)) h.2 : e = .returned (.string r) ∧ Below w4.heap.size w4 w')).mono ?_
  rintro e w5 ⟨rfl, hB5⟩
  have B5 := B4.trans (hB5.mono B4.size)
  have hO5 := hO4.next hB5
  go_wp2_with fail
  refine (toEntryS_any es a n c _ (hf.next B5) hn2).mono ?_
  rintro e w6 ⟨g6, rfl, hO6, hB6⟩
  have B6 := B5.trans (hB6.mono B5.size)
  have hO6' := hO5.next hB6
  go_wp2_with fail
  refine (eqEntryS_any es _ _ n n n _ (hO6'.more (Nat.zero_le _) (Nat.le_refl _)) (hO6.more (Nat.zero_le _) (Nat.le_refl _)) Hs.out hn).mono ?_
  rintro e w7 ⟨rfl, hB7⟩
  have B7 := B6.trans (hB7.mono B6.size)
  go_wp2_with fail
  go_ret
  exact ⟨rfl, B7⟩
end Go.Proofs.YtpmncjeccemgfaaGreat
