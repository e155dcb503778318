/-
  The model's FormatExpr, whole.
-/
import Derived.Test.YtecekkmagldpoaaQFmtS
namespace Go.Proofs.Ytecekkmagldpoaa
set_option linter.unusedVariables false
open Go.RowKit

theorem lf_all (N : Nat) : ∀ k s ks, Fo.size ks ≤ N → LfC k s ks := by
  induction N with
  | zero => exact fun k s ks hN => lf_of k s ks fun k' s' ks' h => absurd h (by omega)
  | succ N ih => exact fun k s ks hN => lf_of k s ks fun k' s' ks' h => ih k' s' ks' (by omega)

set_option maxHeartbeats 400000 in
theorem formatS_expr (k : Int) (s : ByteArray) (ks : Fo) (a : Option Addr) (n c : Nat) (w : World) (hk : KA w 0 w.heap.size ks a n) (hs : s.size ≤ maxLen) (hfit : ks.Fits) (hn : n ≤ maxLen) (hz : ks.size ≤ 1048576) :
    Calls Try.prog 7 #[.agg #[.int .i64 k, .string s, .slice a n c]] w fun e w' => e = .returned (.string (fmtE k s ks)) ∧ Below w.heap.size w w' := by
  have hB0 := (Below.refl w.heap.size w).alloc (Nat.le_refl _) (.cells #[.int .i64 k, .string s, .slice a n c] 25)
  have Hv := Lib.hid (validSE_any k s ks a n c _ (hk.next hB0) hs hfit hn hz)
  rcases Bool.eq_false_or_eq_true (validE k s ks) with hv | hv
  · obtain ⟨hn1, hg1, hs1⟩ := valid_good hv
    have hft : fmtE k s ks = ⟨(fm1 k s ks).toArray⟩ := by unfold fmtE; rw [if_pos hv]
    rw [hft]
    have Hvv := Lib.hid hv
    have Hng := Lib.hid (And.intro hn1 (And.intro hg1 hs1))
    clear hv hft hn1 hg1 hs1
    go_enter Try.func7, Try.ntmps7
    go_wp2_with fail
    refine Hv.out.mono ?_
    rintro e w1 ⟨rfl, hB1⟩
    rw [Hvv.out]
    obtain ⟨c0, c1, c2⟩ := box_cells hB1
    have hBB := hB0.trans (hB1.mono hB0.size)
    have hk1 := hk.next hBB
    go_wp2_with fail
    refine (lf_all ks.size k s ks (Nat.le_refl _) a n c _ hk1 Hng.out.1 Hng.out.2.1 (by have := Hng.out.2.2; omega)).mono ?_
    rintro e w2 ⟨rfl, hB2⟩
    have hB3 := hBB.trans (hB2.mono hBB.size)
    go_wp2_with fail
    go_ret
    exact ⟨rfl, hB3⟩
  · rw [show fmtE k s ks = .empty from by unfold fmtE; rw [hv]; rfl]
    have Hvv := Lib.hid hv
    clear hv
    go_enter Try.func7, Try.ntmps7
    go_wp2_with fail
    refine Hv.out.mono ?_
    rintro e w1 ⟨rfl, hB1⟩
    rw [Hvv.out]
    have hBB := hB0.trans (hB1.mono hB0.size)
    go_wp2_with fail
    go_ret
    exact ⟨rfl, hBB⟩
end Go.Proofs.Ytecekkmagldpoaa
