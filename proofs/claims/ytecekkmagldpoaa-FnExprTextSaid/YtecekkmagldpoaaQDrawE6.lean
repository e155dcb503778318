/-
  DrawFormatExpr and DrawParseExpr.
-/
import Derived.Test.YtecekkmagldpoaaQDrawE4
import Derived.Test.YtecekkmagldpoaaQBend
import Derived.Test.YtecekkmagldpoaaQFmtT
namespace Go.Proofs.Ytecekkmagldpoaa
set_option linter.unusedVariables false
set_option linter.unusedSimpArgs false
open Go.RowKit

set_option maxHeartbeats 2000000 in
theorem drawFormatExpr_any (a : Option Addr) (n c : Nat) (w : World) (hb : BytesAt w w.heap.size a n) (hn : n ≤ c) (hc : c ≤ maxLen) :
    Calls Try.prog 4 #[.slice a n c] w (ExprDraw w) := by
  have hb0 := BxE.new w 0 .empty (.slice none 0 0) 25
  go_enter Try.func4, Try.ntmps4
  go_wp2_with fail
  refine (drawExprValid_any a n c _ (hb.in1 _) hn hc).mono ?_
  rintro e w1 ⟨k, s, ks, a1, c1, rfl, hk, hc1, hs, hf, hz, hB⟩
  obtain ⟨d0, d1, d2, f0, f1, f2, hl⟩ := (hb0.next hB).facts
  have hB0 : Below w.heap.size w w1 := ((Below.refl _ _).alloc (Nat.le_refl _) _).trans (hB.mono (by simp))
  simp only [World.size_alloc] at hk
  go_wp2_with fail
  refine bodyPost_ret (v := .agg #[.int .i64 k, .string s, .slice a1 ks.len c1]) (by simp [results, Try.results4, go_sem, *]) rfl ?_
  exact ⟨k, s, ks, a1, c1, rfl, (((hk.setCell (.inl (Nat.lt_succ_self _)) 0 _).setCell (.inl (Nat.lt_succ_self _)) 1 _).setCell (.inl (Nat.lt_succ_self _)) 2 _).more (Nat.le_succ _) (by simp [World.setCell]), hc1, hs, hf, hz, ((hB0.setCell (Nat.le_refl _) _).setCell (Nat.le_refl _) _).setCell (Nat.le_refl _) _⟩

/-- what a drawn text is -/
def TextDraw (w : World) (e : Ending) (w' : World) : Prop := ∃ s, e = .returned (.string s) ∧ s.size ≤ 9000 ∧ Below w.heap.size w w'
theorem fmtE_small (k : Int) (s : ByteArray) (ks : Fo) : (fmtE k s ks).size ≤ 1260 := by
  unfold fmtE
  split
  · rename_i h
    obtain ⟨h1, h2, h3⟩ := valid_good h
    have h4 := fm1_len h1 h2
    show (fm1 k s ks).toArray.size ≤ 1260
    rw [List.size_toArray]
    omega
  · simp

set_option maxHeartbeats 1000000 in
theorem drawParseExpr_any (a : Option Addr) (n c : Nat) (w : World) (hb : BytesAt w w.heap.size a n) (hn : n ≤ c) (hc : c ≤ maxLen) :
    Calls Try.prog 11 #[.slice a n c] w (TextDraw w) := by
  go_enter Try.func11, Try.ntmps11
  go_wp2_with fail
  refine (open_any a n c w hb hn hc).mono ?_
  rintro e w1 ⟨R, n', c', rfl, hle, hr, hB⟩
  go_wp2_with fail
  refine (expr_any hr (by omega)).mono ?_
  rintro e w2 ⟨k2, s2, v2, ks2, q2, rfl, hown2, hs2, hf2, hz2, hst2⟩
  obtain ⟨a2, c2, rfl, hc2, _, hk2⟩ := hown2.form
  have hq2 := hst2.hi
  have hsl := Fo.size_len ks2
  go_wp2_with fail
  refine (formatS_expr k2 s2 ks2 a2 ks2.len c2 _ (hk2.more (Nat.zero_le _) (Nat.le_refl _)).1 (by unfold maxLen; omega) hf2 (by unfold maxLen; omega) (by omega)).mono ?_
  rintro e w3 ⟨rfl, hB3⟩
  have hst3 := hst2.below hB3
  have hfs := fmtE_small k2 s2 ks2
  have hR := hst3.rd.lt
  go_wp2_with fail
  refine (bend_any (m := 10) (fmtE k2 s2 ks2) (hst3.rd.alloc _) (by omega) (by omega) (by omega) (by omega) (by simp) (by omega) ?_).mono ?_
  · refine StrsAt.of_block (Q := fun s => s.size ≤ 10) (heap_alloc_new _ _) ?_
    simp; decide
  rintro e w4 ⟨s, q4, rfl, hs4, hst4⟩
  go_wp2_with fail
  go_ret
  exact ⟨s, rfl, hs4, hB.trans (((hst3.alloc _).trans hst4).toBelow hle hB.size)⟩
end Go.Proofs.Ytecekkmagldpoaa
