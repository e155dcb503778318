/-
  The drawing functions l2Still, DrawExprValid, DrawExprReads and DrawExprFree.
-/
import Derived.Test.YtecekkmagldpoaaQDrawE3
import Derived.Test.YtecekkmagldpoaaQInB
namespace Go.Proofs.Ytecekkmagldpoaa
set_option linter.unusedVariables false
set_option linter.unusedSimpArgs false
open Go.RowKit

/-- what a drawn expression is: readable -/
def ExprDraw (w : World) (e : Ending) (w' : World) : Prop :=
  ∃ k s ks a c, e = .returned (.agg #[.int .i64 k, .string s, .slice a (Fo.len ks) c]) ∧ KP w' w.heap.size w'.heap.size ks a ks.len ∧ ks.len ≤ c ∧ s.size ≤ 100 ∧ ks.Fits ∧ ks.size ≤ 10001 ∧ Below w.heap.size w w'
theorem TreePost.drawn {m B R n c p l : Nat} {a : Option Addr} {w w1 w' : World} {e : Ending} (h : TreePost m w1 B R a n c p l e w') (hB : Below w.heap.size w w1) (hm : m ≤ 10001) (hR : w.heap.size ≤ R) : ExprDraw w e w' := by
  obtain ⟨k, s, v, ks, q, rfl, hown, hs, hf, hz, hst⟩ := h
  obtain ⟨a', c', rfl, hc, _, hk⟩ := hown.form
  exact ⟨k, s, ks, a', c', rfl, hk.more hB.size (Nat.le_refl _), hc, hs, hf, by omega, hB.trans (hst.toBelow hR hB.size)⟩

set_option maxHeartbeats 2000000 in
theorem drawExprValid_any (a : Option Addr) (n c : Nat) (w : World) (hb : BytesAt w w.heap.size a n) (hn : n ≤ c) (hc : c ≤ maxLen) :
    Calls Try.prog 13 #[.slice a n c] w (ExprDraw w) := by
  have hb0 := BxE.new w 0 .empty (.slice none 0 0) 25
  go_enter Try.func13, Try.ntmps13
  go_wp2_with fail
  refine (open_any a n c _ (hb.in1 _) hn hc).mono ?_
  rintro e w1 ⟨R, n', c', rfl, hle, hr, hB⟩
  have hb1 := hb0.next hB
  have hB0 : Below w.heap.size w w1 := ((Below.refl _ _).alloc (Nat.le_refl _) _).trans (hB.mono (by simp))
  have hl1 := blk_lt hb1
  simp only [World.size_alloc] at hle hr
  clear hb0 hB
  go_wp2_with fail
  refine (expr_any hr (by omega)).mono ?_
  rintro e w2 ⟨k2, s2, v2, ks2, q2, rfl, hown2, hs2, hf2, hz2, hst2⟩
  obtain ⟨a2, c2, rfl, hc2, _, hk2⟩ := hown2.form
  have hl2 := hst2.grown.size
  go_wp2_with fail
  refine (mut_any hst2.rd (by have := hst2.hi; omega) k2 s2 ks2 a2 ks2.len c2 (hk2.more (Nat.zero_le _) (Nat.le_refl _)).1 hc2 hs2 hf2 (by omega)).mono ?_
  rintro e w3 ⟨k3, s3, v3, ks3, q3, rfl, hown3, hs3, hf3, hz3, hst3⟩
  have hl3 := hst3.grown.size
  have hst := hst2.trans hst3
  obtain ⟨c0, c1, c2, f0, f1, f2, hl⟩ := (hb1.step hst (by omega)).facts
  have hown3' := hown3.mono (base' := w.heap.size + 1) (by omega)
  obtain ⟨a3, c3, rfl, hc3, _, hk3⟩ := hown3'.form
  go_wp2_with fail
  refine bodyPost_ret (v := .agg #[.int .i64 k3, .string s3, .slice a3 ks3.len c3]) (by simp [results, Try.results13, go_sem, *]) rfl ?_
  obtain ⟨a4, c4, h4, _, _, hk4⟩ := (((hown3'.setCell (Nat.lt_succ_self _) 0 (.int .i64 k3)).setCell (Nat.lt_succ_self _) 1 (.string s3)).setCell (Nat.lt_succ_self _) 2 (.slice a3 ks3.len c3)).form
  injection h4 with h4 _ h5
  subst h4
  exact ⟨k3, s3, ks3, a3, c3, rfl, hk4.more (Nat.le_succ _) (Nat.le_refl _), hc3, hs3, hf3, hz3, (((hB0.trans (hst.toBelow (by omega) (by omega))).setCell (Nat.le_refl _) _).setCell (Nat.le_refl _) _).setCell (Nat.le_refl _) _⟩
end Go.Proofs.Ytecekkmagldpoaa
