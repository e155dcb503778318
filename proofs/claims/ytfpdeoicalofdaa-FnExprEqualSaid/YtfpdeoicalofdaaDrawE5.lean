/-
  DrawExprEqual: two expressions, each in memory of its own.
-/
import Derived.Test.YtfpdeoicalofdaaDrawE4
namespace Go.Proofs.Ytfpdeoicalofdaa
set_option linter.unusedVariables false
set_option linter.unusedSimpArgs false
open Go.RowKit

/-- what a drawn pair of expressions is -/
def ExprDraw2 (w : World) (e : Ending) (w' : World) : Prop :=
  ∃ k s ks a c k' s' ls b d, e = .returned (.tuple #[.agg #[.int .i64 k, .string s, .slice a (Fo.len ks) c], .agg #[.int .i64 k', .string s', .slice b (Fo.len ls) d]]) ∧ (KP w' w.heap.size w'.heap.size ks a ks.len ∧ ks.len ≤ c ∧ s.size ≤ 100 ∧ ks.Fits ∧ ks.size ≤ 10001) ∧ (KP w' w.heap.size w'.heap.size ls b ls.len ∧ ls.len ≤ d ∧ s'.size ≤ 100 ∧ ls.Fits ∧ ls.size ≤ 10001) ∧ Below w.heap.size w w'
section
variable {V : World} {g : Nat} {k k' : Int} {s s' : ByteArray} {a b : Option Addr} {n n' c d : Nat} {T : TypeId}
theorem BxE.tri (h : BxE V g k s (.slice a n c) T) : V.cell? ⟨g, 0, none⟩ = some (.int .i64 k) ∧ V.cell? ⟨g, 1, none⟩ = some (.string s) ∧ V.cell? ⟨g, 2, none⟩ = some (.slice a n c) := ⟨h.c0, h.c1, h.c2⟩
theorem BxE.oth3 (h : BxE V g k s (.slice a n c) T) {g' : Nat} (hne : g ≠ g') (u0 u1 u2 : Value) : BxE (((V.setCell ⟨g', 0, none⟩ u0).setCell ⟨g', 1, none⟩ u1).setCell ⟨g', 2, none⟩ u2) g k s (.slice a n c) T := ((h.other hne 0 u0).other hne 1 u1).other hne 2 u2
end
/-- the results in their boxes -/
theorem draw2_mk {w V : World} {k k' : Int} {s s' : ByteArray} {ks ls : Fo} {a b : Option Addr} {c d : Nat} (h1 : OwnT V (w.heap.size + 2) (.slice a ks.len c) ks) (h2 : OwnT V (w.heap.size + 2) (.slice b ls.len d) ls) (hs : s.size ≤ 100) (hf : ks.Fits) (hz : ks.size ≤ 10001) (hs' : s'.size ≤ 100) (hf' : ls.Fits) (hz' : ls.size ≤ 10001) (hc : ks.len ≤ c) (hd : ls.len ≤ d) (hB : Below w.heap.size w V) (u0 u1 u2 v0 v1 v2 : Value) :
    ExprDraw2 w (.returned (.tuple #[.agg #[.int .i64 k, .string s, .slice a ks.len c], .agg #[.int .i64 k', .string s', .slice b ls.len d]])) ((((((V.setCell ⟨w.heap.size, 0, none⟩ u0).setCell ⟨w.heap.size, 1, none⟩ u1).setCell ⟨w.heap.size, 2, none⟩ u2).setCell ⟨w.heap.size + 1, 0, none⟩ v0).setCell ⟨w.heap.size + 1, 1, none⟩ v1).setCell ⟨w.heap.size + 1, 2, none⟩ v2) := by
  have key : ∀ {x : Value} {f : Fo}, OwnT V (w.heap.size + 2) x f → OwnT ((((((V.setCell ⟨w.heap.size, 0, none⟩ u0).setCell ⟨w.heap.size, 1, none⟩ u1).setCell ⟨w.heap.size, 2, none⟩ u2).setCell ⟨w.heap.size + 1, 0, none⟩ v0).setCell ⟨w.heap.size + 1, 1, none⟩ v1).setCell ⟨w.heap.size + 1, 2, none⟩ v2) (w.heap.size + 2) x f := fun h =>
    (((((h.setCell (by omega) 0 u0).setCell (by omega) 1 u1).setCell (by omega) 2 u2).setCell (by omega) 0 v0).setCell (by omega) 1 v1).setCell (by omega) 2 v2
  obtain ⟨a4, c4, h4, _, _, hk4⟩ := (key h1).form
  injection h4 with h4 _ _
  subst h4
  obtain ⟨a5, c5, h5, _, _, hk5⟩ := (key h2).form
  injection h5 with h5 _ _
  subst h5
  exact ⟨k, s, ks, a, c, k', s', ls, b, d, rfl, ⟨hk4.more (by omega) (Nat.le_refl _), hc, hs, hf, hz⟩, ⟨hk5.more (by omega) (Nat.le_refl _), hd, hs', hf', hz'⟩,
    (((((hB.setCell (p := ⟨w.heap.size, 0, none⟩) (Nat.le_refl _) u0).setCell (p := ⟨w.heap.size, 1, none⟩) (Nat.le_refl _) u1).setCell (p := ⟨w.heap.size, 2, none⟩) (Nat.le_refl _) u2).setCell (p := ⟨w.heap.size + 1, 0, none⟩) (Nat.le_succ _) v0).setCell (p := ⟨w.heap.size + 1, 1, none⟩) (Nat.le_succ _) v1).setCell (p := ⟨w.heap.size + 1, 2, none⟩) (Nat.le_succ _) v2⟩

set_option maxRecDepth 100000 in
set_option maxHeartbeats 4000000 in
theorem drawExprEqual_any (a : Option Addr) (n c : Nat) (w : World) (hb : BytesAt w w.heap.size a n) (hn : n ≤ c) (hc : c ≤ maxLen) :
    Calls Try.prog 4 #[.slice a n c] w (ExprDraw2 w) := by
  have hb0 := (BxE.new w 0 .empty (.slice none 0 0) 25).alloc (.cells #[.int .i64 0, .string .empty, .slice none 0 0] 25)
  have hd0 := BxE.new (w.alloc (.cells #[.int .i64 0, .string .empty, .slice none 0 0] 25)) 0 .empty (.slice none 0 0) 25
  simp only [World.size_alloc] at hd0
  go_enter Try.func4, Try.ntmps4
  go_wp2_with fail
  refine (open_any a n c _ ((hb.in1 _).in1 _) hn hc).mono ?_
  rintro e w1 ⟨R, n', c', rfl, hle, hr, hB⟩
  have hb1 := hb0.next hB
  have hd1 := hd0.next hB
  have hB0 : Below w.heap.size w w1 := (((Below.refl _ _).alloc (Nat.le_refl _) _).alloc (by simp) _).trans (hB.mono (by simp; omega))
  have hl1 := blk_lt hd1
  simp only [World.size_alloc] at hle hr
  clear hb0 hd0 hB
  go_wp2_with fail
  refine (expr_any hr (by omega)).mono ?_
  rintro e w2 ⟨k, s, v, ks, q2, rfl, hown, hs, hf, hz, hst⟩
  obtain ⟨a1, c1, rfl, hc1, _, hk⟩ := hown.form
  have hE := BxE.new w2 k s (.slice a1 ks.len c1) 25
  have hstE := hst.alloc (.cells #[.int .i64 k, .string s, .slice a1 ks.len c1] 25)
  have hbE := (hb1.step hst (by omega)).alloc (.cells #[.int .i64 k, .string s, .slice a1 ks.len c1] 25)
  have hdE := (hd1.step hst (by omega)).alloc (.cells #[.int .i64 k, .string s, .slice a1 ks.len c1] 25)
  have hRl := hr.lt
  have hl2 := hst.grown.size
  have hownE := hown.alloc (.cells #[.int .i64 k, .string s, .slice a1 ks.len c1] 25)
  have hBE := hB0.trans (hstE.toBelow (by omega) (by omega))
  clear hst hb1 hd1 hown hk hr hB0
  go_wp2_with fail
  refine (pick_step (m := 2) hstE.rd (by have := hstE.hi; omega) (by omega)).mono ?_
  rintro e w3 ⟨⟨x, rfl, _, _⟩, hst3⟩
  have hE3 := hE.step hst3 (by omega)
  have hb3 := hbE.step hst3 (by omega)
  have hd3 := hdE.step hst3 (by omega)
  have hst03 := hstE.trans hst3
  have hown3 := hownE.step (by omega) hst3
  have hl3 := blk_lt hE3
  have hB3 : Below w.heap.size w w3 := hBE.trans (hst3.toBelow (by omega) (by simp; omega))
  clear hE hbE hdE hownE hstE
  by_cases x0 : x = 0
  · subst x0
    obtain ⟨e0, e1, e2, _, _, _, hel⟩ := hE3.facts
    have hrd := hst3.rd
    have hhi := hst3.hi
    have hhiE := hst03.hi
    go_wp2_with fail
    go_region_law (first
      | (go_simp; go_at_call 9; refine Calls.mono (expr_any (by first | exact hrd | exact hrd.drewN 1) (by omega)) ?_; rintro e w4 ⟨k4, s4, v4, ks4, q4, rfl, hown4, hs4, hf4, hz4, hst4⟩; obtain ⟨a4, c4, rfl, hc4, _, _⟩ := hown4.form; have hst4' := ((Step.refl hrd).drewN 1).trans hst4; have hE4 := hE3.step hst4' (by omega); have hb4 := hb3.step hst4' (by omega); have hd4 := hd3.step hst4' (by omega); have hown5 := hown3.step (by omega) hst4'; have hB4 := hB3.trans (hst4'.toBelow (by omega) (by omega)); obtain ⟨m0, m1, m2, n0, n1, n2, hlm⟩ := hE4.facts; obtain ⟨f0, f1, f2, g0, g1, g2, hlb⟩ := hb4.facts; obtain ⟨i0, i1, i2, j0, j1, j2, hld⟩ := hd4.facts))
    all_goals go_wp2_with fail
    all_goals
      refine bodyPost_ret (v := .tuple #[.agg #[.int .i64 k, .string s, .slice a1 ks.len c1], .agg #[.int .i64 k4, .string s4, .slice a4 ks4.len c4]]) (by simp [results, Try.results4, go_sem, *]) rfl ?_
      exact draw2_mk (hown5.mono (by omega)) (hown4.mono (show w.heap.size + 2 ≤ w3.heap.size by omega)) hs hf (by omega) hs4 hf4 (by omega) hc1 hc4 hB4 _ _ _ _ _ _
  · have hx : ((x : Int) == 0) = false := by rw [beq_eq_false_iff_ne]; omega
    obtain ⟨e0, e1, e2, _, _, _, hel⟩ := hE3.facts
    have hrd := hst3.rd
    have hhi := hst3.hi
    have hhiE := hst03.hi
    obtain ⟨_, _, h3, _, _, hk3⟩ := hown3.form
    injection h3 with h3 _ h3'
    subst h3 h3'
    have Hk3 := Lib.hid (show KA w3.drew 0 w3.drew.heap.size ks a1 ks.len from (hk3.more (Nat.zero_le _) (Nat.le_refl _)).1.keep (Nat.le_refl _) (Nat.le_refl _) fun _ _ _ => rfl)
    have H1 := Lib.hid (mut_gen 1000 (by omega) (w := w3.drew) (hrd.drewN 1) (by omega) k s ks a1 ks.len c1 Hk3.out hc1 hs hf hz)
    clear hk3
    go_wp2_with fail
    go_region_law (first
      | (go_simp; go_at_call 11; (with_reducible refine Calls.mono H1.out ?_); rintro e w4 ⟨k4, s4, v4, ks4, q4, rfl, hown4, hs4, hf4, hz4, hst4⟩; obtain ⟨a4, c4, rfl, hc4, _, hk4⟩ := hown4.form; have hst4' := ((Step.refl hrd).drewN 1).trans hst4; have hE4 := hE3.step hst4' (by omega); have hb4 := hb3.step hst4' (by omega); have hd4 := hd3.step hst4' (by omega); have hown5 := hown3.step (by omega) hst4'; have hB4 := hB3.trans (hst4'.toBelow (by omega) (by omega)); obtain ⟨m0, m1, m2, n0, n1, n2, hlm⟩ := hE4.facts; have hrd4 := hst4'.rd; have hhi4 := hst4'.hi; have H2 := Lib.hid (mut_gen 1001 (by omega) (w := w4) hrd4 (by omega) k4 s4 ks4 a4 ks4.len c4 (hk4.more (Nat.zero_le _) (Nat.le_refl _)).1 hc4 hs4 hf4 hz4); clear hk4)
      | (go_simp; go_at_call 11; (with_reducible refine Calls.mono H2.out ?_); rintro e w5 ⟨k5, s5, v5, ks5, q5, rfl, hown6, hs5, hf5, hz5, hst5⟩; obtain ⟨a5, c5, rfl, hc5, _, _⟩ := hown6.form; have hst5' := hst5; have hE5 := hE4.step hst5' (by omega); have hb5 := hb4.step hst5' (by omega); have hd5 := hd4.step hst5' (by omega); have hown7 := hown5.step (by omega) hst5'; have hB5 := hB4.trans (hst5'.toBelow (by omega) (by omega)); obtain ⟨o0, o1, o2, p0, p1, p2, hlo⟩ := hE5.facts; obtain ⟨f0, f1, f2, g0, g1, g2, hlb⟩ := hb5.facts; obtain ⟨i0, i1, i2, j0, j1, j2, hld⟩ := hd5.facts))
    all_goals go_wp2_with fail
    all_goals
      refine bodyPost_ret (v := .tuple #[.agg #[.int .i64 k, .string s, .slice a1 ks.len c1], .agg #[.int .i64 k5, .string s5, .slice a5 ks5.len c5]]) (by simp [results, Try.results4, go_sem, *]) rfl ?_
      exact draw2_mk (hown7.mono (by omega)) (hown6.mono (by have := hst4'.grown.size; omega)) hs hf (by omega) hs5 hf5 (by omega) hc1 hc5 hB5 _ _ _ _ _ _
end Go.Proofs.Ytfpdeoicalofdaa
