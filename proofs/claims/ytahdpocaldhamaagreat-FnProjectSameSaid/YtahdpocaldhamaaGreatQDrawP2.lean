/-
  DrawProjectSame: two projects, each in memory of its own.
-/
import Derived.Test.YtahdpocaldhamaaGreatQDrawN
namespace Go.Proofs.YtahdpocaldhamaaGreat
set_option linter.unusedVariables false
set_option linter.unusedSimpArgs false
open Go.RowKit

/-- what a drawn pair of projects is -/
def ProjDraw2 (w : World) (e : Ending) (w' : World) : Prop :=
  ∃ v1 v2 fs rs v3 v4 gs ss, e = .returned (.tuple #[.agg #[v1, v2], .agg #[v3, v4]]) ∧ (OwnsF w' w.heap.size v1 fs ∧ RuO w' w.heap.size v2 rs ∧ Short 10 fs ∧ fs.length ≤ 5 ∧ RuSm 1000 rs ∧ rs.length ≤ 5) ∧ (OwnsF w' w.heap.size v3 gs ∧ RuO w' w.heap.size v4 ss ∧ Short 10 gs ∧ gs.length ≤ 9 ∧ RuSm 1012 ss ∧ ss.length ≤ 9) ∧ Below w.heap.size w w'
/-- the results in their boxes -/
theorem projs_mk {w V : World} {v1 v2 v3 v4 : Value} {fs gs : List Fl} {rs ss : List Ru} (h1 : OwnsF V (w.heap.size + 2) v1 fs) (h2 : RuO V (w.heap.size + 2) v2 rs) (h3 : Short 10 fs) (h4 : fs.length ≤ 5) (h5 : RuSm 1000 rs) (h6 : rs.length ≤ 5)
    (k1 : OwnsF V (w.heap.size + 2) v3 gs) (k2 : RuO V (w.heap.size + 2) v4 ss) (k3 : Short 10 gs) (k4 : gs.length ≤ 9) (k5 : RuSm 1012 ss) (k6 : ss.length ≤ 9) (hB : Below w.heap.size w V) (u0 u1 y0 y1 : Value) :
    ProjDraw2 w (.returned (.tuple #[.agg #[v1, v2], .agg #[v3, v4]])) ((((V.setCell ⟨w.heap.size, 0, none⟩ u0).setCell ⟨w.heap.size, 1, none⟩ u1).setCell ⟨w.heap.size + 1, 0, none⟩ y0).setCell ⟨w.heap.size + 1, 1, none⟩ y1) := by
  have kf : ∀ {v : Value} {fs : List Fl}, OwnsF V (w.heap.size + 2) v fs → OwnsF ((((V.setCell ⟨w.heap.size, 0, none⟩ u0).setCell ⟨w.heap.size, 1, none⟩ u1).setCell ⟨w.heap.size + 1, 0, none⟩ y0).setCell ⟨w.heap.size + 1, 1, none⟩ y1) w.heap.size v fs := fun h =>
    ownsF_mono (ownsF_set (ownsF_set (ownsF_set (ownsF_set h (by omega) 0 u0) (by omega) 1 u1) (by omega) 0 y0) (by omega) 1 y1) (by omega)
  have kr : ∀ {v : Value} {rs : List Ru}, RuO V (w.heap.size + 2) v rs → RuO ((((V.setCell ⟨w.heap.size, 0, none⟩ u0).setCell ⟨w.heap.size, 1, none⟩ u1).setCell ⟨w.heap.size + 1, 0, none⟩ y0).setCell ⟨w.heap.size + 1, 1, none⟩ y1) w.heap.size v rs := fun h =>
    ((((h.setCell (by omega) 0 u0).setCell (by omega) 1 u1).setCell (by omega) 0 y0).setCell (by omega) 1 y1).mono (by omega)
  exact ⟨v1, v2, fs, rs, v3, v4, gs, ss, rfl, ⟨kf h1, kr h2, h3, h4, h5, h6⟩, ⟨kf k1, kr k2, k3, k4, k5, k6⟩,
    (((hB.setCell (p := ⟨w.heap.size, 0, none⟩) (Nat.le_refl _) u0).setCell (p := ⟨w.heap.size, 1, none⟩) (Nat.le_refl _) u1).setCell (p := ⟨w.heap.size + 1, 0, none⟩) (Nat.le_succ _) y0).setCell (p := ⟨w.heap.size + 1, 1, none⟩) (Nat.le_succ _) y1⟩
theorem RuSm.up {z z' : Nat} {rs : List Ru} (h : RuSm z rs) (hz : z ≤ z') : RuSm z' rs := fun x hx => ⟨(h x hx).1, (h x hx).2.1, (h x hx).2.2.1, Nat.le_trans (h x hx).2.2.2 hz⟩

theorem pmut_own {n c p B R b1 b2 : Nat} {a : Option Addr} {V : World} (h : Rd V B R a n c p) (hp : p ≤ 850000000) (a1 a2 : Option Addr) (c1 c2 : Nat) (fs : List Fl) (rs : List Ru) (m z : Nat) (hof : OwnsF V b1 (.slice a1 fs.length c1) fs) (hru : RuO V b2 (.slice a2 rs.length c2) rs)
    (hsh : Short 10 fs) (hsm : RuSm z rs) (hl1 : fs.length ≤ m) (hl2 : rs.length ≤ m) (hm : m ≤ 1000) (hz : z ≤ 9000) :
    Calls Tryz.prog 25 #[.pointer (some ⟨R, 0, none⟩), .agg #[.slice a1 fs.length c1, .slice a2 rs.length c2]] V (ProjPost V B R a n c p 10 (m + 1) (z + 3)) := by
  obtain ⟨x1, y1, e1, hf, hn⟩ := ownsF_none hof
  simp only [Value.slice.injEq, true_and] at e1
  obtain ⟨rfl, rfl⟩ := e1
  obtain ⟨x2, y2, e2, _, hr⟩ := hru.at_
  simp only [Value.slice.injEq, true_and] at e2
  obtain ⟨rfl, rfl⟩ := e2
  exact pmut_any h hp _ _ _ _ fs rs m z hf hn hr hsh hsm hl1 hl2 hm hz

set_option maxRecDepth 100000 in
set_option maxHeartbeats 4000000 in
theorem drawPS_any (a : Option Addr) (n c : Nat) (w : World) (hb : BytesAt w w.heap.size a n) (hn : n ≤ c) (hc : c ≤ maxLen) :
    Calls Tryz.prog 6 #[.slice a n c] w (ProjDraw2 w) := by
  have hb0 := (BxP.new w (.slice none 0 0) (.slice none 0 0) 26).alloc (.cells #[.slice none 0 0, .slice none 0 0] 26)
  have hd0 := BxP.new (w.alloc (.cells #[.slice none 0 0, .slice none 0 0] 26)) (.slice none 0 0) (.slice none 0 0) 26
  simp only [World.size_alloc] at hd0
  go_enter Tryz.func6, Tryz.ntmps6
  go_wp2_with fail
  refine (open_any a n c _ ((hb.in1 _).in1 _) hn hc).mono ?_
  rintro e w1 ⟨R, n', c', rfl, hle, hr, hB⟩
  have hb1 := hb0.next hB
  have hd1 := hd0.next hB
  have hB0 : Below w.heap.size w w1 := (((Below.refl _ _).alloc (Nat.le_refl _) _).alloc (by simp) _).trans (hB.mono (by simp; omega))
  have hl1 := blk_lt hd1
  simp only [World.size_alloc] at hle hr
  clear hb0 hd0 hB
  go_wp2_with fail
  refine (project_any hr (by omega)).mono ?_
  rintro e w2 ⟨v1, v2, fs, rs, q2, rfl, hof, hru, hsh, hfl, hsm, hrl, hst⟩
  obtain ⟨a1, c1, rfl, _, _⟩ := ownsF_none hof
  obtain ⟨a2, c2, rfl, _, _⟩ := hru.at_
  have hE := BxP.new w2 (.slice a1 fs.length c1) (.slice a2 rs.length c2) 26
  have hstE := hst.alloc (.cells #[.slice a1 fs.length c1, .slice a2 rs.length c2] 26)
  have hbE := (bxP_step hb1 hst (by omega)).alloc (.cells #[.slice a1 fs.length c1, .slice a2 rs.length c2] 26)
  have hdE := (bxP_step hd1 hst (by omega)).alloc (.cells #[.slice a1 fs.length c1, .slice a2 rs.length c2] 26)
  have hRl := hr.lt
  have hl2 := hst.grown.size
  have hofE := ownsF_al hof (.cells #[.slice a1 fs.length c1, .slice a2 rs.length c2] 26)
  have hruE := hru.alloc (.cells #[.slice a1 fs.length c1, .slice a2 rs.length c2] 26)
  have hBE := hB0.trans (hstE.toBelow (by omega) (by omega))
  clear hst hb1 hd1 hof hru hr hB0
  go_wp2_with fail
  refine (pick_step (m := 2) hstE.rd (by have := hstE.hi; omega) (by omega)).mono ?_
  rintro e w3 ⟨⟨x, rfl, _, _⟩, hst3⟩
  have hE3 := bxP_step hE hst3 (by omega)
  have hb3 := bxP_step hbE hst3 (by omega)
  have hd3 := bxP_step hdE hst3 (by omega)
  have hst03 := hstE.trans hst3
  have hof3 := hofE.step (by omega) hst3
  have hru3 := hruE.step (by omega) hst3
  have hl3 := blk_lt hE3
  have hB3 : Below w.heap.size w w3 := hBE.trans (hst3.toBelow (by omega) (by simp; omega))
  clear hE hbE hdE hofE hruE hstE
  have hrd := hst3.rd
  have hhi := hst3.hi
  have hhiE := hst03.hi
  obtain ⟨e0, e1, _, _, hel⟩ := hE3.facts
  by_cases x0 : x = 0
  · subst x0
    go_wp2_with fail
    go_region_law (first
      | (go_simp; go_at_call 23; refine Calls.mono (project_any (by first | exact hrd | exact hrd.drewN 1) (by omega)) ?_; rintro e w4 ⟨v3, v4, gs, ss, q4, rfl, hog, hrv, hsh4, hfl4, hsm4, hrl4, hst4⟩; obtain ⟨a3, c3, rfl, _, _⟩ := ownsF_none hog; obtain ⟨a4, c4, rfl, _, _⟩ := hrv.at_; have hst4' := ((Step.refl hrd).drewN 1).trans hst4; have hE4 := bxP_step hE3 hst4' (by omega); have hb4 := bxP_step hb3 hst4' (by omega); have hd4 := bxP_step hd3 hst4' (by omega); have hof4 := hof3.step (by omega) hst4'; have hru4 := hru3.step (by omega) hst4'; have hB4 := hB3.trans (hst4'.toBelow (by omega) (by omega)); obtain ⟨m0, m1, n0, n1, hlm⟩ := hE4.facts; obtain ⟨f0, f1, g0, g1, hlb⟩ := hb4.facts; obtain ⟨i0, i1, j0, j1, hld⟩ := hd4.facts))
    all_goals go_wp2_with fail
    all_goals
      refine bodyPost_ret (v := .tuple #[.agg #[.slice a1 fs.length c1, .slice a2 rs.length c2], .agg #[.slice a3 gs.length c3, .slice a4 ss.length c4]]) (by simp [results, Tryz.results6, go_sem, *]) rfl ?_
      exact projs_mk (ownsF_mono hof4 (by omega)) (hru4.mono (by omega)) hsh hfl hsm hrl (ownsF_mono hog (show w.heap.size + 2 ≤ w3.heap.size + 1 by omega)) (hrv.mono (show w.heap.size + 2 ≤ w3.heap.size + 1 by omega)) hsh4 (by omega) (hsm4.up (by omega)) (by omega) hB4 _ _ _ _
  · have hx : ((x : Int) == 0) = false := by rw [beq_eq_false_iff_ne]; omega
    have H4 := Lib.hid (pmut_own (V := w3.drew) (hrd.drewN 1) (by omega) a1 a2 c1 c2 fs rs 5 1000 (show OwnsF w3.drew _ _ _ from hof3) (hru3.grown (grown_drewN (World.grownBy.refl w3 none) 1) (fun g e => by cases e)) hsh hsm hfl hrl (by omega) (by omega))
    go_wp2_with fail
    go_region_law (first
      | (go_simp; go_at_call 25; (with_reducible refine Calls.mono H4.out ?_); rintro e w4 ⟨x4, y4, gs4, ss4, q4, rfl, hog4, hrv4, hsh4, hfl4, hsm4, hrl4, hst4⟩; obtain ⟨a4, c4, rfl, _, _⟩ := ownsF_none hog4; obtain ⟨d4, k4, rfl, _, _⟩ := hrv4.at_; have hst4' := ((Step.refl hrd).drewN 1).trans hst4; have hE4 := bxP_step hE3 hst4' (by omega); obtain ⟨m04, m14, n04, n14, hlm4⟩ := hE4.facts; have hrd4 := hst4'.rd; have hhi4 := hst4'.hi; have hl4 := hst4'.grown.size; have H5 := Lib.hid (pmut_own hrd4 (by omega) a4 d4 c4 k4 gs4 ss4 6 1003 hog4 hrv4 hsh4 hsm4 hfl4 hrl4 (by omega) (by omega)); clear hog4 hrv4)
      | (go_simp; go_at_call 25; (with_reducible refine Calls.mono H5.out ?_); rintro e w5 ⟨x5, y5, gs5, ss5, q5, rfl, hog5, hrv5, hsh5, hfl5, hsm5, hrl5, hst5⟩; obtain ⟨a5, c5, rfl, _, _⟩ := ownsF_none hog5; obtain ⟨d5, k5, rfl, _, _⟩ := hrv5.at_; have hst5' := hst4'.trans hst5; have hE5 := bxP_step hE3 hst5' (by omega); obtain ⟨m05, m15, n05, n15, hlm5⟩ := hE5.facts; have hrd5 := hst5'.rd; have hhi5 := hst5'.hi; have hl5 := hst5'.grown.size; have H6 := Lib.hid (pmut_own hrd5 (by omega) a5 d5 c5 k5 gs5 ss5 7 1006 hog5 hrv5 hsh5 hsm5 hfl5 hrl5 (by omega) (by omega)); clear hog5 hrv5)
      | (go_simp; go_at_call 25; (with_reducible refine Calls.mono H6.out ?_); rintro e w6 ⟨x6, y6, gs6, ss6, q6, rfl, hog6, hrv6, hsh6, hfl6, hsm6, hrl6, hst6⟩; obtain ⟨a6, c6, rfl, _, _⟩ := ownsF_none hog6; obtain ⟨d6, k6, rfl, _, _⟩ := hrv6.at_; have hst6' := hst5'.trans hst6; have hE6 := bxP_step hE3 hst6' (by omega); obtain ⟨m06, m16, n06, n16, hlm6⟩ := hE6.facts; have hrd6 := hst6'.rd; have hhi6 := hst6'.hi; have hl6 := hst6'.grown.size; have H7 := Lib.hid (pmut_own hrd6 (by omega) a6 d6 c6 k6 gs6 ss6 8 1009 hog6 hrv6 hsh6 hsm6 hfl6 hrl6 (by omega) (by omega)); clear hog6 hrv6)
      | (go_simp; go_at_call 25; (with_reducible refine Calls.mono H7.out ?_); rintro e w7 ⟨x7, y7, gs7, ss7, q7, rfl, hog7, hrv7, hsh7, hfl7, hsm7, hrl7, hst7⟩; obtain ⟨a7, c7, rfl, _, _⟩ := ownsF_none hog7; obtain ⟨d7, k7, rfl, _, _⟩ := hrv7.at_; have hst7' := hst6'.trans hst7; have hE7 := bxP_step hE3 hst7' (by omega); obtain ⟨m07, m17, n07, n17, hlm7⟩ := hE7.facts; have hrd7 := hst7'.rd; have hhi7 := hst7'.hi; have hl7 := hst7'.grown.size; have hb7 := bxP_step hb3 hst7' (by omega); have hd7 := bxP_step hd3 hst7' (by omega); have hof7 := hof3.step (by omega) hst7'; have hru7 := hru3.step (by omega) hst7'; have hB7 := hB3.trans (hst7'.toBelow (by omega) (by omega)); obtain ⟨f0, f1, g0, g1, hlb⟩ := hb7.facts; obtain ⟨i0, i1, j0, j1, hld⟩ := hd7.facts))
    all_goals go_wp2_with fail
    all_goals
      refine bodyPost_ret (v := .tuple #[.agg #[.slice a1 fs.length c1, .slice a2 rs.length c2], .agg #[.slice a7 gs7.length c7, .slice d7 ss7.length k7]]) (by simp [results, Tryz.results6, go_sem, *]) rfl ?_
      exact projs_mk (ownsF_mono hof7 (by omega)) (hru7.mono (by omega)) hsh hfl hsm hrl (ownsF_mono hog7 (by omega)) (hrv7.mono (by omega)) hsh7 (by omega) (hsm7.up (by omega)) (by omega) hB7 _ _ _ _
end Go.Proofs.YtahdpocaldhamaaGreat
