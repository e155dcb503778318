/-
  DrawFindRule, DrawRemoveRule: a drawn project, once mutated, and a drawn target.
-/
import Derived.Test.YtceiafncpimihaaGreatQDrawN
namespace Go.Proofs.YtceiafncpimihaaGreat
set_option linter.unusedVariables false
set_option linter.unusedSimpArgs false
open Go.RowKit

/-- what a drawn project with a drawn name is -/
def ProjStr (m z : Nat) (w : World) (e : Ending) (w' : World) : Prop :=
  ∃ v1 v2 fs rs t, e = .returned (.tuple #[.agg #[v1, v2], .string t]) ∧ OwnsF w' w.heap.size v1 fs ∧ RuO w' w.heap.size v2 rs ∧ Short 10 fs ∧ fs.length ≤ m ∧ RuSm z rs ∧ rs.length ≤ m ∧ t.size ≤ 10 ∧ Below w.heap.size w w'

set_option maxRecDepth 100000 in
set_option maxHeartbeats 2000000 in
theorem drawFR_any (a : Option Addr) (n c : Nat) (w : World) (hb : BytesAt w w.heap.size a n) (hn : n ≤ c) (hc : c ≤ maxLen) :
    Calls Tryz.prog 55 #[.slice a n c] w (ProjStr 6 1003 w) := by
  have hb0 := BxP.new w (.slice none 0 0) (.slice none 0 0) 26
  go_enter Tryz.func55, Tryz.ntmps55
  go_wp2_with fail
  refine (open_any a n c _ (hb.in1 _) hn hc).mono ?_
  rintro e w1 ⟨R, n', c', rfl, hle, hr, hB⟩
  have hb1 := hb0.next hB
  have hB0 : Below w.heap.size w w1 := ((Below.refl _ _).alloc (Nat.le_refl _) _).trans (hB.mono (by simp))
  have hl1 := blk_lt hb1
  simp only [World.size_alloc] at hle hr
  clear hb0 hB
  have hRl := hr.lt
  go_wp2_with fail
  refine (project_any hr (by omega)).mono ?_
  rintro e w2 ⟨v1, v2, fs, rs, q, rfl, hof, hru, hsh, hfl, hsm, hrl, hst⟩
  obtain ⟨a1, c1, rfl, hf1, hn1⟩ := ownsF_none hof
  obtain ⟨a2, c2, rfl, hc2, hr2⟩ := hru.at_
  have hi2 := hst.hi
  go_wp2_with fail
  refine (pmut_any hst.rd (by omega) a1 a2 c1 c2 fs rs 5 1000 hf1 hn1 hr2 hsh hsm hfl hrl (by omega) (by omega)).mono ?_
  rintro e w3 ⟨v3, v4, gs, ss, q3, rfl, hog, hrv, hsh3, hfl3, hsm3, hrl3, hst3⟩
  obtain ⟨a3, c3, rfl, hf3, hn3⟩ := ownsF_none hog
  obtain ⟨a4, c4, rfl, hc4, hr4⟩ := hrv.at_
  have hst03 := hst.trans hst3
  have hi3 := hst03.hi
  have hs2 := hst.grown.size
  have hs3 := hst3.grown.size
  have hE := BxP.new w3 (.slice a3 gs.length c3) (.slice a4 ss.length c4) 26
  have hb3 := (bxP_step hb1 hst03 (by omega)).alloc (.cells #[.slice a3 gs.length c3, .slice a4 ss.length c4] 26)
  have hrd3 := hst3.rd.alloc (.cells #[.slice a3 gs.length c3, .slice a4 ss.length c4] 26)
  have hog3 := ownsF_al hog (.cells #[.slice a3 gs.length c3, .slice a4 ss.length c4] 26)
  have hru3 := hrv.alloc (.cells #[.slice a3 gs.length c3, .slice a4 ss.length c4] 26)
  have hst3' := hst03.alloc (.cells #[.slice a3 gs.length c3, .slice a4 ss.length c4] 26)
  clear hof hru hog hrv hf1 hf3 hr2 hr4 hst hst3 hst03 hb1
  go_upto_region 3 with (fail)
  generalize hW : w3.alloc (.cells #[.slice a3 gs.length c3, .slice a4 ss.length c4] 26) = W at *
  clear hW
  obtain ⟨e0, e1, ef0, ef1, el⟩ := hE.facts
  obtain ⟨u0, u1, uf0, uf1, ul⟩ := hb3.facts
  have hhi := hst3'.hi
  go_wp2_with fail
  go_region_law (first
    | (go_simp; go_at_call 59; refine Calls.mono (target_any (by first | exact hrd3 | exact hrd3.drewN 1) (by omega)) ?_; rintro e w4 ⟨t, q4, rfl, ht, hst4⟩; have hst4' := ((Step.refl hrd3).drewN 1).trans hst4; have hE4 := bxP_step hE hst4' (by omega); have hb4 := bxP_step hb3 hst4' (by omega); obtain ⟨f0, f1, ff0, ff1, fl⟩ := hE4.facts; obtain ⟨g0, g1, gf0, gf1, gl⟩ := hb4.facts))
  all_goals go_wp2_with fail
  all_goals
    refine bodyPost_ret (v := .tuple #[.agg #[.slice a3 gs.length c3, .slice a4 ss.length c4], .string t]) (by simp [results, Tryz.results55, go_sem, *]) rfl ?_
    exact ⟨_, _, gs, ss, t, rfl, ownsF_mono (ownsF_set (ownsF_set (hog3.step (by omega) hst4') (by omega) 0 _) (by omega) 1 _) (by omega), (((hru3.step (by omega) hst4').setCell (by omega) 0 _).setCell (by omega) 1 _).mono (by omega), hsh3, hfl3, hsm3, hrl3, ht, ((hB0.trans ((hst3'.trans hst4').toBelow (by omega) (by omega))).setCell (Nat.le_refl _) _).setCell (Nat.le_refl _) _⟩
end Go.Proofs.YtceiafncpimihaaGreat
