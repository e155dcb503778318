/-
  DrawProjectValid, DrawProjectPaths: a drawn project, twice mutated.
-/
import Derived.Test.YtahdpocaldhamaaGreatQDrawM
import Derived.Test.YtahdpocaldhamaaGreatQInB
namespace Go.Proofs.YtahdpocaldhamaaGreat
set_option linter.unusedVariables false
set_option linter.unusedSimpArgs false
open Go.RowKit

theorem RuO.at_ {w : World} {base : Nat} {v : Value} {rs : List Ru} (h : RuO w base v rs) : ∃ a c, v = .slice a rs.length c ∧ rs.length ≤ c ∧ RuAt w 0 w.heap.size rs a rs.length := by
  obtain ⟨a, c, e, hc, h1, h2⟩ := OwnG.form h
  refine ⟨a, c, e, hc, rfl, fun hn => ?_⟩
  obtain ⟨b, off, ha, hb, hg⟩ := h2 hn
  refine ⟨b, off, ha, Nat.zero_le _, hb, fun j t k s ks hj => ?_⟩
  obtain ⟨c0, c1, c2, a', c', c3, hl, hk⟩ := hg j t k s ks hj
  exact ⟨c0, c1, c2, a', ks.len, c', c3, hl, (hk.more (Nat.zero_le _) (Nat.le_refl _)).1⟩
theorem ownsF_none {w : World} {base : Nat} {v : Value} {fs : List Fl} (h : OwnsF w base v fs) : ∃ a c, v = .slice a fs.length c ∧ FilesAt w w.heap.size a fs.length fs ∧ (a = none → fs.length = 0 ∧ c = 0) := by
  obtain ⟨a, c, rfl, h1⟩ := OwnsF.form h
  refine ⟨a, c, rfl, h1, fun ha => ?_⟩
  subst ha
  rcases h.2 with ⟨e, h0⟩ | ⟨g, cap, cur, e, _⟩
  · injection e with _ e1 e2
    exact ⟨e1, e2⟩
  · simp at e
/-- what a drawn project is -/
def ProjDraw (m z : Nat) (w : World) (e : Ending) (w' : World) : Prop :=
  ∃ v1 v2 fs rs, e = .returned (.agg #[v1, v2]) ∧ OwnsF w' w.heap.size v1 fs ∧ RuO w' w.heap.size v2 rs ∧ Short 10 fs ∧ fs.length ≤ m ∧ RuSm z rs ∧ rs.length ≤ m ∧ Below w.heap.size w w'

set_option maxRecDepth 100000 in
set_option maxHeartbeats 2000000 in
theorem drawPV_any (a : Option Addr) (n c : Nat) (w : World) (hb : BytesAt w w.heap.size a n) (hn : n ≤ c) (hc : c ≤ maxLen) :
    Calls Tryz.prog 34 #[.slice a n c] w (ProjDraw 7 1006 w) := by
  have hb0 := BxP.new w (.slice none 0 0) (.slice none 0 0) 26
  go_enter Tryz.func34, Tryz.ntmps34
  go_wp2_with fail
  refine (open_any a n c _ (hb.in1 _) hn hc).mono ?_
  rintro e w1 ⟨R, n', c', rfl, hle, hr, hB⟩
  have hb1 := hb0.next hB
  have hB0 : Below w.heap.size w w1 := ((Below.refl _ _).alloc (Nat.le_refl _) _).trans (hB.mono (by simp))
  have hl1 := blk_lt hb1
  simp only [World.size_alloc] at hle hr
  clear hb0 hB
  have hRl := hr.lt
  go_wp2_with fail
  refine (project_any hr (by omega)).mono ?_
  rintro e w2 ⟨v1, v2, fs, rs, q, rfl, hof, hru, hsh, hfl, hsm, hrl, hst⟩
  obtain ⟨a1, c1, rfl, hf1, hn1⟩ := ownsF_none hof
  obtain ⟨a2, c2, rfl, hc2, hr2⟩ := hru.at_
  have hi2 := hst.hi
  go_wp2_with fail
  refine (pmut_any hst.rd (by omega) a1 a2 c1 c2 fs rs 5 1000 hf1 hn1 hr2 hsh hsm hfl hrl (by omega) (by omega)).mono ?_
  rintro e w3 ⟨v3, v4, gs, ss, q3, rfl, hog, hrv, hsh3, hfl3, hsm3, hrl3, hst3⟩
  obtain ⟨a3, c3, rfl, hf3, hn3⟩ := ownsF_none hog
  obtain ⟨a4, c4, rfl, hc4, hr4⟩ := hrv.at_
  have hst03 := hst.trans hst3
  have hi3 := hst03.hi
  go_wp2_with fail
  refine (pmut_any hst3.rd (by omega) a3 a4 c3 c4 gs ss 6 1003 hf3 hn3 hr4 hsh3 hsm3 hfl3 hrl3 (by omega) (by omega)).mono ?_
  rintro e w4 ⟨v5, v6, hs, ts, q4, rfl, hoh, hrw, hsh4, hfl4, hsm4, hrl4, hst4⟩
  obtain ⟨a5, c5, rfl, hf5, hn5⟩ := ownsF_none hoh
  obtain ⟨a6, c6, rfl, hc6, hr6⟩ := hrw.at_
  have hst04 := hst03.trans hst4
  have hb4 := bxP_step hb1 hst04 (by omega)
  obtain ⟨u0, u1, uf0, uf1, ul⟩ := hb4.facts
  have hs3 := hst03.grown.size
  have Hof := Lib.hid hoh
  have Hru := Lib.hid hrw
  have Hst := Lib.hid hst04
  clear hof hru hog hrv hoh hrw hf1 hf3 hf5 hr2 hr4 hr6 hst hst3 hst4 hst03 hst04 hb1 hb4
  go_wp2_with fail
  refine bodyPost_ret (v := .agg #[.slice a5 hs.length c5, .slice a6 ts.length c6]) (by simp [results, Tryz.results34, go_sem, *]) rfl ?_
  exact ⟨_, _, hs, ts, rfl, ownsF_mono (ownsF_set (ownsF_set Hof.out (by omega) 0 _) (by omega) 1 _) (by omega), ((Hru.out.setCell (by omega) 0 _).setCell (by omega) 1 _).mono (by omega), hsh4, hfl4, hsm4, hrl4, ((hB0.trans (Hst.out.toBelow (by omega) (by omega))).setCell (Nat.le_refl _) _).setCell (Nat.le_refl _) _⟩
end Go.Proofs.YtahdpocaldhamaaGreat
