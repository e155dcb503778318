/-
  DrawSetSource: a drawn project, once mutated, and a drawn file.
-/
import Derived.Test.YtceiafncpimihaaGreatQDrawO
namespace Go.Proofs.YtceiafncpimihaaGreat
set_option linter.unusedVariables false
set_option linter.unusedSimpArgs false
open Go.RowKit

theorem strs5s {W : World} {g : Nat} {T : TypeId} (h : W.heap[g]? = some (.cells #[.string ⟨#[97]⟩, .string ⟨#[98]⟩, .string ⟨#[99]⟩, .string ⟨#[120]⟩, .string ⟨#[101]⟩] T (0, 0))) : StrsAt W (fun s => s.size ≤ 10) g 5 := StrsAt.of_block (Q := fun s => s.size ≤ 10) h (by simp; decide)
/-- what a drawn project with a drawn file is -/
def ProjFile (m z : Nat) (w : World) (e : Ending) (w' : World) : Prop :=
  ∃ v1 v2 fs rs p t, e = .returned (.tuple #[.agg #[v1, v2], .agg #[.string p, .string t]]) ∧ OwnsF w' w.heap.size v1 fs ∧ RuO w' w.heap.size v2 rs ∧ Short 10 fs ∧ fs.length ≤ m ∧ RuSm z rs ∧ rs.length ≤ m ∧ p.size ≤ 10 ∧ t.size ≤ 10 ∧ Below w.heap.size w w'
theorem projFile_dr {m z : Nat} {w V : World} {e : Ending} (h : ProjFile m z w e V) : ProjFile m z w e V.drew := by
  obtain ⟨v1, v2, fs, rs, p, t, he, h1, h2, h3, h4, h5, h6, h7, h8, h9⟩ := h
  exact ⟨v1, v2, fs, rs, p, t, he, show OwnsF V.drew _ _ _ from h1, h2.grown (grown_drewN (World.grownBy.refl V none) 1) (fun g e => by cases e), h3, h4, h5, h6, h7, h8, h9.drew⟩
theorem projFile_mk {w V : World} {b1 b2 m z : Nat} {v1 v2 : Value} {fs : List Fl} {rs : List Ru} {p t : ByteArray} (h1 : OwnsF V b1 v1 fs) (h2 : RuO V b2 v2 rs) (hb1 : w.heap.size + 1 < b1) (hb2 : w.heap.size + 1 < b2) (hB : Below w.heap.size w V)
    (hsh : Short 10 fs) (hl1 : fs.length ≤ m) (hsm : RuSm z rs) (hl2 : rs.length ≤ m) (hp : p.size ≤ 10) (ht : t.size ≤ 10) (u0 u1 x0 x1 : Value) :
    ProjFile m z w (.returned (.tuple #[.agg #[v1, v2], .agg #[.string p, .string t]])) ((((V.setCell ⟨w.heap.size, 0, none⟩ u0).setCell ⟨w.heap.size, 1, none⟩ u1).setCell ⟨w.heap.size + 1, 0, none⟩ x0).setCell ⟨w.heap.size + 1, 1, none⟩ x1) :=
  ⟨v1, v2, fs, rs, p, t, rfl, ownsF_mono (ownsF_set (ownsF_set (ownsF_set (ownsF_set h1 (by omega) 0 u0) (by omega) 1 u1) hb1 0 x0) hb1 1 x1) (by omega),
    ((((h2.setCell (by omega) 0 u0).setCell (by omega) 1 u1).setCell hb2 0 x0).setCell hb2 1 x1).mono (by omega), hsh, hl1, hsm, hl2, hp, ht,
    (((hB.setCell (p := ⟨w.heap.size, 0, none⟩) (Nat.le_refl _) u0).setCell (p := ⟨w.heap.size, 1, none⟩) (Nat.le_refl _) u1).setCell (p := ⟨w.heap.size + 1, 0, none⟩) (Nat.le_succ _) x0).setCell (p := ⟨w.heap.size + 1, 1, none⟩) (Nat.le_succ _) x1⟩

set_option maxRecDepth 100000 in
set_option maxHeartbeats 2000000 in
theorem drawSS_any (a : Option Addr) (n c : Nat) (w : World) (hb : BytesAt w w.heap.size a n) (hn : n ≤ c) (hc : c ≤ maxLen) :
    Calls Tryz.prog 8 #[.slice a n c] w (ProjFile 6 1003 w) := by
  have hb0 := (BxP.new w (.slice none 0 0) (.slice none 0 0) 26).alloc (.cells #[.string .empty, .string .empty] 28)
  have hd0 := BxP.new (w.alloc (.cells #[.slice none 0 0, .slice none 0 0] 26)) (.string .empty) (.string .empty) 28
  rw [World.size_alloc] at hd0
  go_enter Tryz.func8, Tryz.ntmps8
  go_wp2_with fail
  refine (open_any a n c _ ((hb.in1 _).in1 _) hn hc).mono ?_
  rintro e w1 ⟨R, n', c', rfl, hle, hr, hB⟩
  have hb1 := hb0.next hB
  have hd1 := hd0.next hB
  have hB0 : Below w.heap.size w w1 := (((Below.refl _ _).alloc (Nat.le_refl _) _).alloc (by simp) _).trans (hB.mono (by simp; omega))
  have hl1 := blk_lt hd1
  simp only [World.size_alloc] at hle hr
  clear hb0 hd0 hB
  have hRl := hr.lt
  go_wp2_with fail
  refine (project_any hr (by omega)).mono ?_
  rintro e w2 ⟨v1, v2, fs, rs, q, rfl, hof, hru, hsh, hfl, hsm, hrl, hst⟩
  obtain ⟨a1, c1, rfl, hf1, hn1⟩ := ownsF_none hof
  obtain ⟨a2, c2, rfl, hc2, hr2⟩ := hru.at_
  have hi2 := hst.hi
  go_wp2_with fail
  refine (pmut_any hst.rd (by omega) a1 a2 c1 c2 fs rs 5 1000 hf1 hn1 hr2 hsh hsm hfl hrl (by omega) (by omega)).mono ?_
  rintro e w3 ⟨v3, v4, gs, ss, q3, rfl, hog, hrv, hsh3, hfl3, hsm3, hrl3, hst3⟩
  obtain ⟨a3, c3, rfl, hf3, hn3⟩ := ownsF_none hog
  obtain ⟨a4, c4, rfl, hc4, hr4⟩ := hrv.at_
  have hst03 := hst.trans hst3
  have hi3 := hst03.hi
  have hs2 := hst.grown.size
  have hs3 := hst3.grown.size
  have hE := BxP.new w3 (.slice a3 gs.length c3) (.slice a4 ss.length c4) 26
  have hb3 := (bxP_step hb1 hst03 (by omega)).alloc (.cells #[.slice a3 gs.length c3, .slice a4 ss.length c4] 26)
  have hd3 := (bxP_step hd1 hst03 (by omega)).alloc (.cells #[.slice a3 gs.length c3, .slice a4 ss.length c4] 26)
  have hrd3 := hst3.rd.alloc (.cells #[.slice a3 gs.length c3, .slice a4 ss.length c4] 26)
  have hog3 := ownsF_al hog (.cells #[.slice a3 gs.length c3, .slice a4 ss.length c4] 26)
  have hru3 := hrv.alloc (.cells #[.slice a3 gs.length c3, .slice a4 ss.length c4] 26)
  have hst3' := hst03.alloc (.cells #[.slice a3 gs.length c3, .slice a4 ss.length c4] 26)
  clear hof hru hog hrv hf1 hf3 hr2 hr4 hst hst3 hst03 hb1
  go_upto_region 3 with (fail)
  generalize hW : w3.alloc (.cells #[.slice a3 gs.length c3, .slice a4 ss.length c4] 26) = W at *
  clear hW
  obtain ⟨e0, e1, ef0, ef1, el⟩ := hE.facts
  obtain ⟨u0, u1, uf0, uf1, ul⟩ := hb3.facts
  have hhi := hst3'.hi
  have hRW := hrd3.lt
  have hlE := blk_lt hE
  clear e0 e1 ef0 ef1 el u0 u1 uf0 uf1 ul
  go_wp2_with fail
  refine (of_new (fun s => s.size ≤ 10) 5 hrd3 (by omega) (by omega) (by omega) rfl ?_).mono ?_
  · simp; decide
  rintro e w4 ⟨⟨p, rfl, hp⟩, hst4⟩
  have hst4' := ((Step.refl hrd3).alloc (.cells #[.string ⟨#[97]⟩, .string ⟨#[98]⟩, .string ⟨#[99]⟩, .string ⟨#[120]⟩, .string ⟨#[101]⟩] 9)).trans hst4
  have hi4 := hst4'.hi
  go_wp2_with fail
  refine (text_any hst4'.rd (by omega)).mono ?_
  rintro e w5 ⟨t, q5, rfl, ht, hst5⟩
  have hst5' := hst4'.trans hst5
  have hs5 := hst5'.grown.size
  have hF := BxP.new w5 (.string p) (.string t) 28
  have hst6 := hst5'.alloc (.cells #[.string p, .string t] 28)
  have hR5 := hst5'.rd.lt
  clear hst4 hst5 hst4' hst5'
  go_upto_region 4 with (fail)
  generalize hV : w5.alloc (.cells #[.string p, .string t] 28) = V at *
  have hVs : w5.heap.size < V.heap.size := blk_lt hF
  clear hV
  generalize w5.heap.size = gF at *
  have hhi := hst6.hi
  go_wp2_with fail
  refine (pick_step (m := 12) hst6.rd (by omega) (by omega)).mono ?_
  rintro e w7 ⟨⟨x, rfl, _, _⟩, hst7⟩
  have hF7 := bxP_step hF hst7 (by omega)
  have hW7 := hst6.trans hst7
  have hs7 := hst7.grown.size
  clear hF hst6 hst7
  by_cases x0 : x = 0
  · subst x0
    have hW8 := hW7.setNew (g := gF) (j := 0) hs5 (.string ⟨#[65]⟩)
    have hF8 := hF7.set0 (.string ⟨#[65]⟩)
    obtain ⟨z0, z1, zf0, zf1, zl⟩ := hF7.facts
    go_upto_region 6 with (fail)
    clear z0 z1 zf0 zf1 zl
    generalize hV8 : w7.setCell ⟨gF, 0, none⟩ (.string ⟨#[65]⟩) = V8 at *
    clear hV8
    have hE8 := bxP_step hE hW8 (by omega)
    have hb8 := bxP_step hb3 hW8 (by omega)
    have hd8 := bxP_step hd3 hW8 (by omega)
    have Hog := Lib.hid (hog3.step (by omega) hW8)
    have Hru := Lib.hid (hru3.step (by omega) hW8)
    have HB := Lib.hid (hB0.trans ((hst3'.trans hW8).toBelow (by omega) (by omega)))
    obtain ⟨e0, e1, ef0, ef1, el⟩ := hE8.facts
    obtain ⟨u0, u1, uf0, uf1, ul⟩ := hb8.facts
    obtain ⟨y0, y1, yf0, yf1, yl⟩ := hd8.facts
    obtain ⟨z0, z1, zf0, zf1, zl⟩ := hF8.facts
    clear hog3 hru3 hB0 hst3' hW7 hW8 hE hb3 hd3 hF7 hF8 hE8 hb8 hd8
    go_wp2_with fail
    go_region_law (fail)
    all_goals go_wp2_with fail
    all_goals
      refine bodyPost_ret (v := .tuple #[.agg #[.slice a3 gs.length c3, .slice a4 ss.length c4], .agg #[.string ⟨#[65]⟩, .string t]]) (by simp [results, Tryz.results8, go_sem, *]) rfl ?_
      first
        | exact projFile_mk Hog.out Hru.out (by omega) (by omega) HB.out hsh3 hfl3 hsm3 hrl3 (show (⟨#[65]⟩ : ByteArray).size ≤ 10 by decide) ht _ _ _ _
        | exact projFile_dr (projFile_mk Hog.out Hru.out (by omega) (by omega) HB.out hsh3 hfl3 hsm3 hrl3 (show (⟨#[65]⟩ : ByteArray).size ≤ 10 by decide) ht _ _ _ _)
  · have hx : ((x : Int) == 0) = false := by rw [beq_eq_false_iff_ne]; omega
    have hW8 := hW7
    have hF8 := hF7
    go_upto_region 6 with (fail)
    have hE8 := bxP_step hE hW8 (by omega)
    have hb8 := bxP_step hb3 hW8 (by omega)
    have hd8 := bxP_step hd3 hW8 (by omega)
    have Hog := Lib.hid (hog3.step (by omega) hW8)
    have Hru := Lib.hid (hru3.step (by omega) hW8)
    have HB := Lib.hid (hB0.trans ((hst3'.trans hW8).toBelow (by omega) (by omega)))
    obtain ⟨e0, e1, ef0, ef1, el⟩ := hE8.facts
    obtain ⟨u0, u1, uf0, uf1, ul⟩ := hb8.facts
    obtain ⟨y0, y1, yf0, yf1, yl⟩ := hd8.facts
    obtain ⟨z0, z1, zf0, zf1, zl⟩ := hF8.facts
    clear hog3 hru3 hB0 hst3' hW7 hW8 hE hb3 hd3 hF7 hF8 hE8 hb8 hd8
    go_wp2_with fail
    go_region_law (fail)
    all_goals go_wp2_with fail
    all_goals
      refine bodyPost_ret (v := .tuple #[.agg #[.slice a3 gs.length c3, .slice a4 ss.length c4], .agg #[.string p, .string t]]) (by simp [results, Tryz.results8, go_sem, *]) rfl ?_
      first
        | exact projFile_mk Hog.out Hru.out (by omega) (by omega) HB.out hsh3 hfl3 hsm3 hrl3 hp ht _ _ _ _
        | exact projFile_dr (projFile_mk Hog.out Hru.out (by omega) (by omega) HB.out hsh3 hfl3 hsm3 hrl3 hp ht _ _ _ _)
end Go.Proofs.YtceiafncpimihaaGreat
