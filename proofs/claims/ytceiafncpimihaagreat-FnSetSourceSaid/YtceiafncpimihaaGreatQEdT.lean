/-
  The reference's l3Checked, SetSource and RemoveSource.
-/
import Derived.Test.YtceiafncpimihaaGreatQCpS
import Derived.Test.YtceiafncpimihaaGreatQEdG
import Derived.Test.YtceiafncpimihaaGreatGone
namespace Go.Proofs.YtceiafncpimihaaGreat
set_option linter.unusedVariables false
set_option linter.unusedSimpArgs false
open Go.RowKit

/-- what the reference's four edits leave -/
def EdS (r : List Fl × List Ru × Bool) (w : World) (e : Ending) (w' : World) : Prop := ∃ a1 c1 a2 c2, e = .returned (.tuple #[.agg #[.slice a1 r.1.length c1, .slice a2 r.2.1.length c2], .bool r.2.2]) ∧ OwnsF w' w.heap.size (.slice a1 r.1.length c1) r.1 ∧ OwnR w' w.heap.size (.slice a2 r.2.1.length c2) r.2.1 ∧ Below w.heap.size w w'
theorem edS_none {w w' : World} (h : Below w.heap.size w w') : EdS ([], [], false) w (.returned (.tuple #[.agg #[.slice none 0 0, .slice none 0 0], .bool false])) w' :=
  ⟨none, 0, none, 0, rfl, World.ownsRow_nil _ _ _ _, OwnR.nil _ _, h⟩
/-- .. as lists to be read -/
theorem EdS.at {r : List Fl × List Ru × Bool} {w w' : World} {e : Ending} (h : EdS r w e w') : ∃ a1 c1 a2 c2, e = .returned (.tuple #[.agg #[.slice a1 r.1.length c1, .slice a2 r.2.1.length c2], .bool r.2.2]) ∧ OwnsF w' w.heap.size (.slice a1 r.1.length c1) r.1 ∧ RuAt w' w.heap.size w'.heap.size r.2.1 a2 r.2.1.length ∧ Below w.heap.size w w' := by
  obtain ⟨a1, c1, a2, c2, rfl, h1, h2, h3⟩ := h
  obtain ⟨a, c, e, _, _, h4⟩ := h2.form
  injection e with e _ _
  subst e
  exact ⟨a1, c1, a2, c2, rfl, h1, h4, h3⟩
/-- a project, if it is valid -/
def chkR (fs : List Fl) (rs : List Ru) : List Fl × List Ru × Bool := if projB fs rs = true then (fs, rs, true) else ([], [], false)
theorem chkR_true {fs : List Fl} {rs : List Ru} (h : projB fs rs = true) : chkR fs rs = (fs, rs, true) := if_pos h
theorem chkR_false {fs : List Fl} {rs : List Ru} (h : projB fs rs = false) : chkR fs rs = ([], [], false) := if_neg (by simp [h])

set_option maxRecDepth 100000 in
set_option maxHeartbeats 4000000 in
theorem l3Checked_of (hR : RulesC) (a1 a2 : Option Addr) (n1 n2 c1 c2 : Nat) (fs : List Fl) (rs : List Ru) (w : World) (hf : FilesAt w w.heap.size a1 n1 fs) (hnil : a1 = none → n1 = 0 ∧ c1 = 0) (hn1 : n1 ≤ 1048576) (hr : RuAt w 0 w.heap.size rs a2 n2) (hs : Fits fs) (hrf : RuFits rs) (hN : RuZ rs) :
    Calls Tryz.prog 35 #[.agg #[.slice a1 n1 c1, .slice a2 n2 c2]] w (EdS (chkR fs rs) w) := by
  have hB0 := ((Below.refl w.heap.size w).alloc (Nat.le_refl _) (.cells #[.slice a1 n1 c1, .slice a2 n2 c2] 26)).alloc (by simp) (.cells #[.slice none 0 0, .slice none 0 0] 26)
  have hP0 := (BxP.new w (.slice a1 n1 c1) (.slice a2 n2 c2) 26).alloc (.cells #[.slice none 0 0, .slice none 0 0] 26)
  have hE0 := BxP.new (w.alloc (.cells #[.slice a1 n1 c1, .slice a2 n2 c2] 26)) (.slice none 0 0) (.slice none 0 0) 26
  simp only [World.size_alloc] at hE0
  have hf0 := (hf.below hB0).more hB0.size
  have hr0 := hr.next hB0
  have hl2 := hr.1
  have hm1 : n1 ≤ maxLen := by unfold maxLen; omega
  have hm2 : n2 ≤ maxLen := by have := hN.1; unfold maxLen; omega
  have Hc := Lib.hid (projS_z hR a1 a2 n1 n2 c1 c2 fs rs _ hf0 hr0 hs hrf hm1 hm2 hN)
  have Hf := Lib.hid (And.intro hf0 hr0)
  obtain ⟨Q, hQ⟩ : ∃ Q, EdS (chkR fs rs) w = Q := ⟨_, rfl⟩
  have HQ := Lib.hid hQ
  rw [hQ]
  clear hQ hf hr hs hrf hf0 hr0 hm1 hm2 hl2
  cases hp : projB fs rs with
  | false =>
    rw [hp] at Hc
    have Hp := Lib.hid hp
    clear hp
    go_enter Tryz.func35, Tryz.ntmps35
    go_wp2_with fail
    refine Hc.out.mono ?_
    rintro e w1 ⟨rfl, hB1⟩
    have B1 := hB0.trans (hB1.mono hB0.size)
    have hE1 := hE0.next hB1
    have hE4 := Lib.hid ((hE1.set0 (.slice none 0 0)).set1 (.slice none 0 0))
    have BF := Lib.hid (((B1.setCell (p := ⟨w.heap.size + 1, 0, none⟩) (Nat.le_succ _) (.slice none 0 0)).setCell (p := ⟨w.heap.size + 1, 1, none⟩) (Nat.le_succ _) (.slice none 0 0)))
    obtain ⟨z0, z1, zf0, zf1, zl⟩ := hE1.facts
    go_wp2_with fail
    clear z0 z1 zf0 zf1 zl
    obtain ⟨z0, z1, zf0, zf1, zl⟩ := hE4.out.facts
    refine bodyPost_ret (v := .tuple #[.agg #[.slice none 0 0, .slice none 0 0], .bool false]) (by simp [results, Tryz.results35, go_sem, *]) rfl ?_
    rw [← HQ.out, chkR_false Hp.out]
    exact edS_none BF.out
  | true =>
    rw [hp] at Hc
    have Hp := Lib.hid hp
    clear hp
    go_enter Tryz.func35, Tryz.ntmps35
    go_wp2_with fail
    refine Hc.out.mono ?_
    rintro e w1 ⟨rfl, hB1⟩
    have B1 := hB0.trans (hB1.mono hB0.size)
    have hE1 := hE0.next hB1
    have hP1 := hP0.next hB1
    obtain ⟨p0, p1, pf0, pf1, hpl⟩ := hP1.facts
    have Hc2 := Lib.hid ((l3Copy_z a1 a2 n1 n2 c1 c2 fs rs w1 ((Hf.out.1.below hB1).more hB1.size) hnil hn1 (Hf.out.2.next hB1) hN).mono fun _ _ h => h.weak)
    go_wp2_with fail
    refine Hc2.out.mono ?_
    rintro e w2 ⟨v1, v2, rfl, hof, hor, hB2⟩
    obtain ⟨av, cv, rfl, _⟩ := hof.form
    obtain ⟨a4, d4, rfl, _, _, _⟩ := hor.form
    have B2 := B1.trans (hB2.mono B1.size)
    have hE2 := hE1.next hB2
    have hl3 := blk_lt hE1
    have hof2 := OwnsF.set (OwnsF.set hof hl3 0 (.slice av fs.length cv)) hl3 1 (.slice a4 rs.length d4)
    have hor2 := (hor.setCell (g := w.heap.size + 1) hl3 0 (.slice av fs.length cv)).setCell (g := w.heap.size + 1) hl3 1 (.slice a4 rs.length d4)
    have HF := Lib.hid (And.intro (World.ownsRow.mono hof2 B1.size) (hor2.mono B1.size))
    have hE4 := Lib.hid ((hE2.set0 (.slice av fs.length cv)).set1 (.slice a4 rs.length d4))
    have BF := Lib.hid (((B2.setCell (p := ⟨w.heap.size + 1, 0, none⟩) (Nat.le_succ _) (.slice av fs.length cv)).setCell (p := ⟨w.heap.size + 1, 1, none⟩) (Nat.le_succ _) (.slice a4 rs.length d4)))
    clear p0 p1 pf0 pf1 hpl hof hor hof2 hor2
    obtain ⟨z0, z1, zf0, zf1, zl⟩ := hE2.facts
    go_wp2_with fail
    clear z0 z1 zf0 zf1 zl
    obtain ⟨z0, z1, zf0, zf1, zl⟩ := hE4.out.facts
    refine bodyPost_ret (v := .tuple #[.agg #[.slice av fs.length cv, .slice a4 rs.length d4], .bool true]) (by simp [results, Tryz.results35, go_sem, *]) rfl ?_
    rw [← HQ.out, chkR_true Hp.out]
    exact ⟨av, cv, a4, d4, rfl, HF.out.1, HF.out.2, BF.out⟩
end Go.Proofs.YtceiafncpimihaaGreat
