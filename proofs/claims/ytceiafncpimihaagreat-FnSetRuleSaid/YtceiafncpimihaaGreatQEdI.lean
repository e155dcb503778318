/-
  The program's editProject, whatever the change: what it answers, out of the change's contract.
-/
import Derived.Test.YtceiafncpimihaaGreatGtwo
import Derived.Test.YtceiafncpimihaaGreatQPrI
namespace Go.Proofs.YtceiafncpimihaaGreat
set_option linter.unusedVariables false
set_option linter.unusedSimpArgs false
open Go.RowKit

/-- what the four edits of the program leave: the project's lists in memory of their own -/
def EdP (fs : List Fl) (rs : List Ru) (b : Bool) (w : World) (e : Ending) (w' : World) : Prop := ∃ a1 c1 a c bs g, e = .returned (.tuple #[.agg #[.slice a1 fs.length c1, .slice a rs.length c], .bool b]) ∧ OwnsF w' w.heap.size (.slice a1 fs.length c1) fs ∧ (∀ x ∈ rblksA g bs, (Value.slice a1 fs.length c1).ownBlock ≠ some x) ∧ CopQ w' w.heap.size rs a c bs g ∧ Below w.heap.size w w'
theorem copQ_nil (w : World) (base : Nat) : CopQ w base [] none 0 [] 0 := by
  refine ⟨⟨rfl, fun h => absurd h (by simp)⟩, ⟨rfl, fun h => absurd h (by simp)⟩, ?_, ?_, rfl, Nat.le_refl _⟩
  · exact List.nodup_nil
  · intro x hx; simp [rblksA] at hx
theorem edP_none {w w' : World} (h : Below w.heap.size w w') : EdP [] [] false w (.returned (.tuple #[.agg #[.slice none 0 0, .slice none 0 0], .bool false])) w' :=
  ⟨none, 0, none, 0, [], 0, rfl, World.ownsRow_nil _ _ _ _, fun x hx => by simp [rblksA] at hx, copQ_nil _ _, h⟩
/-- what a change leaves -/
def ChP (g : Nat) (fs : List Fl) (rs : List Ru) (b : Bool) (w : World) (e : Ending) (w' : World) : Prop := ∃ a1 n1 c1 a2 n2 c2, e = .returned (.bool b) ∧ BxP w' g (.slice a1 n1 c1) (.slice a2 n2 c2) 26 ∧ (b = true → FilesAt w' w'.heap.size a1 n1 fs ∧ RuAt w' 0 w'.heap.size rs a2 n2 ∧ n2 ≤ c2) ∧ w.grownBy w' (some g)

set_option maxRecDepth 100000 in
set_option maxHeartbeats 4000000 in
theorem edit_bad (F gc : Nat) (fv : Value) (hfv : fv = .func (.func F) #[] #[.pointer (some ⟨gc, 0, none⟩)]) (a1 a2 : Option Addr) (n1 n2 c1 c2 : Nat) (fs : List Fl) (rs : List Ru) (w : World) (hf : FilesAt w w.heap.size a1 n1 fs) (hr : RuAt w 0 w.heap.size rs a2 n2) (hs : Fits fs) (hrf : RuFits rs) (hn1 : n1 ≤ maxLen) (hn2 : n2 ≤ maxLen) (hp : projB fs rs = false) :
    Calls Tryz.prog 31 #[.agg #[.slice a1 n1 c1, .slice a2 n2 c2], fv] w (EdP [] [] false w) := by
  have hB0 := ((Below.refl w.heap.size w).alloc (Nat.le_refl _) (.cells #[.slice a1 n1 c1, .slice a2 n2 c2] 26)).alloc (by simp) (.cells #[.slice none 0 0, .slice none 0 0] 26)
  have hE0 := BxP.new (w.alloc (.cells #[.slice a1 n1 c1, .slice a2 n2 c2] 26)) (.slice none 0 0) (.slice none 0 0) 26
  simp only [World.size_alloc] at hE0
  have Hc := Lib.hid (projI_any a1 a2 n1 n2 c1 c2 fs rs _ ((hf.below hB0).more hB0.size) (hr.next hB0) hs hrf hn1 hn2)
  rw [hp] at Hc
  clear hf hr hs hrf hp
  go_enter Tryz.func31, Tryz.ntmps31
  subst hfv
  go_wp2_with fail
  refine Hc.out.mono ?_
  rintro e w1 ⟨rfl, hB1⟩
  have B1 := hB0.trans (hB1.mono hB0.size)
  have hE1 := hE0.next hB1
  have hE4 := Lib.hid ((hE1.set0 (.slice none 0 0)).set1 (.slice none 0 0))
  have BF := Lib.hid (((B1.setCell (p := ⟨w.heap.size + 1, 0, none⟩) (Nat.le_succ _) (.slice none 0 0)).setCell (p := ⟨w.heap.size + 1, 1, none⟩) (Nat.le_succ _) (.slice none 0 0)))
  obtain ⟨z0, z1, zf0, zf1, zl⟩ := hE1.facts
  go_wp2_with fail
  clear z0 z1 zf0 zf1 zl
  obtain ⟨z0, z1, zf0, zf1, zl⟩ := hE4.out.facts
  refine bodyPost_ret (v := .tuple #[.agg #[.slice none 0 0, .slice none 0 0], .bool false]) (by simp [results, Tryz.results31, go_sem, *]) rfl ?_
  exact edP_none BF.out

set_option maxRecDepth 100000 in
set_option maxHeartbeats 4000000 in
theorem edit_of (F gc : Nat) (fv : Value) (hfv : fv = .func (.func F) #[] #[.pointer (some ⟨gc, 0, none⟩)]) (a1 a2 : Option Addr) (n1 n2 c1 c2 : Nat) (fs : List Fl) (rs : List Ru) (w : World) (hf : FilesAt w w.heap.size a1 n1 fs) (hr : RuAt w 0 w.heap.size rs a2 n2) (hs : Fits fs) (hrf : RuFits rs) (hn1 : n1 ≤ maxLen) (hn2 : n2 ≤ maxLen) (hp : projB fs rs = true)
    (fs' : List Fl) (rs' : List Ru) (b : Bool) (hch : ∀ W, Below w.heap.size w W → BxP W w.heap.size (.slice a1 n1 c1) (.slice a2 n2 c2) 26 → Calls Tryz.prog F #[.pointer (some ⟨w.heap.size, 0, none⟩), .pointer (some ⟨gc, 0, none⟩)] W (ChP w.heap.size fs' rs' b W))
    (hcf : ∀ (args : Array Value) (w' : World), Sem.run Tryz.prog (callFunc F args) w' = .ok (.enter F args) w') (hs' : Fits fs') (hrf' : RuFits rs') (hn1' : fs'.length ≤ 1048576) (hN' : RuZ rs') :
    Calls Tryz.prog 31 #[.agg #[.slice a1 n1 c1, .slice a2 n2 c2], fv] w (if b = true ∧ projB fs' rs' = true then EdP fs' rs' true w else EdP [] [] false w) := by
  have hN1 := hN'.1
  have hB0 := ((Below.refl w.heap.size w).alloc (Nat.le_refl _) (.cells #[.slice a1 n1 c1, .slice a2 n2 c2] 26)).alloc (by simp) (.cells #[.slice none 0 0, .slice none 0 0] 26)
  have hP0 := (BxP.new w (.slice a1 n1 c1) (.slice a2 n2 c2) 26).alloc (.cells #[.slice none 0 0, .slice none 0 0] 26)
  have hE0 := BxP.new (w.alloc (.cells #[.slice a1 n1 c1, .slice a2 n2 c2] 26)) (.slice none 0 0) (.slice none 0 0) 26
  simp only [World.size_alloc] at hE0
  have Hc := Lib.hid (projI_any a1 a2 n1 n2 c1 c2 fs rs _ ((hf.below hB0).more hB0.size) (hr.next hB0) hs hrf hn1 hn2)
  rw [hp] at Hc
  clear hf hr hs hrf hp
  generalize hQ : (if b = true ∧ projB fs' rs' = true then EdP fs' rs' true w else EdP [] [] false w) = Q
  have HQ := Lib.hid hQ
  clear hQ
  go_enter Tryz.func31, Tryz.ntmps31
  subst hfv
  go_wp2_with fail
  refine Hc.out.mono ?_
  rintro e w1 ⟨rfl, hB1⟩
  have B1 := hB0.trans (hB1.mono hB0.size)
  have hP1 := hP0.next hB1
  have hE1 := hE0.next hB1
  go_wp2_with fail
  refine (hch _ B1 hP1).mono ?_
  rintro e w2 ⟨a1', m1, c1', a2', m2, c2', rfl, hP2, hl2, hB2⟩
  have hE2 : BxP w2 (w.heap.size + 1) (.slice none 0 0) (.slice none 0 0) 26 := (hB2.block _ (by have := hB1.size; simp at this; omega) (by simp)).trans hE1
  have B2 := B1.grown hB2 B1.size (fun g e => by injection e with e; omega)
  clear hE0 hP0 Hc hB1 hB2 hE1 hP1 hch hB0
  cases b with
  | false =>
    have hE4 := Lib.hid ((hE2.set0 (.slice none 0 0)).set1 (.slice none 0 0))
    have BF := Lib.hid (((B2.setCell (p := ⟨w.heap.size + 1, 0, none⟩) (Nat.le_succ _) (.slice none 0 0)).setCell (p := ⟨w.heap.size + 1, 1, none⟩) (Nat.le_succ _) (.slice none 0 0)))
    obtain ⟨z0, z1, zf0, zf1, zl⟩ := hE2.facts
    go_wp2_with fail
    clear z0 z1 zf0 zf1 zl
    obtain ⟨z0, z1, zf0, zf1, zl⟩ := hE4.out.facts
    refine bodyPost_ret (v := .tuple #[.agg #[.slice none 0 0, .slice none 0 0], .bool false]) (by simp [results, Tryz.results31, go_sem, *]) rfl ?_
    rw [← HQ.out]
    have H1 := Lib.hid (edP_none BF.out)
    simpa using H1.out
  | true =>
    obtain ⟨hf2, hr2, hnc2⟩ := hl2 rfl
    obtain rfl := hf2.1
    obtain rfl := hr2.1
    have Hc := Lib.hid (projI_any a1' a2' _ _ c1' c2' fs' rs' w2 hf2 hr2 hs' hrf' (by unfold maxLen; omega) (by unfold maxLen; omega))
    obtain ⟨pv, hpv⟩ : ∃ x, projB fs' rs' = x := ⟨_, rfl⟩
    rw [hpv] at Hc HQ
    obtain ⟨z0, z1, zf0, zf1, zl⟩ := hP2.facts
    go_wp2_with fail
    refine Hc.out.mono ?_
    rintro e w3 ⟨rfl, hB3⟩
    have hP3 := hP2.next hB3
    have hE3 := hE2.next hB3
    have B3 := B2.trans (hB3.mono B2.size)
    have hf3 := (hf2.below hB3).more hB3.size
    have hr3 := hr2.next hB3
    clear z0 z1 zf0 zf1 zl hE2 hP2 hpv Hc hf2 hr2 B2 hB3
    have hE2 := hE3
    have B2 := B3
    cases pv with
    | false =>
      have hE4 := Lib.hid ((hE2.set0 (.slice none 0 0)).set1 (.slice none 0 0))
      have BF := Lib.hid (((B2.setCell (p := ⟨w.heap.size + 1, 0, none⟩) (Nat.le_succ _) (.slice none 0 0)).setCell (p := ⟨w.heap.size + 1, 1, none⟩) (Nat.le_succ _) (.slice none 0 0)))
      obtain ⟨z0, z1, zf0, zf1, zl⟩ := hE2.facts
      go_wp2_with fail
      clear z0 z1 zf0 zf1 zl
      obtain ⟨z0, z1, zf0, zf1, zl⟩ := hE4.out.facts
      refine bodyPost_ret (v := .tuple #[.agg #[.slice none 0 0, .slice none 0 0], .bool false]) (by simp [results, Tryz.results31, go_sem, *]) rfl ?_
      rw [← HQ.out]
      have H1 := Lib.hid (edP_none BF.out)
      simpa using H1.out
    | true =>
      have hE4 := hE2
      obtain ⟨z0, z1, zf0, zf1, zl⟩ := hP3.facts
      go_wp2_with fail
      refine (copyProject_z a1' a2' _ _ c1' c2' fs' rs' w3 hf3 hn1' hr3 hN' hnc2).mono ?_
      rintro e w4 ⟨v4, a4, c4, bs4, g4, rfl, ho4, hd4, hq4, hB4⟩
      obtain ⟨av, cv, rfl, _⟩ := ho4.form
      have hE5 := hE4.next hB4
      have B4 := B3.trans (hB4.mono B3.size)
      clear z0 z1 zf0 zf1 zl
      obtain ⟨z0, z1, zf0, zf1, zl⟩ := hE5.facts
      have hsz3 := B3.size
      have hl3 := blk_lt hE4
      have Hfin := Lib.hid (copPr_mk (n0 := w.heap.size) ho4 hq4 hd4 hsz3 (w.heap.size + 1) hl3 (.slice av fs'.length cv) (.slice a4 rs'.length c4))
      have BF := Lib.hid (((B4.setCell (p := ⟨w.heap.size + 1, 0, none⟩) (Nat.le_succ _) (.slice av fs'.length cv)).setCell (p := ⟨w.heap.size + 1, 1, none⟩) (Nat.le_succ _) (.slice a4 rs'.length c4)))
      have hE6 := Lib.hid ((hE5.set0 (.slice av fs'.length cv)).set1 (.slice a4 rs'.length c4))
      clear ho4 hd4 hq4
      go_wp2_with fail
      clear z0 z1 zf0 zf1 zl
      obtain ⟨z0, z1, zf0, zf1, zl⟩ := hE6.out.facts
      refine bodyPost_ret (v := .tuple #[.agg #[.slice av fs'.length cv, .slice a4 rs'.length c4], .bool true]) (by simp [results, Tryz.results31, go_sem, *]) rfl ?_
      rw [← HQ.out]
      have H1 : EdP fs' rs' true w (.returned (.tuple #[.agg #[.slice av fs'.length cv, .slice a4 rs'.length c4], .bool true])) _ := ⟨av, cv, a4, c4, bs4, g4, rfl, Hfin.out.1, Hfin.out.2.1, Hfin.out.2.2, BF.out⟩
      simpa using H1
end Go.Proofs.YtceiafncpimihaaGreat
