/-
  The reference's SetSource and RemoveSource.
-/
import Derived.Test.YtceiafncpimihaaGreatQEdT
import Derived.Deep.RegionHeld3
namespace Go.Proofs.YtceiafncpimihaaGreat
set_option linter.unusedVariables false
set_option linter.unusedSimpArgs false
open Go.RowKit

theorem ownsF_nil {w : World} {base n c : Nat} {a : Option Addr} {fs : List Fl} (h : OwnsF w base (.slice a n c) fs) : a = none → n = 0 ∧ c = 0 := by
  rintro rfl
  rcases h.2 with ⟨e, _⟩ | ⟨g, cap, cur, e, _⟩
  · injection e with _ e2 e3; exact ⟨e2, e3⟩
  · injection e with e1; cases e1
theorem setSrcR_chk {f : Fl} {fs : List Fl} {rs : List Ru} (h : projB fs rs = true) : setSrcR f fs rs = chkR (putF f fs) rs := by
  unfold setSrcR chkR
  by_cases h2 : projB (putF f fs) rs = true
  · rw [if_pos ⟨h, h2⟩, if_pos h2]
  · rw [if_neg (fun h => h2 h.2), if_neg h2]
theorem setSrcR_bad {f : Fl} {fs : List Fl} {rs : List Ru} (h : projB fs rs = false) : setSrcR f fs rs = ([], [], false) := if_neg (fun h2 => by rw [h] at h2; cases h2.1)
theorem delSrcR_chk {x : ByteArray} {fs : List Fl} {rs : List Ru} (h : projB fs rs = true) (h2 : hasF fs x = true) : delSrcR x fs rs = chkR (delU x fs) rs := by
  unfold delSrcR chkR
  by_cases h3 : projB (delU x fs) rs = true
  · rw [if_pos ⟨h, h2, h3⟩, if_pos h3]
  · rw [if_neg (fun h => h3 h.2.2), if_neg h3]
theorem delSrcR_bad {x : ByteArray} {fs : List Fl} {rs : List Ru} (h : projB fs rs = false) : delSrcR x fs rs = ([], [], false) := if_neg (fun h2 => by rw [h] at h2; cases h2.1)
theorem delSrcR_not {x : ByteArray} {fs : List Fl} {rs : List Ru} (h : hasF fs x = false) : delSrcR x fs rs = ([], [], false) := if_neg (fun h2 => by rw [h] at h2; cases h2.2.1)
theorem delSrcR_no {x : ByteArray} {fs gs : List Fl} {rs : List Ru} (h : delR x fs = (gs, false)) : delSrcR x fs rs = ([], [], false) := by
  unfold delR at h
  split at h
  · cases h
  · rename_i h2
    exact if_neg fun h3 => h2 ⟨proj_valid h3.1, h3.2.1⟩
theorem delSrcR_yes {x : ByteArray} {fs gs : List Fl} {rs : List Ru} (hp : projB fs rs = true) (h : delR x fs = (gs, true)) : delSrcR x fs rs = chkR gs rs := by
  unfold delR at h
  split at h
  · rename_i h2
    cases h
    exact delSrcR_chk hp h2.2
  · cases h
theorem two_two {w : World} {g g' : Nat} {u v u' v' : Value} {T T' : TypeId} (h : BxP w g u v T) (h' : BxP w g' u' v' T') : w.cell? ⟨g, 0, none⟩ = some u ∧ w.cell? ⟨g, 1, none⟩ = some v ∧ w.cell? ⟨g', 0, none⟩ = some u' ∧ w.cell? ⟨g', 1, none⟩ = some v' := ⟨h.facts.1, h.facts.2.1, h'.facts.1, h'.facts.2.1⟩
/-- the reference's answer, behind the store into its result's box -/
theorem edS_store {w0 w w4 : World} {r : List Fl × List Ru × Bool} {g c1 : Nat} {a1 a2 : Option Addr} (c2 : Nat) (h1 : OwnsF w4 w.heap.size (.slice a1 r.1.length c1) r.1) (h2 : OwnR w4 w.heap.size (.slice a2 r.2.1.length c2) r.2.1) (hB : Below w0.heap.size w0 w4) (hw : w0.heap.size ≤ w.heap.size) (hg : g < w.heap.size) (hg0 : w0.heap.size ≤ g) (x y : Value) :
    EdS r w0 (.returned (.tuple #[.agg #[.slice a1 r.1.length c1, .slice a2 r.2.1.length c2], .bool r.2.2])) ((w4.setCell ⟨g, 0, none⟩ x).setCell ⟨g, 1, none⟩ y) := by
  refine ⟨a1, c1, a2, c2, rfl, World.ownsRow.mono (OwnsF.set (OwnsF.set h1 hg 0 x) hg 1 y) hw, ?_, (hB.setCell (p := ⟨g, 0, none⟩) hg0 x).setCell (p := ⟨g, 1, none⟩) hg0 y⟩
  exact ((h2.setCell hg 0 x).setCell hg 1 y).mono hw

set_option maxRecDepth 100000 in
set_option maxHeartbeats 4000000 in
theorem setSrcS_z (hR : RulesC) (a1 a2 : Option Addr) (n1 n2 c1 c2 : Nat) (fs : List Fl) (rs : List Ru) (p t : ByteArray) (w : World) (hf : FilesAt w w.heap.size a1 n1 fs) (hn1 : n1 ≤ 1048576) (hr : RuAt w 0 w.heap.size rs a2 n2) (hs : Fits fs) (hrf : RuFits rs) (hN : RuZ6 rs) (hp1 : p.size ≤ maxLen) (ht1 : t.size ≤ maxLen) :
    Calls Tryz.prog 10 #[.agg #[.slice a1 n1 c1, .slice a2 n2 c2], .agg #[.string p, .string t]] w (EdS (setSrcR (p, t) fs rs) w) := by
  have hB0 := (((Below.refl w.heap.size w).alloc (Nat.le_refl _) (.cells #[.slice a1 n1 c1, .slice a2 n2 c2] 26)).alloc (by simp) (.cells #[.string p, .string t] 28)).alloc (by simp; omega) (.cells #[.slice none 0 0, .slice none 0 0] 26)
  have hP0 := ((BxP.new w (.slice a1 n1 c1) (.slice a2 n2 c2) 26).alloc (.cells #[.string p, .string t] 28)).alloc (.cells #[.slice none 0 0, .slice none 0 0] 26)
  have hF0 := (BxP.new (w.alloc (.cells #[.slice a1 n1 c1, .slice a2 n2 c2] 26)) (.string p) (.string t) 28).alloc (.cells #[.slice none 0 0, .slice none 0 0] 26)
  have hE0 := BxP.new ((w.alloc (.cells #[.slice a1 n1 c1, .slice a2 n2 c2] 26)).alloc (.cells #[.string p, .string t] 28)) (.slice none 0 0) (.slice none 0 0) 26
  simp only [World.size_alloc] at hE0 hF0
  have hf0 := (hf.below hB0).more hB0.size
  have hr0 := hr.next hB0
  have hl1 := hf.1
  have hl2 := hr.1
  have hN1 := hN.1
  have hm1 : n1 ≤ maxLen := by unfold maxLen; omega
  have hm2 : n2 ≤ maxLen := by unfold maxLen; omega
  have Hc := Lib.hid (projS_z hR a1 a2 n1 n2 c1 c2 fs rs _ hf0 hr0 hs hrf hm1 hm2 hN.z)
  have Hf := Lib.hid (And.intro hf0 (And.intro hr0 (And.intro hs hrf)))
  obtain ⟨Q, hQ⟩ : ∃ Q, EdS (setSrcR (p, t) fs rs) w = Q := ⟨_, rfl⟩
  have HQ := Lib.hid hQ
  rw [hQ]
  clear hQ hf hr hs hrf hf0 hr0 hm1 hm2
  cases hp : projB fs rs with
  | false =>
    rw [hp] at Hc
    have Hp := Lib.hid hp
    clear hp hl1 hl2
    go_enter Tryz.func10, Tryz.ntmps10
    go_wp2_with fail
    refine Hc.out.mono ?_
    rintro e w1 ⟨rfl, hB1⟩
    have B1 := hB0.trans (hB1.mono hB0.size)
    have hE1 := hE0.next hB1
    have hE4 := Lib.hid ((hE1.set0 (.slice none 0 0)).set1 (.slice none 0 0))
    have BF := Lib.hid (((B1.setCell (p := ⟨w.heap.size + 1 + 1, 0, none⟩) (by show w.heap.size ≤ w.heap.size + 1 + 1; omega) (.slice none 0 0)).setCell (p := ⟨w.heap.size + 1 + 1, 1, none⟩) (by show w.heap.size ≤ w.heap.size + 1 + 1; omega) (.slice none 0 0)))
    obtain ⟨z0, z1, zf0, zf1, zl⟩ := hE1.facts
    go_wp2_with fail
    clear z0 z1 zf0 zf1 zl
    obtain ⟨z0, z1, zf0, zf1, zl⟩ := hE4.out.facts
    refine bodyPost_ret (v := .tuple #[.agg #[.slice none 0 0, .slice none 0 0], .bool false]) (by simp [results, Tryz.results10, go_sem, *]) rfl ?_
    rw [← HQ.out, setSrcR_bad Hp.out]
    exact edS_none BF.out
  | true =>
    rw [hp] at Hc
    have hv := proj_valid hp
    have hl12 := valid_length hv
    have hpl12 := (putF_len (f := (p, t)) (valid_asc hv)).2
    have Hp := Lib.hid hp
    obtain ⟨gs, hgs⟩ : ∃ gs, putF (p, t) fs = gs := ⟨_, rfl⟩
    have Hfp := Lib.hid (show Fits gs from hgs ▸ fits_put Hf.out.2.2.1 hp1 ht1)
    rw [hgs] at hpl12
    obtain ⟨r, hr⟩ : ∃ r, chkR gs rs = r := ⟨_, rfl⟩
    have Hgs := Lib.hid hgs
    have Hr := Lib.hid hr
    clear hp hv hgs hr
    go_enter Tryz.func10, Tryz.ntmps10
    go_wp2_with fail
    refine Hc.out.mono ?_
    rintro e w1 ⟨rfl, hB1⟩
    have B1 := hB0.trans (hB1.mono hB0.size)
    have hD := (Below.refl w1.heap.size w1).drew
    have BD := B1.trans (hD.mono B1.size)
    have hE1 := (hE0.next hB1).next hD
    have hP1 := (hP0.next hB1).next hD
    have hF1 := (hF0.next hB1).next hD
    have hfD := (((Hf.out.1.below hB1).more hB1.size).below hD).more hD.size
    have hrD := (Hf.out.2.1.next hB1).next hD
    have HC0 := Lib.hid (two_two hP1 hF1)
    have Hput := Lib.hid (put_any a1 n1 c1 fs p t w1.drew hfD hn1)
    rw [Hgs.out] at Hput
    clear hE0 hP0 hF0 hB0 hB1 B1
    go_wp2_with fail
    go_region_held3 (fun w' => w'.cell? ⟨w.heap.size, 0, none⟩ = some (.slice a1 n1 c1) ∧ w'.cell? ⟨w.heap.size, 1, none⟩ = some (.slice a2 n2 c2) ∧ w'.cell? ⟨w.heap.size + 1, 0, none⟩ = some (.string p) ∧ w'.cell? ⟨w.heap.size + 1, 1, none⟩ = some (.string t)) (first | exact HC0.out | exact HC1.out | exact HC2.out | exact two_two ((hP4.other (by omega) 0 _).other (by omega) 1 _) ((hF4.other (by omega) 0 _).other (by omega) 1 _))
      ((first
        | (go_at_call 36; refine Hput.out.mono ?_; rintro e w3 ⟨v3, rfl, hown3, hB3⟩; have hnil3 := fun a n c (e : v3 = .slice a n c) => ownsF_nil (e ▸ hown3); obtain ⟨av, cv, rfl, hf3⟩ := hown3.form; have hP3 := hP1.next hB3; have hF3 := hF1.next hB3; have hE3 := hE1.next hB3; have HC1 := Lib.hid (two_two hP3 hF3); have B3 := BD.trans (hB3.mono BD.size); have hr3 := hrD.next hB3)
        | (go_at_call 35; refine (l3Checked_of hR av a2 _ n2 cv c2 gs rs w3 hf3 (hnil3 _ _ _ rfl) (by omega) hr3 Hfp.out Hf.out.2.2.2 hN.z).mono ?_; rw [Hr.out]; rintro e w4 ⟨a4, c4, a5, c5, rfl, hf4, hr4, hB4⟩; have hP4 := hP3.next hB4; have hF4 := hF3.next hB4; have hE4 := hE3.next hB4; have HC2 := Lib.hid (two_two hP4 hF4); have B4 := B3.trans (hB4.mono B3.size); obtain ⟨z0, z1, zf0, zf1, zl⟩ := hE4.facts)))
    all_goals
      have HF := Lib.hid (edS_store (g := w.heap.size + 1 + 1) c5 hf4 hr4 B4 B3.size (blk_lt hE3) (by omega) (.slice a4 r.1.length c4) (.slice a5 r.2.1.length c5))
      have hE6 := Lib.hid ((hE4.set0 (.slice a4 r.1.length c4)).set1 (.slice a5 r.2.1.length c5))
      clear hf4 hr4 hown3 hf3 hr3 z0 z1 zf0 zf1 zl
      obtain ⟨z0, z1, zf0, zf1, zl⟩ := hE6.out.facts
      go_wp2_with fail
      refine bodyPost_ret (v := .tuple #[.agg #[.slice a4 r.1.length c4, .slice a5 r.2.1.length c5], .bool r.2.2]) (by simp [results, Tryz.results10, go_sem, *]) rfl ?_
      rw [← HQ.out, setSrcR_chk Hp.out, Hgs.out, Hr.out]
      exact HF.out

set_option maxRecDepth 100000 in
set_option maxHeartbeats 4000000 in
theorem delSrcS_z (hR : RulesC) (a1 a2 : Option Addr) (n1 n2 c1 c2 : Nat) (fs : List Fl) (rs : List Ru) (x : ByteArray) (w : World) (hf : FilesAt w w.heap.size a1 n1 fs) (hn1 : n1 ≤ 1048576) (hr : RuAt w 0 w.heap.size rs a2 n2) (hs : Fits fs) (hrf : RuFits rs) (hN : RuZ6 rs) (hx : x.size ≤ maxLen) :
    Calls Tryz.prog 16 #[.agg #[.slice a1 n1 c1, .slice a2 n2 c2], .string x] w (EdS (delSrcR x fs rs) w) := by
  have hB0 := ((Below.refl w.heap.size w).alloc (Nat.le_refl _) (.cells #[.slice a1 n1 c1, .slice a2 n2 c2] 26)).alloc (by simp) (.cells #[.slice none 0 0, .slice none 0 0] 26)
  have hP0 := (BxP.new w (.slice a1 n1 c1) (.slice a2 n2 c2) 26).alloc (.cells #[.slice none 0 0, .slice none 0 0] 26)
  have hE0 := BxP.new (w.alloc (.cells #[.slice a1 n1 c1, .slice a2 n2 c2] 26)) (.slice none 0 0) (.slice none 0 0) 26
  simp only [World.size_alloc] at hE0
  have hf0 := (hf.below hB0).more hB0.size
  have hr0 := hr.next hB0
  have hl1 := hf.1
  have hl2 := hr.1
  have hN1 := hN.1
  have hm1 : n1 ≤ maxLen := by unfold maxLen; omega
  have hm2 : n2 ≤ maxLen := by unfold maxLen; omega
  have Hf := Lib.hid (And.intro hf0 (And.intro hr0 (And.intro hs hrf)))
  obtain ⟨Q, hQ⟩ : ∃ Q, EdS (delSrcR x fs rs) w = Q := ⟨_, rfl⟩
  have HQ := Lib.hid hQ
  rw [hQ]
  obtain ⟨⟨gs, b⟩, hput⟩ : ∃ r, delR x fs = r := ⟨_, rfl⟩
  have Hdel := Lib.hid ((delS_any a1 n1 c1 fs x _ hf0 hs hn1).mono fun e w' h => h.openO hput)
  have hfit := delR_fit hs (by omega) hput
  have Hput := Lib.hid hput
  clear hQ hf hr hs hrf hf0 hr0
  go_enter Tryz.func16, Tryz.ntmps16
  clear hput
  go_wp2_with fail
  refine Hdel.out.mono ?_
  rintro e w1 ⟨av, cv, rfl, hown, hB1⟩
  have hnil := ownsF_nil hown
  obtain ⟨av', cv', e1, hf1⟩ := hown.form
  injection e1 with e1 _ e3
  subst e1 e3
  have B1 := hB0.trans (hB1.mono hB0.size)
  have hE1 := hE0.next hB1
  have hP1 := hP0.next hB1
  have Hown := Lib.hid (And.intro hf1 hnil)
  clear hown hf1 hnil Hdel hB0 hE0 hP0
  cases b with
  | false =>
    have hE4 := Lib.hid ((hE1.set0 (.slice none 0 0)).set1 (.slice none 0 0))
    have BF := Lib.hid (((B1.setCell (p := ⟨w.heap.size + 1, 0, none⟩) (Nat.le_succ _) (.slice none 0 0)).setCell (p := ⟨w.heap.size + 1, 1, none⟩) (Nat.le_succ _) (.slice none 0 0)))
    obtain ⟨z0, z1, zf0, zf1, zl⟩ := hE1.facts
    go_wp2_with fail
    clear z0 z1 zf0 zf1 zl
    obtain ⟨z0, z1, zf0, zf1, zl⟩ := hE4.out.facts
    refine bodyPost_ret (v := .tuple #[.agg #[.slice none 0 0, .slice none 0 0], .bool false]) (by simp [results, Tryz.results16, go_sem, *]) rfl ?_
    rw [← HQ.out, delSrcR_no Hput.out]
    exact edS_none BF.out
  | true =>
    have Hc := Lib.hid (projS_z hR a1 a2 n1 n2 c1 c2 fs rs w1 ((Hf.out.1.below hB1).more hB1.size) (Hf.out.2.1.next hB1) Hf.out.2.2.1 Hf.out.2.2.2 hm1 hm2 hN.z)
    obtain ⟨p0, p1, pf0, pf1, hpl⟩ := hP1.facts
    have hr1 := Lib.hid (Hf.out.2.1.next hB1)
    cases hp : projB fs rs with
    | false =>
      rw [hp] at Hc
      have Hp := Lib.hid hp
      clear hp
      go_wp2_with fail
      refine Hc.out.mono ?_
      rintro e w2 ⟨rfl, hB2⟩
      have B2 := B1.trans (hB2.mono B1.size)
      have hE2 := hE1.next hB2
      have hE4 := Lib.hid ((hE2.set0 (.slice none 0 0)).set1 (.slice none 0 0))
      have BF := Lib.hid (((B2.setCell (p := ⟨w.heap.size + 1, 0, none⟩) (Nat.le_succ _) (.slice none 0 0)).setCell (p := ⟨w.heap.size + 1, 1, none⟩) (Nat.le_succ _) (.slice none 0 0)))
      clear p0 p1 pf0 pf1 hpl
      obtain ⟨z0, z1, zf0, zf1, zl⟩ := hE2.facts
      go_wp2_with fail
      clear z0 z1 zf0 zf1 zl
      obtain ⟨z0, z1, zf0, zf1, zl⟩ := hE4.out.facts
      refine bodyPost_ret (v := .tuple #[.agg #[.slice none 0 0, .slice none 0 0], .bool false]) (by simp [results, Tryz.results16, go_sem, *]) rfl ?_
      rw [← HQ.out, delSrcR_bad Hp.out]
      exact edS_none BF.out
    | true =>
      rw [hp] at Hc
      have Hp := Lib.hid hp
      clear hp
      obtain ⟨r, hr⟩ : ∃ r, chkR gs rs = r := ⟨_, rfl⟩
      have Hr := Lib.hid hr
      clear hr
      go_wp2_with fail
      refine Hc.out.mono ?_
      rintro e w2 ⟨rfl, hB2⟩
      have B2 := B1.trans (hB2.mono B1.size)
      have hE2 := hE1.next hB2
      have hP2 := hP1.next hB2
      have Hc2 := Lib.hid (l3Checked_of hR av a2 _ n2 cv c2 gs rs w2 ((Hown.out.1.below hB2).more hB2.size) Hown.out.2 (by omega) (hr1.out.next hB2) hfit.1 Hf.out.2.2.2 hN.z)
      rw [Hr.out] at Hc2
      clear p0 p1 pf0 pf1 hpl
      obtain ⟨p0, p1, pf0, pf1, hpl⟩ := hP2.facts
      go_wp2_with fail
      refine Hc2.out.mono ?_
      rintro e w4 ⟨a4, c4, a5, c5, rfl, hf4, hr4, hB4⟩
      have hE4 := hE2.next hB4
      have B4 := B2.trans (hB4.mono B2.size)
      have HF := Lib.hid (edS_store (g := w.heap.size + 1) c5 hf4 hr4 B4 B2.size (blk_lt hE2) (by omega) (.slice a4 r.1.length c4) (.slice a5 r.2.1.length c5))
      have hE6 := Lib.hid ((hE4.set0 (.slice a4 r.1.length c4)).set1 (.slice a5 r.2.1.length c5))
      clear hf4 hr4 p0 p1 pf0 pf1 hpl
      obtain ⟨z0, z1, zf0, zf1, zl⟩ := hE4.facts
      go_wp2_with fail
      clear z0 z1 zf0 zf1 zl
      obtain ⟨z0, z1, zf0, zf1, zl⟩ := hE6.out.facts
      refine bodyPost_ret (v := .tuple #[.agg #[.slice a4 r.1.length c4, .slice a5 r.2.1.length c5], .bool r.2.2]) (by simp [results, Tryz.results16, go_sem, *]) rfl ?_
      rw [← HQ.out, delSrcR_yes Hp.out Hput.out, Hr.out]
      exact HF.out
end Go.Proofs.YtceiafncpimihaaGreat
