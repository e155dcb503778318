/-
  SetRule, of the program and of the reference.
-/
import Derived.Test.YtceiafncpimihaaGreatQEdY
import Derived.Test.YtceiafncpimihaaGreatQEdX
import Derived.Test.YtceiafncpimihaaGreatQLwS
namespace Go.Proofs.YtceiafncpimihaaGreat
set_option linter.unusedVariables false
set_option linter.unusedSimpArgs false
open Go.RowKit Go.Maps

/-- what SetRule answers -/
def setRuleR (r : Ru) (fs : List Fl) (rs : List Ru) : List Fl × List Ru × Bool := if projB fs rs = true ∧ projB fs (putRu r rs) = true then (fs, putRu r rs, true) else ([], [], false)
theorem setRuleR_bad {r : Ru} {fs : List Fl} {rs : List Ru} (h : projB fs rs = false) : setRuleR r fs rs = ([], [], false) := if_neg (fun h2 => by rw [h] at h2; cases h2.1)
theorem setRuleR_chk {r : Ru} {fs : List Fl} {rs : List Ru} (h : projB fs rs = true) : setRuleR r fs rs = chkR fs (putRu r rs) := by
  unfold setRuleR chkR
  by_cases h3 : projB fs (putRu r rs) = true
  · rw [if_pos ⟨h, h3⟩, if_pos h3]
  · rw [if_neg (fun h => h3 h.2), if_neg h3]
/-- a rule that can be read -/
def RuFit (x : Ru) : Prop := x.1.size ≤ maxLen ∧ x.2.2.1.size ≤ maxLen ∧ x.2.2.2.len ≤ maxLen ∧ x.2.2.2.Fits
theorem putRu_fit {r : Ru} {rs : List Ru} (h : RuFits rs) (hr : RuFit r) : RuFits (putRu r rs) := fun y hy => by
  rcases mem_putRu.1 hy with rfl | hy
  · exact hr
  · exact h y hy.1
theorem setr_res {r : Ru} {fs fs' : List Fl} {rs rs' : List Ru} {b : Bool} (h : setRuleR r fs rs = (fs', rs', b)) (hrf : RuFits rs) (hr : RuFit r) (hz : rs.length + ruTot rs + ruSz r ≤ 1048576) (hl : fs.length ≤ 1048576) : RuFits rs' ∧ fs'.length ≤ 1048576 ∧ rs'.length + ruTot rs' ≤ 1048577 := by
  unfold setRuleR at h
  split at h
  · cases h
    exact ⟨putRu_fit hrf hr, hl, by have := (putRu_tot r rs).2; omega⟩
  · cases h
    exact ⟨(fun y hy => by cases hy), by simp, by simp [ruTot]⟩
theorem setRuleR_of {r : Ru} {fs : List Fl} {rs : List Ru} {w w' : World} {e : Ending} (hp : projB fs rs = true) (h : (if true = true ∧ projB fs (putRu r rs) = true then EdP fs (putRu r rs) true w else EdP [] [] false w) e w') : EdR (setRuleR r fs rs) w e w' := by
  unfold EdR setRuleR
  by_cases h2 : projB fs (putRu r rs) = true
  · rw [if_pos ⟨hp, h2⟩]; rwa [if_pos ⟨rfl, h2⟩] at h
  · rw [if_neg (fun h => h2 h.2)]; rwa [if_neg (fun h => h2 h.2)] at h

set_option maxRecDepth 100000 in
set_option maxHeartbeats 4000000 in
theorem setRuleI_z (a1 a2 : Option Addr) (n1 n2 c1 c2 : Nat) (fs : List Fl) (rs : List Ru) (t : ByteArray) (k : Int) (s : ByteArray) (ks : Fo) (a : Option Addr) (c : Nat) (w : World) (hf : FilesAt w w.heap.size a1 n1 fs) (hr : RuAt w 0 w.heap.size rs a2 n2) (hka : KA w 0 w.heap.size ks a ks.len) (hcc : ks.len ≤ c) (hs : Fits fs) (hrf : RuFits rs) (hru : RuFit (t, k, s, ks)) (hn1 : n1 ≤ 1048576) (hn2 : n2 ≤ maxLen) (hnc : n2 ≤ c2) (hN : RuZ6 rs) (hkz : ks.size ≤ 1048576) :
    Calls Tryz.prog 18 #[.agg #[.slice a1 n1 c1, .slice a2 n2 c2], .agg #[.string t, .int .i64 k, .string s, .slice a ks.len c]] w (EdR (setRuleR (t, k, s, ks) fs rs) w) := by
  obtain ⟨W, hW⟩ : ∃ W, W = (((w.alloc (.cells #[.slice a1 n1 c1, .slice a2 n2 c2] 26)).alloc (.cells #[.string t, .int .i64 k, .string s, .slice a ks.len c] 45)).alloc (.cells #[.slice none 0 0, .slice none 0 0] 26)) := ⟨_, rfl⟩
  have hB0 : Below w.heap.size w W := by rw [hW]; exact (((Below.refl w.heap.size w).alloc (Nat.le_refl _) _).alloc (by simp) _).alloc (by simp; omega) _
  have hsz : W.heap.size = w.heap.size + 3 := by rw [hW]; simp
  have hE0 : BxP W (w.heap.size + 2) (.slice none 0 0) (.slice none 0 0) 26 := by
    have := BxP.new ((w.alloc (.cells #[.slice a1 n1 c1, .slice a2 n2 c2] 26)).alloc (.cells #[.string t, .int .i64 k, .string s, .slice a ks.len c] 45)) (.slice none 0 0) (.slice none 0 0) 26
    rw [hW]; simpa using this
  have hP0 : BxP W w.heap.size (.slice a1 n1 c1) (.slice a2 n2 c2) 26 := by
    rw [hW]; exact ((BxP.new w _ _ _).alloc _).alloc _
  have hC0 : BxR W (w.heap.size + 1) t k s (.slice a ks.len c) 45 := by
    have h0 := (BxR.new (w.alloc (.cells #[.slice a1 n1 c1, .slice a2 n2 c2] 26)) t k s (.slice a ks.len c) 45).alloc (.cells #[.slice none 0 0, .slice none 0 0] 26)
    rw [hW]; simpa using h0
  have hl1 := hf.1
  have hl2 := hr.1
  have hfW := (hf.below hB0).more hB0.size
  have hrW := hr.next hB0
  have hkW := hka.next hB0
  have Hedit := Lib.hid (show Calls Tryz.prog 31 #[.agg #[.slice a1 n1 c1, .slice a2 n2 c2], .func (.func 48) #[] #[.pointer (some ⟨w.heap.size + 1, 0, none⟩)]] W (EdR (setRuleR (t, k, s, ks) fs rs) W) from by
    cases hp : projB fs rs with
    | false =>
      refine (edit_bad 48 (w.heap.size + 1) _ rfl a1 a2 n1 n2 c1 c2 fs rs W hfW hrW hs hrf (by unfold maxLen; omega) hn2 hp).mono fun e w' h => ?_
      rw [setRuleR_bad hp]
      exact h
    | true =>
      have hl10 := (proj_sizes hp).2.1
      refine (edit_of 48 (w.heap.size + 1) _ rfl a1 a2 n1 n2 c1 c2 fs rs W hfW hrW hs hrf (by unfold maxLen; omega) hn2 hp fs (putRu (t, k, s, ks) rs) true (fun V hV hVb => ?_) cf_setRule hs (putRu_fit hrf hru) (by omega) (hN.put hkz)).mono fun e w' h => setRuleR_of hp h
      exact setRule1_any W.heap.size (w.heap.size + 1) a1 a2 n1 n2 c1 c2 fs rs t k s ks a c V hVb (BxR.next hC0 hV) (hfW.below hV) (hrW.below hV) (hkW.below hV) hcc hrf (proj_asc hp) (by omega) hru.1)
  clear hfW hrW hf hr hs hrf hkW hka hru
  obtain ⟨p0, p1, pf0, pf1, hpl⟩ := hP0.facts
  go_enter Tryz.func18, Tryz.ntmps18
  go_wp2_with fail
  rw [← hW]
  refine Hedit.out.mono ?_
  rintro e w1 ⟨av, cv, a4, c4, bs4, g4, rfl, ho4, hd4, hq4, hB4⟩
  have hE4 := hE0.next hB4
  have HF := Lib.hid (edP_set (e := .outgrown) (b := (setRuleR (t, k, s, ks) fs rs).2.2) (n0 := w.heap.size) (i := w.heap.size + 2) (by omega) (by omega) (hB4.mono hB0.size) (.slice av (setRuleR (t, k, s, ks) fs rs).1.length cv) (.slice a4 (setRuleR (t, k, s, ks) fs rs).2.1.length c4) av cv a4 c4 bs4 g4 ho4 hd4 hq4 w rfl hB0)
  have hE6 := Lib.hid ((hE4.set0 (.slice av (setRuleR (t, k, s, ks) fs rs).1.length cv)).set1 (.slice a4 (setRuleR (t, k, s, ks) fs rs).2.1.length c4))
  clear ho4 hd4 hq4 p0 p1 pf0 pf1 hpl hC0
  obtain ⟨z0, z1, zf0, zf1, zl⟩ := hE4.facts
  go_wp2_with fail
  clear z0 z1 zf0 zf1 zl
  obtain ⟨z0, z1, zf0, zf1, zl⟩ := hE6.out.facts
  refine bodyPost_ret (v := .tuple #[.agg #[.slice av (setRuleR (t, k, s, ks) fs rs).1.length cv, .slice a4 (setRuleR (t, k, s, ks) fs rs).2.1.length c4], .bool (setRuleR (t, k, s, ks) fs rs).2.2]) (by simp [results, Tryz.results18, go_sem, *]) rfl ?_
  exact HF.out

theorem sixR {V : World} {g : Nat} {v1 v2 v3 : Value} {t s : ByteArray} {k : Int} {T T' : TypeId} (h : BxP V g v1 v2 T) (h' : BxR V (g + 1) t k s v3 T') : V.cell? ⟨g, 0, none⟩ = some v1 ∧ V.cell? ⟨g, 1, none⟩ = some v2 ∧ V.cell? ⟨g + 1, 0, none⟩ = some (.string t) ∧ V.cell? ⟨g + 1, 1, none⟩ = some (.int .i64 k) ∧ V.cell? ⟨g + 1, 2, none⟩ = some (.string s) ∧ V.cell? ⟨g + 1, 3, none⟩ = some v3 := by
  obtain ⟨p0, p1, _⟩ := h.facts
  obtain ⟨q0, q1, q2, q3, _⟩ := h'.facts
  exact ⟨p0, p1, q0, q1, q2, q3⟩

set_option maxRecDepth 100000 in
set_option maxHeartbeats 4000000 in
theorem setRuleS_z (hR : RulesC) (a1 a2 : Option Addr) (n1 n2 c1 c2 : Nat) (fs : List Fl) (rs : List Ru) (t : ByteArray) (k : Int) (s : ByteArray) (ks : Fo) (a : Option Addr) (c : Nat) (w : World) (hf : FilesAt w w.heap.size a1 n1 fs) (hnil : a1 = none → n1 = 0 ∧ c1 = 0) (hn1 : n1 ≤ 1048576) (hr : RuAt w 0 w.heap.size rs a2 n2) (hka : KA w 0 w.heap.size ks a ks.len) (hcc : ks.len ≤ c) (hs : Fits fs) (hrf : RuFits rs) (hru : RuFit (t, k, s, ks)) (hN : RuZ6 rs) (hkz : ks.size ≤ 1048576) :
    Calls Tryz.prog 19 #[.agg #[.slice a1 n1 c1, .slice a2 n2 c2], .agg #[.string t, .int .i64 k, .string s, .slice a ks.len c]] w (EdS (setRuleR (t, k, s, ks) fs rs) w) := by
  have hB0 := (((Below.refl w.heap.size w).alloc (Nat.le_refl _) (.cells #[.slice a1 n1 c1, .slice a2 n2 c2] 26)).alloc (by simp) (.cells #[.string t, .int .i64 k, .string s, .slice a ks.len c] 45)).alloc (by simp; omega) (.cells #[.slice none 0 0, .slice none 0 0] 26)
  have hP0 := ((BxP.new w (.slice a1 n1 c1) (.slice a2 n2 c2) 26).alloc (.cells #[.string t, .int .i64 k, .string s, .slice a ks.len c] 45)).alloc (.cells #[.slice none 0 0, .slice none 0 0] 26)
  have hC0 := (BxR.new (w.alloc (.cells #[.slice a1 n1 c1, .slice a2 n2 c2] 26)) t k s (.slice a ks.len c) 45).alloc (.cells #[.slice none 0 0, .slice none 0 0] 26)
  have hE0 := BxP.new ((w.alloc (.cells #[.slice a1 n1 c1, .slice a2 n2 c2] 26)).alloc (.cells #[.string t, .int .i64 k, .string s, .slice a ks.len c] 45)) (.slice none 0 0) (.slice none 0 0) 26
  simp only [World.size_alloc] at hE0 hC0
  have hf0 := (hf.below hB0).more hB0.size
  have hr0 := hr.next hB0
  have hk0 := hka.next hB0
  have hl1 := hf.1
  have hl2 := hr.1
  have hN1 := hN.1
  have hm1 : n1 ≤ maxLen := by unfold maxLen; omega
  have hm2 : n2 ≤ maxLen := by unfold maxLen; omega
  have hdl : (delRu t rs).length ≤ n2 := by have := List.length_filter_le (fun x : Ru => decide (x.1 ≠ t)) rs; unfold delRu; omega
  have Hf := Lib.hid (And.intro hf0 (And.intro hr0 (And.intro hs (And.intro hrf (And.intro hk0 hru)))))
  obtain ⟨Q, hQ⟩ : ∃ Q, EdS (setRuleR (t, k, s, ks) fs rs) w = Q := ⟨_, rfl⟩
  have HQ := Lib.hid hQ
  rw [hQ]
  have Hc := Lib.hid (projS_z hR a1 a2 n1 n2 c1 c2 fs rs _ hf0 hr0 hs hrf hm1 hm2 hN.z)
  clear hQ hf hr hs hrf hf0 hr0 hka hk0 hru
  obtain ⟨p0, p1, pf0, pf1, hpl⟩ := hP0.facts
  go_enter Tryz.func19, Tryz.ntmps19
  cases hp : projB fs rs with
  | false =>
    rw [hp] at Hc
    have Hp := Lib.hid hp
    clear hp
    go_wp2_with fail
    refine Hc.out.mono ?_
    rintro e w2 ⟨rfl, hB2⟩
    have B2 := hB0.trans (hB2.mono hB0.size)
    have hE2 := hE0.next hB2
    have hE4 := Lib.hid ((hE2.set0 (.slice none 0 0)).set1 (.slice none 0 0))
    have BF := Lib.hid (((B2.setCell (p := ⟨w.heap.size + 1 + 1, 0, none⟩) (show w.heap.size ≤ w.heap.size + 1 + 1 by omega) (.slice none 0 0)).setCell (p := ⟨w.heap.size + 1 + 1, 1, none⟩) (show w.heap.size ≤ w.heap.size + 1 + 1 by omega) (.slice none 0 0)))
    clear p0 p1 pf0 pf1 hpl
    obtain ⟨z0, z1, zf0, zf1, zl⟩ := hE2.facts
    go_wp2_with fail
    clear z0 z1 zf0 zf1 zl
    obtain ⟨z0, z1, zf0, zf1, zl⟩ := hE4.out.facts
    refine bodyPost_ret (v := .tuple #[.agg #[.slice none 0 0, .slice none 0 0], .bool false]) (by simp [results, Tryz.results19, go_sem, *]) rfl ?_
    rw [← HQ.out, setRuleR_bad Hp.out]
    exact edS_none BF.out
  | true =>
    rw [hp] at Hc
    have Hp := Lib.hid hp
    clear hp
    obtain ⟨r, hr⟩ : ∃ r, chkR fs (putRu (t, k, s, ks) rs) = r := ⟨_, rfl⟩
    have Hr := Lib.hid hr
    clear hr
    go_wp2_with fail
    refine Hc.out.mono ?_
    rintro e w2 ⟨rfl, hB2⟩
    have hD := (Below.refl w2.heap.size w2).drew
    have hB2D := hB2.trans (hD.mono hB2.size)
    have BD := hB0.trans (hB2D.mono hB0.size)
    have hED := hE0.next hB2D
    have hPD := hP0.next hB2D
    have hCD := BxR.next hC0 hB2D
    have hfD := (Hf.out.1.below hB2D).more hB2D.size
    have hrD := Hf.out.2.1.next hB2D
    have hkD := Hf.out.2.2.2.2.1.next hB2D
    have HC0 := Lib.hid (sixR hPD hCD)
    clear p0 p1 pf0 pf1 hpl hB2 hD hB2D hE0 hP0 hC0
    go_wp2_with fail
    go_region_held3 (fun w' => w'.cell? ⟨w.heap.size, 0, none⟩ = some (.slice a1 n1 c1) ∧ w'.cell? ⟨w.heap.size, 1, none⟩ = some (.slice a2 n2 c2) ∧ w'.cell? ⟨w.heap.size + 1, 0, none⟩ = some (.string t) ∧ w'.cell? ⟨w.heap.size + 1, 1, none⟩ = some (.int .i64 k) ∧ w'.cell? ⟨w.heap.size + 1, 2, none⟩ = some (.string s) ∧ w'.cell? ⟨w.heap.size + 1, 3, none⟩ = some (.slice a ks.len c)) (first | exact HC0.out | exact HC1.out | exact HC2.out | exact HC3.out | exact sixR ((hP5.other (by omega) 0 _).other (by omega) 1 _) ((hC5.other (by omega) 0 _).other (by omega) 1 _))
      ((first
        | (go_at_call 52; refine (l3Without_any a2 n2 c2 rs t w2.drew hrD (by omega)).mono ?_; rintro e w3 ⟨v3, rfl, hown3, hB3⟩; obtain ⟨av, cv, rfl, hcv, hr3⟩ := hown3.form; have hP3 := hPD.next hB3; have hE3 := hED.next hB3; have hC3 := BxR.next hCD hB3; have HC1 := Lib.hid (sixR hP3 hC3); have B3 := BD.trans (hB3.mono BD.size); have hf3 := (hfD.below hB3).more hB3.size; have hk3 := hkD.next hB3)
        | (go_at_call 51; refine (l3With_any av a _ cv c (delRu t rs) t k s ks w3 hr3 (by omega) hk3 hcc).mono ?_; rintro e w4 ⟨v4, rfl, hown4, hB4⟩; obtain ⟨ax, cx, rfl, hcx, hr4⟩ := hown4.form; have hP4 := hP3.next hB4; have hE4 := hE3.next hB4; have hC4 := BxR.next hC3 hB4; have HC2 := Lib.hid (sixR hP4 hC4); have B4 := B3.trans (hB4.mono B3.size); have hf4 := (hf3.below hB4).more hB4.size)
        | (go_at_call 35; refine (l3Checked_of hR a1 ax n1 _ c1 cx fs (putRu (t, k, s, ks) rs) w4 hf4 hnil hn1 hr4 Hf.out.2.2.1 (putRu_fit Hf.out.2.2.2.1 Hf.out.2.2.2.2.2) (hN.put hkz)).mono ?_; rw [Hr.out]; rintro e w5 ⟨a5, c5, a6, c6, rfl, hf5, hr5, hB5⟩; have hP5 := hP4.next hB5; have hE5 := hE4.next hB5; have hC5 := BxR.next hC4 hB5; have HC3 := Lib.hid (sixR hP5 hC5); have B5 := B4.trans (hB5.mono B4.size); obtain ⟨z0, z1, zf0, zf1, zl⟩ := hE5.facts)))
    all_goals
      have HF := Lib.hid (edS_store (g := w.heap.size + 1 + 1) c6 hf5 hr5 B5 B4.size (blk_lt hE4) (by omega) (.slice a5 r.1.length c5) (.slice a6 r.2.1.length c6))
      have hE6 := Lib.hid ((hE5.set0 (.slice a5 r.1.length c5)).set1 (.slice a6 r.2.1.length c6))
      clear hf5 hr5 hown3 hown4 hf3 hr3 hf4 hr4 z0 z1 zf0 zf1 zl
      obtain ⟨z0, z1, zf0, zf1, zl⟩ := hE6.out.facts
      go_wp2_with fail
      refine bodyPost_ret (v := .tuple #[.agg #[.slice a5 r.1.length c5, .slice a6 r.2.1.length c6], .bool r.2.2]) (by simp [results, Tryz.results19, go_sem, *]) rfl ?_
      rw [← HQ.out, setRuleR_chk Hp.out, Hr.out]
      exact HF.out
end Go.Proofs.YtceiafncpimihaaGreat
