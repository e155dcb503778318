/-
  RemoveRule, of the program and of the reference.
-/
import Derived.Test.YtceiafncpimihaaGreatGone
import Derived.Test.YtceiafncpimihaaGreatQEdV
import Derived.Test.YtceiafncpimihaaGreatQEdU
import Derived.Test.YtceiafncpimihaaGreatQFrS
namespace Go.Proofs.YtceiafncpimihaaGreat
set_option linter.unusedVariables false
set_option linter.unusedSimpArgs false
open Go.RowKit

/-- what RemoveRule answers -/
def delRuleR (x : ByteArray) (fs : List Fl) (rs : List Ru) : List Fl × List Ru × Bool := if projB fs rs = true ∧ (findB rs x).isSome = true ∧ projB fs (delRu x rs) = true then (fs, delRu x rs, true) else ([], [], false)
theorem delRuleR_bad {x : ByteArray} {fs : List Fl} {rs : List Ru} (h : projB fs rs = false) : delRuleR x fs rs = ([], [], false) := if_neg (fun h2 => by rw [h] at h2; cases h2.1)
theorem delRuleR_not {x : ByteArray} {fs : List Fl} {rs : List Ru} (h : (findB rs x).isSome = false) : delRuleR x fs rs = ([], [], false) := if_neg (fun h2 => by rw [h] at h2; cases h2.2.1)
theorem delRuleR_chk {x : ByteArray} {fs : List Fl} {rs : List Ru} (h : projB fs rs = true) (h2 : (findB rs x).isSome = true) : delRuleR x fs rs = chkR fs (delRu x rs) := by
  unfold delRuleR chkR
  by_cases h3 : projB fs (delRu x rs) = true
  · rw [if_pos ⟨h, h2, h3⟩, if_pos h3]
  · rw [if_neg (fun h => h3 h.2.2), if_neg h3]
theorem delr_res {x : ByteArray} {fs fs' : List Fl} {rs rs' : List Ru} {b : Bool} (h : delRuleR x fs rs = (fs', rs', b)) (hrf : RuFits rs) (hz : rs.length + ruTot rs ≤ 1048576) (hl : fs.length ≤ 1048576) : RuFits rs' ∧ fs'.length ≤ 1048576 ∧ rs'.length + ruTot rs' ≤ 1048576 := by
  unfold delRuleR at h
  split at h
  · cases h
    exact ⟨delRu_fit hrf, hl, by have := delRu_tot x rs; omega⟩
  · cases h
    exact ⟨(fun y hy => by cases hy), by simp, by simp [ruTot]⟩
theorem delRuleR_of {x : ByteArray} {fs : List Fl} {rs : List Ru} {w w' : World} {e : Ending} (hp : projB fs rs = true) (h : (if (findB rs x).isSome = true ∧ projB fs (delRu x rs) = true then EdP fs (delRu x rs) true w else EdP [] [] false w) e w') : EdR (delRuleR x fs rs) w e w' := by
  unfold EdR delRuleR
  by_cases h2 : (findB rs x).isSome = true ∧ projB fs (delRu x rs) = true
  · rw [if_pos ⟨hp, h2⟩]; rwa [if_pos h2] at h
  · rw [if_neg (fun h => h2 h.2)]; rwa [if_neg h2] at h

set_option maxRecDepth 100000 in
set_option maxHeartbeats 4000000 in
theorem removeRuleI_z (a1 a2 : Option Addr) (n1 n2 c1 c2 : Nat) (fs : List Fl) (rs : List Ru) (x : ByteArray) (w : World) (hf : FilesAt w w.heap.size a1 n1 fs) (hr : RuAt w 0 w.heap.size rs a2 n2) (hs : Fits fs) (hrf : RuFits rs) (hn1 : n1 ≤ 1048576) (hn2 : n2 ≤ maxLen) (hnc : n2 ≤ c2) (hN : RuZ6 rs) (hx : x.size ≤ maxLen) :
    Calls Tryz.prog 21 #[.agg #[.slice a1 n1 c1, .slice a2 n2 c2], .string x] w (EdR (delRuleR x fs rs) w) := by
  obtain ⟨W, hW⟩ : ∃ W, W = (((w.alloc (.cells #[.slice a1 n1 c1, .slice a2 n2 c2] 26)).alloc (.cells #[.string x] 9)).alloc (.cells #[.slice none 0 0, .slice none 0 0] 26)) := ⟨_, rfl⟩
  have hB0 : Below w.heap.size w W := by rw [hW]; exact (((Below.refl w.heap.size w).alloc (Nat.le_refl _) _).alloc (by simp) _).alloc (by simp; omega) _
  have hsz : W.heap.size = w.heap.size + 3 := by rw [hW]; simp
  have hE0 : BxP W (w.heap.size + 2) (.slice none 0 0) (.slice none 0 0) 26 := by
    have := BxP.new ((w.alloc (.cells #[.slice a1 n1 c1, .slice a2 n2 c2] 26)).alloc (.cells #[.string x] 9)) (.slice none 0 0) (.slice none 0 0) 26
    rw [hW]; simpa using this
  have hP0 : BxP W w.heap.size (.slice a1 n1 c1) (.slice a2 n2 c2) 26 := by
    rw [hW]; exact ((BxP.new w _ _ _).alloc _).alloc _
  have hC0 : W.heap[w.heap.size + 1]? = some (.cells #[.string x] 9 (0, 0)) := by
    have h0 := heap_alloc_new (w.alloc (.cells #[.slice a1 n1 c1, .slice a2 n2 c2] 26)) (.cells #[.string x] 9)
    rw [hW, Below.heap_alloc _ _ _ (by simp)]; simpa using h0
  have hl1 := hf.1
  have hl2 := hr.1
  have hfW := (hf.below hB0).more hB0.size
  have hrW := hr.next hB0
  have Hedit := Lib.hid (show Calls Tryz.prog 31 #[.agg #[.slice a1 n1 c1, .slice a2 n2 c2], .func (.func 54) #[] #[.pointer (some ⟨w.heap.size + 1, 0, none⟩)]] W (EdR (delRuleR x fs rs) W) from by
    cases hp : projB fs rs with
    | false =>
      refine (edit_bad 54 (w.heap.size + 1) _ rfl a1 a2 n1 n2 c1 c2 fs rs W hfW hrW hs hrf (by unfold maxLen; omega) hn2 hp).mono fun e w' h => ?_
      rw [delRuleR_bad hp]
      exact h
    | true =>
      have hl10 := (proj_sizes hp).2.1
      have htot := delRu_tot x rs
      refine (edit_of 54 (w.heap.size + 1) _ rfl a1 a2 n1 n2 c1 c2 fs rs W hfW hrW hs hrf (by unfold maxLen; omega) hn2 hp fs (delRu x rs) (findB rs x).isSome (fun V hV hVb => ?_) cf_delRule hs (delRu_fit hrf) (by omega) (hN.del x).z).mono fun e w' h => delRuleR_of hp h
      exact delRule1_any W.heap.size (w.heap.size + 1) a1 a2 n1 n2 c1 c2 fs rs x V hVb ((hV.block (w.heap.size + 1) (by omega)).trans hC0) (hfW.below hV) (hrW.below hV) hrf (proj_asc hp) (by omega) hx)
  clear hfW hrW hf hr hs hrf
  obtain ⟨p0, p1, pf0, pf1, hpl⟩ := hP0.facts
  go_enter Tryz.func21, Tryz.ntmps21
  go_wp2_with fail
  rw [← hW]
  refine Hedit.out.mono ?_
  rintro e w1 ⟨av, cv, a4, c4, bs4, g4, rfl, ho4, hd4, hq4, hB4⟩
  have hE4 := hE0.next hB4
  have HF := Lib.hid (edP_set (e := .outgrown) (b := (delRuleR x fs rs).2.2) (n0 := w.heap.size) (i := w.heap.size + 2) (by omega) (by omega) (hB4.mono hB0.size) (.slice av (delRuleR x fs rs).1.length cv) (.slice a4 (delRuleR x fs rs).2.1.length c4) av cv a4 c4 bs4 g4 ho4 hd4 hq4 w rfl hB0)
  have hE6 := Lib.hid ((hE4.set0 (.slice av (delRuleR x fs rs).1.length cv)).set1 (.slice a4 (delRuleR x fs rs).2.1.length c4))
  clear ho4 hd4 hq4 p0 p1 pf0 pf1 hpl hC0
  obtain ⟨z0, z1, zf0, zf1, zl⟩ := hE4.facts
  go_wp2_with fail
  clear z0 z1 zf0 zf1 zl
  obtain ⟨z0, z1, zf0, zf1, zl⟩ := hE6.out.facts
  refine bodyPost_ret (v := .tuple #[.agg #[.slice av (delRuleR x fs rs).1.length cv, .slice a4 (delRuleR x fs rs).2.1.length c4], .bool (delRuleR x fs rs).2.2]) (by simp [results, Tryz.results21, go_sem, *]) rfl ?_
  exact HF.out

theorem ownK_made (w : World) : OwnK (w.alloc (.cells #[] 45)) w.heap.size w.heap.size (.slice (some ⟨w.heap.size, 0, none⟩) 0 0) [] := ⟨Nat.le_refl _, by simp, [], World.ownsRow_made w _ _ (Nat.le_refl _) (by simp [maxLen]) rfl, rfl⟩

set_option maxRecDepth 100000 in
set_option maxHeartbeats 2000000 in
theorem l3Without_any (a : Option Addr) (n c : Nat) (rs : List Ru) (x : ByteArray) (w : World) (hr : RuAt w 0 w.heap.size rs a n) (hn : n ≤ 1048576) :
    Calls Tryz.prog 52 #[.slice a n c, .string x] w fun e w' => ∃ v, e = .returned v ∧ OwnK w' w.heap.size w.heap.size v (delRu x rs) ∧ Below w.heap.size w w' := by
  have hlen := Lib.hid hr.1
  go_enter Tryz.func52, Tryz.ntmps52
  go_wp2_with fail
  go_loopw [5, 6] (fun v i wr => ∃ j : Nat, j ≤ n ∧ i = .int .i64 j ∧ OwnK wr w.heap.size w.heap.size v (delRu x (rs.take j)) ∧ Below w.heap.size w wr) (fun _ i _ => n - (intOf i).toNat)
  case atStart => exact ⟨0, Nat.zero_le _, rfl, by simpa [delRu] using ownK_made w, (Below.refl _ _).alloc (Nat.le_refl _) _⟩
  case round =>
    obtain ⟨j, hj, rfl, hown, hB⟩ := hrel
    have Hown := Lib.hid hown
    clear hown
    by_cases hlt : j < n
    · obtain ⟨b, off, t3, k3, s3, ks3, a3, n3, c3, rfl, _, hb3, hg3, hc0, hc1, hc2, hc3, hcap3, hk3⟩ := (hr.below hB).get hlt
      have hjj : (j : Int) < (n : Int) := by omega
      have hj0 : (0 : Int) ≤ (j : Int) := by omega
      have hst := Lib.hid (delRu_take (x := x) hg3)
      have hdl : (delRu x (rs.take j)).length ≤ 1048576 := by have := List.length_filter_le (fun r : Ru => decide (r.1 ≠ x)) (rs.take j); have := List.length_take_le j rs; unfold delRu; omega
      have hbs := hB.size
      obtain rfl := hk3.1
      have Hk3 := Lib.hid hk3
      clear hg3 hk3
      by_cases hpx : t3 = x
      · subst hpx
        have hd : (t3.toList == t3.toList) = true := by simp
        go_wp2_with fail
        exact ⟨⟨j + 1, by omega, by go_num, by rw [hst.out]; simpa using Hown.out, hB⟩, by simp [intOf]; omega⟩
      · have hd : (t3.toList == x.toList) = false := by rw [sEq]; simpa using hpx
        have Hpx := Lib.hid hpx
        clear hpx
        go_wp2_with (at_builtin; refine wpList_append_rk rfl _ _ rfl w.heap.size w.heap.size _ (delRu x (rs.take j)) rfl (Hown.out.below ((Below.refl _ _).alloc (Nat.le_refl _) _)) wr.heap.size 1 rfl t3 k3 s3 ks3 a3 c3 (heap_alloc_new wr _) hcap3 (Hk3.out.alloc (by omega) _) (by omega) ?_; intro g6 cap6 w6 hown6 hgrow6 hlt6 hbg6)
        have hlo := Hown.out.lt
        exact ⟨⟨j + 1, by omega, by go_num, by rw [hst.out, if_neg Hpx.out]; exact hown6, (hB.alloc hbs _).grown hgrow6 (by simp; omega) (fun g' e => (hlo _ e).1)⟩, by simp [intOf]; omega⟩
    · have hall : rs.take j = rs := List.take_of_length_le (by have := hlen.out; omega)
      have hjj : ¬ (j : Int) < (n : Int) := by omega
      rw [hall] at Hown
      clear hall
      go_wp2_with fail
      go_ret
      exact ⟨_, rfl, Hown.out, hB⟩

set_option maxRecDepth 100000 in
set_option maxHeartbeats 4000000 in
theorem delRuleS_z (hR : RulesC) (a1 a2 : Option Addr) (n1 n2 c1 c2 : Nat) (fs : List Fl) (rs : List Ru) (x : ByteArray) (w : World) (hf : FilesAt w w.heap.size a1 n1 fs) (hnil : a1 = none → n1 = 0 ∧ c1 = 0) (hn1 : n1 ≤ 1048576) (hr : RuAt w 0 w.heap.size rs a2 n2) (hs : Fits fs) (hrf : RuFits rs) (hN : RuZ6 rs) (hx : x.size ≤ maxLen) :
    Calls Tryz.prog 24 #[.agg #[.slice a1 n1 c1, .slice a2 n2 c2], .string x] w (EdS (delRuleR x fs rs) w) := by
  have hB0 := ((Below.refl w.heap.size w).alloc (Nat.le_refl _) (.cells #[.slice a1 n1 c1, .slice a2 n2 c2] 26)).alloc (by simp) (.cells #[.slice none 0 0, .slice none 0 0] 26)
  have hP0 := (BxP.new w (.slice a1 n1 c1) (.slice a2 n2 c2) 26).alloc (.cells #[.slice none 0 0, .slice none 0 0] 26)
  have hE0 := BxP.new (w.alloc (.cells #[.slice a1 n1 c1, .slice a2 n2 c2] 26)) (.slice none 0 0) (.slice none 0 0) 26
  simp only [World.size_alloc] at hE0
  have hf0 := (hf.below hB0).more hB0.size
  have hr0 := hr.next hB0
  have hl1 := hf.1
  have hl2 := hr.1
  have hN1 := hN.1
  have hm1 : n1 ≤ maxLen := by unfold maxLen; omega
  have hm2 : n2 ≤ maxLen := by unfold maxLen; omega
  have Hf := Lib.hid (And.intro hf0 (And.intro hr0 (And.intro hs hrf)))
  obtain ⟨Q, hQ⟩ : ∃ Q, EdS (delRuleR x fs rs) w = Q := ⟨_, rfl⟩
  have HQ := Lib.hid hQ
  rw [hQ]
  obtain ⟨⟨k, s, ks, found⟩, hru⟩ : ∃ r, ruleF rs x = r := ⟨_, rfl⟩
  have Hru := Lib.hid (l3Rule_any a1 a2 n1 n2 c1 c2 rs x _ hr0 hm2)
  rw [hru] at Hru
  dsimp only at Hru
  have Hfd := Lib.hid (show (findB rs x).isSome = found from by
    unfold ruleF at hru
    cases hb : findB rs x with
    | none => rw [hb] at hru; simp only [Prod.mk.injEq] at hru; rw [← hru.2.2.2]; rfl
    | some y => obtain ⟨k', s', ks'⟩ := y; rw [hb] at hru; simp only [Prod.mk.injEq] at hru; rw [← hru.2.2.2]; rfl)
  clear hQ hf hr hs hrf hf0 hr0 hru
  go_enter Tryz.func24, Tryz.ntmps24
  go_wp2_with fail
  refine Hru.out.mono ?_
  rintro e w1 ⟨a9, n9, c9, rfl, _, _, hB1⟩
  have hBx := hB1.alloc hB1.size (.cells #[.int .i64 k, .string s, .slice a9 n9 c9] 43)
  have B1 := hB0.trans (hBx.mono hB0.size)
  have hE1 := hE0.next hBx
  have hP1 := hP0.next hBx
  have hf1 := (Hf.out.1.below hBx).more hBx.size
  have hr1 := Hf.out.2.1.next hBx
  clear Hru hB0 hE0 hP0 hBx
  cases found with
  | false =>
    have hE4 := Lib.hid ((hE1.set0 (.slice none 0 0)).set1 (.slice none 0 0))
    have BF := Lib.hid (((B1.setCell (p := ⟨w.heap.size + 1, 0, none⟩) (Nat.le_succ _) (.slice none 0 0)).setCell (p := ⟨w.heap.size + 1, 1, none⟩) (Nat.le_succ _) (.slice none 0 0)))
    obtain ⟨z0, z1, zf0, zf1, zl⟩ := hE1.facts
    go_wp2_with fail
    clear z0 z1 zf0 zf1 zl
    obtain ⟨z0, z1, zf0, zf1, zl⟩ := hE4.out.facts
    refine bodyPost_ret (v := .tuple #[.agg #[.slice none 0 0, .slice none 0 0], .bool false]) (by simp [results, Tryz.results24, go_sem, *]) rfl ?_
    rw [← HQ.out, delRuleR_not Hfd.out]
    exact edS_none BF.out
  | true =>
    have Hc := Lib.hid (projS_z hR a1 a2 n1 n2 c1 c2 fs rs _ hf1 hr1 Hf.out.2.2.1 Hf.out.2.2.2 hm1 hm2 hN.z)
    obtain ⟨p0, p1, pf0, pf1, hpl⟩ := hP1.facts
    have Hr1 := Lib.hid (And.intro hf1 hr1)
    clear hf1 hr1
    cases hp : projB fs rs with
    | false =>
      rw [hp] at Hc
      have Hp := Lib.hid hp
      clear hp
      go_wp2_with fail
      refine Hc.out.mono ?_
      rintro e w2 ⟨rfl, hB2⟩
      have B2 := B1.trans (hB2.mono B1.size)
      have hE2 := hE1.next hB2
      have hE4 := Lib.hid ((hE2.set0 (.slice none 0 0)).set1 (.slice none 0 0))
      have BF := Lib.hid (((B2.setCell (p := ⟨w.heap.size + 1, 0, none⟩) (Nat.le_succ _) (.slice none 0 0)).setCell (p := ⟨w.heap.size + 1, 1, none⟩) (Nat.le_succ _) (.slice none 0 0)))
      clear p0 p1 pf0 pf1 hpl
      obtain ⟨z0, z1, zf0, zf1, zl⟩ := hE2.facts
      go_wp2_with fail
      clear z0 z1 zf0 zf1 zl
      obtain ⟨z0, z1, zf0, zf1, zl⟩ := hE4.out.facts
      refine bodyPost_ret (v := .tuple #[.agg #[.slice none 0 0, .slice none 0 0], .bool false]) (by simp [results, Tryz.results24, go_sem, *]) rfl ?_
      rw [← HQ.out, delRuleR_bad Hp.out]
      exact edS_none BF.out
    | true =>
      rw [hp] at Hc
      have Hp := Lib.hid hp
      clear hp
      obtain ⟨r, hr⟩ : ∃ r, chkR fs (delRu x rs) = r := ⟨_, rfl⟩
      have Hr := Lib.hid hr
      clear hr
      go_wp2_with fail
      refine Hc.out.mono ?_
      rintro e w2 ⟨rfl, hB2⟩
      have hD := (Below.refl w2.heap.size w2).drew
      have hB2D := hB2.trans (hD.mono hB2.size)
      have BD := B1.trans (hB2D.mono B1.size)
      have hED := hE1.next hB2D
      have hPD := hP1.next hB2D
      have hfD := (Hr1.out.1.below hB2D).more hB2D.size
      have hrD := Hr1.out.2.next hB2D
      have HC0 := Lib.hid (bxP_two hPD)
      clear p0 p1 pf0 pf1 hpl hB2 hD hB2D hE1 hP1
      go_wp2_with fail
      go_region_held3 (fun w' => w'.cell? ⟨w.heap.size, 0, none⟩ = some (.slice a1 n1 c1) ∧ w'.cell? ⟨w.heap.size, 1, none⟩ = some (.slice a2 n2 c2)) (first | exact HC0.out | exact HC1.out | exact HC2.out | exact bxP_two ((hP4.other (by omega) 0 _).other (by omega) 1 _))
        ((first
          | (go_at_call 52; refine (l3Without_any a2 n2 c2 rs x w2.drew hrD (by omega)).mono ?_; rintro e w3 ⟨v3, rfl, hown3, hB3⟩; obtain ⟨av, cv, rfl, hcv, hr3⟩ := hown3.form; have hP3 := hPD.next hB3; have hE3 := hED.next hB3; have HC1 := Lib.hid (bxP_two hP3); have B3 := BD.trans (hB3.mono BD.size); have hf3 := (hfD.below hB3).more hB3.size)
          | (go_at_call 35; refine (l3Checked_of hR a1 av n1 _ c1 cv fs (delRu x rs) w3 hf3 hnil hn1 hr3 Hf.out.2.2.1 (delRu_fit Hf.out.2.2.2) (hN.del x).z).mono ?_; rw [Hr.out]; rintro e w4 ⟨a4, c4, a5, c5, rfl, hf4, hr4, hB4⟩; have hP4 := hP3.next hB4; have hE4 := hE3.next hB4; have HC2 := Lib.hid (bxP_two hP4); have B4 := B3.trans (hB4.mono B3.size); obtain ⟨z0, z1, zf0, zf1, zl⟩ := hE4.facts)))
      all_goals
        have HF := Lib.hid (edS_store (g := w.heap.size + 1) c5 hf4 hr4 B4 B3.size (blk_lt hE3) (by omega) (.slice a4 r.1.length c4) (.slice a5 r.2.1.length c5))
        have hE6 := Lib.hid ((hE4.set0 (.slice a4 r.1.length c4)).set1 (.slice a5 r.2.1.length c5))
        clear hf4 hr4 hown3 hf3 hr3 z0 z1 zf0 zf1 zl
        obtain ⟨z0, z1, zf0, zf1, zl⟩ := hE6.out.facts
        go_wp2_with fail
        refine bodyPost_ret (v := .tuple #[.agg #[.slice a4 r.1.length c4, .slice a5 r.2.1.length c5], .bool r.2.2]) (by simp [results, Tryz.results24, go_sem, *]) rfl ?_
        rw [← HQ.out, delRuleR_chk Hp.out Hfd.out, Hr.out]
        exact HF.out
end Go.Proofs.YtceiafncpimihaaGreat
