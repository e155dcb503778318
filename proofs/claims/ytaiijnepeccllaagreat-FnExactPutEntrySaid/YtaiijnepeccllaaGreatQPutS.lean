/-
  The reference's l5Put, walked.
-/
import Derived.Test.YtaiijnepeccllaaGreatQPutW
import Derived.Test.YtaiijnepeccllaaGreatQMkD
namespace Go.Proofs.YtaiijnepeccllaaGreat
set_option linter.unusedVariables false
set_option linter.unusedSimpArgs false
open Go.RowKit Go.Maps

theorem ownsF_cap {w : World} {base c : Nat} {a : Option Addr} {fs : List Fl} (h : OwnsF w base (.slice a fs.length c) fs) : fs.length ≤ c := by
  rcases h.2 with ⟨h2, h0⟩ | ⟨g, cap, cur, e, _, _, hc, _⟩
  · simp only [Value.slice.injEq] at h2; omega
  · simp only [Value.slice.injEq] at e; omega
theorem flX_own {w : World} {og : Option Nat} {base c : Nat} {a : Option Addr} {fs : List Fl} (h : OwnsF w base (.slice a fs.length c) fs) (hne : ∀ k, (Value.slice a fs.length c).ownBlock = some k → og ≠ some k) : FlX w og a fs.length fs :=
  FlX.of (OwnsF.at_ h) fun b off e _ => hne b (by rw [e]; rfl)
theorem withTo_len (r : En) (l : List En) : (withTo r l).1.length ≤ l.length + 1 := by
  have h := congrArg List.length (withTo_ins r l)
  have h2 := (insE_tot r l).1
  split at h
  · omega
  · rw [List.length_append] at h; simp at h; omega

set_option maxRecDepth 100000 in
set_option maxHeartbeats 8000000 in
theorem l5Put_any (a : Option Addr) (n c : Nat) (es : List En) (t s : ByteArray) (fs : List Fl) (y : ByteArray) (a0 : Option Addr) (c0 : Nat) (w : World) (hf : EnAt w 0 w.heap.size es a n) (hnl : NilOk w a n) (hk0 : FilesAt w w.heap.size a0 fs.length fs) (hnil0 : a0 = none → fs.length = 0 ∧ c0 = 0) (hfl : fs.length ≤ 1048576) (hz : es.length + enTot es ≤ 1048577) :
    Calls Tryz.prog 32 #[.slice a n c, .agg #[.string t, .string s, .slice a0 fs.length c0, .string y]] w fun e w' => ∃ v, e = .returned v ∧ OwnW w' w.heap.size v (putE (t, s, fs, y) es) ∧ Below w.heap.size w w' := by
  have hB0 := ((Below.refl w.heap.size w).alloc (Nat.le_refl _) (.cells #[.string t, .string s, .slice a0 fs.length c0, .string y] 26)).alloc (by simp) (.cells #[] 26)
  have hP0 := (BxN.new w t s (.slice a0 fs.length c0) y 26).alloc (.cells #[] 26)
  have hM0 := OwnW.made (w.alloc (.cells #[.string t, .string s, .slice a0 fs.length c0, .string y] 26))
  rw [World.size_alloc] at hM0
  have hsz0 : ((w.alloc (.cells #[.string t, .string s, .slice a0 fs.length c0, .string y] 26)).alloc (.cells #[] 26)).heap.size = w.heap.size + 2 := by simp
  have Hd := Lib.hid (l5Drop_any a n c es t _ (hf.next hB0) (hnl.keep hf fun p hp => hB0.cell hp) hz)
  have Hst := Lib.hid (And.intro hB0 (And.intro hP0 (And.intro hM0 hsz0)))
  have Hk0 := Lib.hid hk0
  have Hn0 := Lib.hid hnil0
  have hdt := delE_tot t es
  obtain ⟨p0, p1, p2, p3, _, _, _, _, _⟩ := hP0.facts
  clear hB0 hP0 hM0 hsz0 hf hnl hk0 hnil0
  go_enter Tryz.func32, Tryz.ntmps32
  go_wp2_with fail
  refine Hd.out.mono ?_
  rintro e w1 ⟨vr, bs, rfl, hrd, hB1⟩
  have hP : PuS w1 w (.slice (some ⟨w.heap.size + 1, 0, none⟩) 0 0) [] vr (delE t es) bs t s (.slice a0 fs.length c0) y := by
    obtain ⟨hB0, hP0, hM0, hsz0⟩ := Hst.out
    rw [hsz0] at hrd
    refine ⟨hM0.below hB1, hP0.next hB1, hrd, fun g hg hm => ?_, hB0.trans (hB1.mono hB0.size)⟩
    have hg : w.heap.size + 1 = g := by simpa [Value.ownBlock] using hg
    have := (hrd.in_ g hm).1
    omega
  obtain ⟨ar, cr, rfl, hcr, _⟩ := hrd.form
  have HP := Lib.hid hP
  generalize hrs : delE t es = rs at *
  have Hrs := Lib.hid hrs
  clear hrd hB1 hP p0 p1 p2 p3 Hd hrs
  go_wp2_with fail
  go_loopw [5, 6, 8] (fun v d i wr => ∃ j : Nat, j ≤ rs.length ∧ i = .int .i64 j ∧ d = .bool (withTo (t, s, fs, y) (rs.take j)).2 ∧ PuS wr w v (withTo (t, s, fs, y) (rs.take j)).1 (.slice ar rs.length cr) rs bs t s (.slice a0 fs.length c0) y) (fun _ _ i _ => rs.length - (intOf i).toNat)
  case atStart => exact ⟨0, Nat.zero_le _, rfl, rfl, by simpa [withTo] using HP.out⟩
  case round =>
    obtain ⟨j, hj, rfl, rfl, hS⟩ := hrel
    have HS := Lib.hid hS
    have hwl := withTo_len (t, s, fs, y) (rs.take j)
    have hsw := hS.be.size
    obtain ⟨q0, q1, q2, q3, _, _, _, _, hql⟩ := hS.bx.facts
    clear hS
    by_cases hlt : j < rs.length
    · obtain ⟨⟨t3, s3, fs3, y3⟩, hg3⟩ : ∃ x, rs[j]? = some x := ⟨_, List.getElem?_eq_getElem hlt⟩
      have hst := Lib.hid (withTo_succ (r := (t, s, fs, y)) hg3)
      have hln : (rs.take j).length ≤ j := List.length_take_le _ _
      obtain ⟨gr, rfl⟩ : ∃ g, ar = some ⟨g, 0, none⟩ := by
        obtain ⟨_, xs, h1, _⟩ := HS.out.rd
        rcases h1.2 with ⟨_, h0⟩ | ⟨g, cap, cur, e, _⟩
        · omega
        · simp only [Value.slice.injEq] at e
          exact ⟨g, e.1⟩
      obtain ⟨a3, c3, hc0, hc1, hc2, hc3, ho3, hb3⟩ := HS.out.rd.cells hg3
      have hjj : (j : Int) < (rs.length : Int) := by omega
      have hj0 : (0 : Int) ≤ (j : Int) := by omega
      have hdl : rs.length ≤ 1048577 := by omega
      have Ho3 := Lib.hid (And.intro (ownsF_cap ho3) (And.intro ho3 hb3))
      have Hg3 := Lib.hid hg3
      have hslot := HS.out.ow.lt
      have Hslot := Lib.hid hslot
      clear ho3 hb3 hg3 hslot
      generalize withTo (t, s, fs, y) (rs.take j) = z at *
      obtain ⟨l, dn⟩ := z
      simp only at hwl
      cases dn with
      | true =>
        have Hw := Lib.hid (show wst (t, s, fs, y) (l, true) (t3, s3, fs3, y3) = (l ++ [(t3, s3, fs3, y3)], true) by simp [wst])
        go_wp2_with fail
        go_quiet (fail)
        have HS1 := Lib.hid ((HS.out.drewN nq).alloc (.cells #[.string t3, .string s3, .slice a3 fs3.length c3, .string y3] 26))
        have HF := Lib.hid (flX_own (ownsF_keep (w' := (wr.drewN nq).alloc (.cells #[.string t3, .string s3, .slice a3 fs3.length c3, .string y3] 26)) Ho3.out.2.1 fun k hk => Below.heap_alloc (wr.drewN nq) _ k (World.ownsRow.lt Ho3.out.2.1 k hk).2) fun k hk e => HS.out.ap k e (List.mem_append_right _ (Ho3.out.2.2 k hk)))
        go_wp2_with (at_builtin; refine wpList_append_ew rfl _ _ rfl (w.heap.size + 1) _ l rfl HS1.out.ow wr.heap.size 1 rfl t3 s3 y3 fs3 a3 fs3.length c3 (heap_alloc_new (wr.drewN nq) _) Ho3.out.1 HF.out (by omega) ?_; intro g6 cap6 w6 hown6 hgrow6 hlt6 hbg6)
        exact ⟨⟨j + 1, by omega, by go_num, by rw [hst.out, Hw.out], by rw [hst.out, Hw.out]; exact HS1.out.push hown6 hgrow6 hbg6⟩, by simp [intOf]; omega⟩
      | false =>
        cases hl : sLess t t3 with
        | true =>
          have Hl := Lib.hid hl
          have he1 : Op.bytesLess t3.toList t.toList = false := sLess_asymm hl
          have he2 : (t3.toList == t.toList) = false := by rw [sEq]; simpa using fun e : t3 = t => sLess_ne hl e.symm
          clear hl
          have Hw := Lib.hid (show wst (t, s, fs, y) (l, false) (t3, s3, fs3, y3) = (l ++ [(t, s, fs, y)] ++ [(t3, s3, fs3, y3)], true) by simp [wst, Hl.out])
          go_wp2_with fail
          go_quiet (fail)
          have HSd := Lib.hid (HS.out.drewN nq)
          have hkd : FilesAt (wr.drewN nq) (wr.drewN nq).heap.size a0 fs.length fs := (Hk0.out.below HSd.out.be).more hsw
          go_wp2_with fail
          refine (l5Copy_any t s fs y a0 fs.length c0 _ hkd Hn0.out hfl).mono ?_
          rintro e w4 ⟨a4, c4, rfl, hown4, hB4⟩
          have hs4 : wr.heap.size ≤ w4.heap.size := hB4.size
          have HS4 := Lib.hid ((HSd.out.below hB4).alloc (.cells #[.string t, .string s, .slice a4 fs.length c4, .string y] 26))
          have HF4 := Lib.hid (flX_own (ownsF_alloc hown4 (.cells #[.string t, .string s, .slice a4 fs.length c4, .string y] 26)) fun k hk e => by
            have h1 : wr.heap.size ≤ k := (World.ownsRow.lt hown4 k hk).1
            have h2 := (Hslot.out k e).2
            omega)
          have Hcap4 := Lib.hid (ownsF_cap hown4)
          clear hown4 hB4 hkd hc0 hc1 hc2 hc3 q0 q1 q2 q3
          go_upto_region 10 with (at_builtin; refine wpList_append_ew rfl _ _ rfl (w.heap.size + 1) _ l rfl HS4.out.ow w4.heap.size 1 rfl t s y fs a4 fs.length c4 (heap_alloc_new w4 _) Hcap4.out HF4.out (by omega) ?_; intro g5 cap5 w5 hown5 hgrow5 hlt5 hbg5)
          have HS5 := Lib.hid (HS4.out.push hown5 hgrow5 hbg5)
          obtain ⟨a3, c3, hc0, hc1, hc2, hc3, ho3, hb3⟩ := HS5.out.rd.cells Hg3.out
          have Ho3 := Lib.hid (And.intro (ownsF_cap ho3) (And.intro ho3 hb3))
          have HS6 := Lib.hid (HS5.out.alloc (.cells #[.string t3, .string s3, .slice a3 fs3.length c3, .string y3] 26))
          have HF := Lib.hid (flX_own (ownsF_alloc ho3 (.cells #[.string t3, .string s3, .slice a3 fs3.length c3, .string y3] 26)) fun k hk e => HS5.out.ap k e (List.mem_append_right _ (hb3 k hk)))
          clear ho3 hb3 hown5 hgrow5 hbg5 hlt5
          go_wp2_with (at_builtin; refine wpList_append_ew rfl _ _ rfl (w.heap.size + 1) (.slice (some ⟨g5, 0, none⟩) (l.length + 1) cap5) (l ++ [(t, s, fs, y)]) rfl HS6.out.ow w5.heap.size 1 rfl t3 s3 y3 fs3 a3 fs3.length c3 (heap_alloc_new w5 _) Ho3.out.1 HF.out (by simp; omega) ?_; intro g6 cap6 w6 hown6 hgrow6 hlt6 hbg6)
          rw [show (l ++ [((t, s, fs, y) : En)]).length = l.length + 1 from by simp] at hown6
          exact ⟨⟨j + 1, by omega, by go_num, by rw [hst.out, Hw.out], by rw [hst.out, Hw.out]; exact HS6.out.push hown6 hgrow6 hbg6⟩, by simp [intOf]; omega⟩
        | false =>
          have Hl := Lib.hid hl
          obtain ⟨p, hp⟩ : ∃ x, Op.bytesLess t3.toList t.toList = x := ⟨_, rfl⟩
          obtain ⟨q, hq⟩ : ∃ y, (t3.toList == t.toList) = y := ⟨_, rfl⟩
          have hxy : (p || q) = true := by
            by_cases e : t3 = t
            · rw [← hq, sEq, e]; simp
            · rw [← hp, show Op.bytesLess t3.toList t.toList = true from sLess_total hl (fun e' => e e'.symm)]; rfl
          clear hl
          have Hwl := Lib.hid hwl
          cases p <;> cases q
          case false.false => cases hxy
          all_goals
            clear hxy
            have Hw := Lib.hid (show wst (t, s, fs, y) (l, false) (t3, s3, fs3, y3) = (l ++ [(t3, s3, fs3, y3)], false) by simp [wst, Hl.out])
            go_wp2_with fail
            go_quiet (fail)
            have HS1 := Lib.hid ((HS.out.drewN nq).alloc (.cells #[.string t3, .string s3, .slice a3 fs3.length c3, .string y3] 26))
            have HF := Lib.hid (flX_own (ownsF_keep (w' := (wr.drewN nq).alloc (.cells #[.string t3, .string s3, .slice a3 fs3.length c3, .string y3] 26)) Ho3.out.2.1 fun k hk => Below.heap_alloc (wr.drewN nq) _ k (World.ownsRow.lt Ho3.out.2.1 k hk).2) fun k hk e => HS.out.ap k e (List.mem_append_right _ (Ho3.out.2.2 k hk)))
            go_wp2_with (at_builtin; refine wpList_append_ew rfl _ _ rfl (w.heap.size + 1) _ l rfl HS1.out.ow wr.heap.size 1 rfl t3 s3 y3 fs3 a3 fs3.length c3 (heap_alloc_new (wr.drewN nq) _) Ho3.out.1 HF.out (by omega) ?_; intro g6 cap6 w6 hown6 hgrow6 hlt6 hbg6)
            exact ⟨⟨j + 1, by omega, by go_num, by rw [hst.out, Hw.out], by rw [hst.out, Hw.out]; exact HS1.out.push hown6 hgrow6 hbg6⟩, by simp [intOf]; omega⟩
    · have hall : rs.take j = rs := List.take_of_length_le (by omega)
      have hjj : ¬ (j : Int) < (rs.length : Int) := by omega
      have hdl : rs.length ≤ 1048577 := by omega
      have Hslot := Lib.hid HS.out.ow.lt
      rw [hall] at hwl HS
      have hins := withTo_ins (t, s, fs, y) rs
      rw [hall]
      have Hput := Lib.hid (show insE (t, s, fs, y) rs = putE (t, s, fs, y) es by unfold putE; rw [Hrs.out])
      clear hall
      generalize withTo (t, s, fs, y) rs = z at *
      obtain ⟨l, dn⟩ := z
      simp only at hwl hins
      have Hins := Lib.hid hins
      clear hins
      cases dn with
      | true =>
        go_wp2_with fail
        go_ret
        have h := Hins.out
        simp only [if_true] at h
        exact ⟨_, rfl, by rw [← Hput.out, ← h]; exact HS.out.ow.mono (Nat.le_succ _), HS.out.be⟩
      | false =>
        have hkd : FilesAt wr wr.heap.size a0 fs.length fs := (Hk0.out.below HS.out.be).more hsw
        go_wp2_with fail
        refine (l5Copy_any t s fs y a0 fs.length c0 _ hkd Hn0.out hfl).mono ?_
        rintro e w4 ⟨a4, c4, rfl, hown4, hB4⟩
        have hs4 : wr.heap.size ≤ w4.heap.size := hB4.size
        have HS4 := Lib.hid ((HS.out.below hB4).alloc (.cells #[.string t, .string s, .slice a4 fs.length c4, .string y] 26))
        have HF4 := Lib.hid (flX_own (ownsF_alloc hown4 (.cells #[.string t, .string s, .slice a4 fs.length c4, .string y] 26)) fun k hk e => by
          have h1 : wr.heap.size ≤ k := (World.ownsRow.lt hown4 k hk).1
          have h2 := (Hslot.out k e).2
          omega)
        have Hcap4 := Lib.hid (ownsF_cap hown4)
        clear hown4 hB4 hkd q0 q1 q2 q3
        go_wp2_with (at_builtin; refine wpList_append_ew rfl _ _ rfl (w.heap.size + 1) _ l rfl HS4.out.ow w4.heap.size 1 rfl t s y fs a4 fs.length c4 (heap_alloc_new w4 _) Hcap4.out HF4.out (by omega) ?_; intro g6 cap6 w6 hown6 hgrow6 hlt6 hbg6)
        go_ret
        have h := Hins.out
        simp only [if_false, Bool.false_eq_true] at h
        have h6 := HS4.out.push hown6 hgrow6 hbg6
        exact ⟨_, rfl, by rw [← Hput.out, ← h]; exact h6.ow.mono (Nat.le_succ _), h6.be⟩
end Go.Proofs.YtaiijnepeccllaaGreat
