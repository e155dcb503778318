/-
  The reference's FindEntry.
-/
import Derived.Test.YtaiijnepeccllaaGreatQFeI
import Derived.Test.YtaiijnepeccllaaGreatQStS
import Derived.Test.YtaiijnepeccllaaGreatQEnN
namespace Go.Proofs.YtaiijnepeccllaaGreat
set_option linter.unusedVariables false
set_option linter.unusedSimpArgs false
open Go.RowKit Go.Maps

set_option maxRecDepth 100000 in
set_option maxHeartbeats 2000000 in
theorem l5Copy_any (t s : ByteArray) (fs : List Fl) (x : ByteArray) (a : Option Addr) (n c : Nat) (w : World) (hf : FilesAt w w.heap.size a n fs) (hnil : a = none → n = 0 ∧ c = 0) (hn : n ≤ 1048576) :
    Calls Tryz.prog 39 #[.agg #[.string t, .string s, .slice a n c, .string x]] w (CopE t s fs x w) := by
  have hB0 := ((Below.refl w.heap.size w).alloc (Nat.le_refl _) (.cells #[.string t, .string s, .slice a n c, .string x] 26)).alloc (by simp) (.cells #[.string .empty, .string .empty, .slice none 0 0, .string .empty] 26)
  have hP0 := (BxN.new w t s (.slice a n c) x 26).alloc (.cells #[.string .empty, .string .empty, .slice none 0 0, .string .empty] 26)
  have hE0 := BxN.new (w.alloc (.cells #[.string t, .string s, .slice a n c, .string x] 26)) .empty .empty (.slice none 0 0) .empty 26
  simp only [World.size_alloc] at hE0
  have hM0 := fmade_zero ((w.alloc (.cells #[.string t, .string s, .slice a n c, .string x] 26)).alloc (.cells #[.string .empty, .string .empty, .slice none 0 0, .string .empty] 26))
  simp only [World.size_alloc] at hM0
  have hf0 := hf.below hB0
  have hB0' := hB0.alloc hB0.size (.cells #[] 62)
  have hf0 := hf.below hB0'
  have Hall := Lib.hid (And.intro hM0 (And.intro hf0 (And.intro (hP0.alloc (.cells #[] 62)) (hE0.alloc (.cells #[] 62)))))
  obtain ⟨p0, p1, p2, p3, pf0, pf1, pf2, pf3, pl⟩ := hP0.facts
  go_enter Tryz.func39, Tryz.ntmps39
  go_wp2_with (at_builtin; refine wpList_append_files rfl _ _ rfl (w.heap.size + 1 + 1) (.slice (some ⟨w.heap.size + 1 + 1, 0, none⟩) 0 0) [] fs rfl Hall.out.1 a n c w.heap.size rfl hnil Hall.out.2.1 (by simp; omega) (by simp) ?_; intro v1 w1 hown1 hgr1; rw [List.nil_append] at hown1; obtain ⟨av, cv, rfl, hfv⟩ := hown1.form; have hs1 := hgr1.size; simp only [World.size_alloc] at hs1; have hP1 : BxN w1 w.heap.size t s (.slice a n c) x 26 := (hgr1.block _ (by simp; omega) (by simp [Value.ownBlock]; omega)).trans Hall.out.2.2.1; have hE1 : BxN w1 (w.heap.size + 1) .empty .empty (.slice none 0 0) .empty 26 := (hgr1.block _ (by simp) (by simp [Value.ownBlock])).trans Hall.out.2.2.2; have hB1 : Below w.heap.size w w1 := hB0'.grown hgr1 hB0'.size (fun g e => by simp [Value.ownBlock] at e; omega); clear p0 p1 p2 p3 pf0 pf1 pf2 pf3 hfv hgr1 Hall hM0 hf0 hP0 hE0; obtain ⟨p0, p1, p2, p3, pf0, pf1, pf2, pf3, pl2⟩ := hP1.facts; obtain ⟨q0, q1, q2, q3, qf0, qf1, qf2, qf3, ql2⟩ := hE1.facts; have Hown := Lib.hid hown1; clear hown1 hs1)
  refine bodyPost_ret (v := .agg #[.string t, .string s, .slice av fs.length cv, .string x]) (by simp [results, Tryz.results39, go_sem, *] <;> rfl) rfl ?_
  exact ⟨av, cv, rfl, World.ownsRow.mono (((((Hown.out.setB (by omega) _ _).setB (by omega) _ _).setB (by omega) _ _).setB (by omega) _ _).setB (by omega) _ _) (by omega), ((((hB1.setCell (Nat.le_refl _) _).setCell (Nat.le_succ _) _).setCell (Nat.le_succ _) _).setCell (Nat.le_succ _) _).setCell (Nat.le_succ _) _⟩
set_option maxRecDepth 100000 in
set_option maxHeartbeats 4000000 in
theorem l5Find_any (es : List En) (a : Option Addr) (n c : Nat) (x : ByteArray) (w : World) (hf : EnAt w 0 w.heap.size es a n) (hnl : NilOk w a n) (hn : n ≤ maxLen) (hz : es.length + enTot es ≤ 1048576) :
    Calls Tryz.prog 23 #[.slice a n c, .string x] w (FeP (entF es x) w) := by
  have hB0 := (Below.refl w.heap.size w).alloc (Nat.le_refl _) (.cells #[.string .empty, .string .empty, .slice none 0 0, .string .empty] 26)
  have hE0 := BxN.new w .empty .empty (.slice none 0 0) .empty 26
  have hlen := Lib.hid hf.1
  unfold maxLen at hn
  generalize hres : entF es x = res
  have Hres := Lib.hid hres
  clear hres
  go_enter Tryz.func23, Tryz.ntmps23
  go_wp2_with fail
  go_loopw [6] (fun i wr => ∃ j : Nat, j ≤ n ∧ i = .int .i64 j ∧ (∀ (i : Nat) (r : En), i < j → es[i]? = some r → r.1 ≠ x) ∧ BxN wr w.heap.size .empty .empty (.slice none 0 0) .empty 26 ∧ Below w.heap.size w wr) (fun i _ => n - (intOf i).toNat)
  case atStart => exact ⟨0, Nat.zero_le _, rfl, fun i r h => absurd h (by omega), hE0, hB0⟩
  case round =>
    obtain ⟨j, hj, rfl, hno, hE, hB⟩ := hrel
    have Hno := Lib.hid hno
    clear hno hE0
    have hsw := hB.size
    obtain ⟨e0, e1, e2, e3, f0, f1, f2, f3, el⟩ := hE.facts
    by_cases hlt : j < n
    · obtain ⟨b, off, t, s, fs, y, a', n', c', rfl, _, hb, hg, hc0, hc1, hc2, hc3, hcap, hks⟩ := (hf.below hB).get hlt
      have hjj : (j : Int) < (n : Int) := by omega
      have hj0 : (0 : Int) ≤ (j : Int) := by omega
      have hbw : b < wr.heap.size := by omega
      have hnil := hnl b off j a' n' c' rfl hlt ((hB.cell (p := ⟨b, off + j * 4 + 2, none⟩) hb).symm.trans hc2)
      have hkl := hks.1
      by_cases hpx : t = x
      · subst hpx
        have Hr := Hres.out
        rw [show entF es t = ((t, s, fs, y), true) from by unfold entF; rw [findE_at Hno.out hg rfl]] at Hr
        subst Hr
        have hd : (t.toList == t.toList) = true := by simp
        have hn' : n' ≤ 1048576 := by
          have := enTot_get hg
          simp only [enSz] at this
          omega
        have hkw := (hks.more (Nat.zero_le _) hsw).files
        have hE' := hE
        have Hbl := Lib.hid el
        clear hg
        go_wp2_with fail
        refine (l5Copy_any t s fs y a' n' c' wr hkw hnil hn').mono ?_
        rintro e w4 ⟨a4, c4, rfl, hown4, hB4⟩
        have hE4 := hE'.next hB4
        have B4 := hB.trans (hB4.mono hsw)
        clear e0 e1 e2 e3 f0 f1 f2 f3 el
        obtain ⟨v0, v1, v2, v3, t0, t1, t2, t3, hvl⟩ := hE4.facts
        have Hown4 := Lib.hid hown4
        have hbl : w.heap.size < wr.heap.size := Hbl.out
        clear hown4
        go_wp2_with fail
        refine bodyPost_ret (v := .tuple #[.agg #[.string t, .string s, .slice a4 fs.length c4, .string y], .bool true]) (by simp [results, Tryz.results23, go_sem, *] <;> rfl) rfl ?_
        exact ⟨a4, c4, rfl, World.ownsRow.mono ((((Hown4.out.setB hbl _ _).setB hbl _ _).setB hbl _ _).setB hbl _ _) (Nat.le_of_lt hbl), (((B4.setCell (Nat.le_refl _) _).setCell (Nat.le_refl _) _).setCell (Nat.le_refl _) _).setCell (Nat.le_refl _) _⟩
      · have hd : (t.toList == x.toList) = false := by rw [sEq]; simpa using hpx
        have Hg := Lib.hid hg
        have Hpx := Lib.hid hpx
        clear hg hpx
        go_wp2_with fail
        refine ⟨⟨j + 1, by omega, by go_num, fun i r hi hgi => ?_, hE, hB⟩, by simp [intOf]; omega⟩
        by_cases e : i = j
        · subst e
          rw [Hg.out] at hgi
          cases hgi
          exact Hpx.out
        · exact Hno.out i r (by omega) hgi
    · have hjn : ¬ (j : Int) < (n : Int) := by omega
      have Hr := Hres.out
      rw [show entF es x = (noEn, false) from by
        unfold entF
        rw [findE_all fun i r hgi => Hno.out i r (by have := (List.getElem?_eq_some_iff.1 hgi).1; have := hlen.out; omega) hgi]] at Hr
      subst Hr
      go_wp2_with fail
      refine bodyPost_ret (v := .tuple #[.agg #[.string .empty, .string .empty, .slice none 0 0, .string .empty], .bool false]) (by simp [results, Tryz.results23, go_sem, *] <;> rfl) rfl ?_
      exact ⟨none, 0, rfl, World.ownsRow_nil _ _ _ _, (((hB.setCell (Nat.le_refl _) _).setCell (Nat.le_refl _) _).setCell (Nat.le_refl _) _).setCell (Nat.le_refl _) _⟩

set_option maxRecDepth 100000 in
set_option maxHeartbeats 4000000 in
theorem findES_any (pb : ByteArray → Bool) (hpb : ∀ s, IsP s.data.toList (pb s)) (es : List En) (a : Option Addr) (n c : Nat) (x : ByteArray) (w : World) (hf : EnAt w 0 w.heap.size es a n) (hnl : NilOk w a n) (hfit : EnFits es) (hn : n ≤ maxLen) (hz : es.length + enTot es ≤ 1048576) :
    Calls Tryz.prog 7 #[.slice a n c, .string x] w (FeP (findSt pb es x) w) := by
  have hbz : ∀ x ∈ es, x.2.1.size ≤ 1048576 := by
    intro x hx
    obtain ⟨j, hj⟩ := List.mem_iff_getElem?.1 hx
    have := enTot_get hj
    simp only [enSz] at this
    omega
  have hB0 := (Below.refl w.heap.size w).alloc (Nat.le_refl _) (.cells #[.string .empty, .string .empty, .slice none 0 0, .string .empty] 26)
  have hE0 := BxN.new w .empty .empty (.slice none 0 0) .empty 26
  have hf0 := hf.next hB0
  have hnl0 := hnl.keep hf fun p hp => hB0.cell hp
  generalize hres : findSt pb es x = res
  have Hres := Lib.hid hres
  have Hnl := Lib.hid hnl0
  clear hres hnl hnl0
  go_enter Tryz.func7, Tryz.ntmps7
  go_wp2_with fail
  refine (storeS_any pb hpb es a n c _ hf0 hfit hn hbz).mono ?_
  rintro e w1 ⟨rfl, hB1⟩
  have B1 := hB0.trans (hB1.mono hB0.size)
  have hE1 := hE0.next hB1
  have hf1 := hf0.next hB1
  have Hnl1 := Lib.hid (Hnl.out.keep hf0 fun p hp => hB1.cell hp)
  have hs1 := hB1.size
  simp only [World.size_alloc] at hs1
  obtain ⟨e0, e1, e2, e3, f0, f1, f2, f3, el⟩ := hE1.facts
  rcases Bool.eq_false_or_eq_true (stB pb es) with hv | hv
  case inr =>
    have Hr := Hres.out
    rw [show findSt pb es x = (noEn, false) from by unfold findSt; rw [hv]; rfl] at Hr
    subst Hr
    rw [hv]
    go_wp2_with fail
    refine bodyPost_ret (v := .tuple #[.agg #[.string .empty, .string .empty, .slice none 0 0, .string .empty], .bool false]) (by simp [results, Tryz.results7, go_sem, *] <;> rfl) rfl ?_
    exact ⟨none, 0, rfl, World.ownsRow_nil _ _ _ _, (((B1.setCell (Nat.le_refl _) _).setCell (Nat.le_refl _) _).setCell (Nat.le_refl _) _).setCell (Nat.le_refl _) _⟩
  have Hres2 := Lib.hid (show entF es x = res by rw [← Hres.out]; unfold findSt; rw [if_pos hv])
  rw [hv]
  clear hv Hres hpb
  go_wp2_with fail
  refine (l5Find_any es a n c x w1 hf1 Hnl1.out hn hz).mono ?_
  rw [Hres2.out]
  rintro e w2 ⟨a4, c4, rfl, hown4, hB2⟩
  have hE2 := hE1.next hB2
  have B2 := B1.trans (hB2.mono B1.size)
  clear e0 e1 e2 e3 f0 f1 f2 f3 el
  obtain ⟨e0, e1, e2, e3, f0, f1, f2, f3, el⟩ := hE2.facts
  have Hown4 := Lib.hid hown4
  have hbl : w.heap.size < w1.heap.size := by omega
  clear hown4
  go_wp2_with fail
  refine bodyPost_ret (v := .tuple #[.agg #[.string res.1.1, .string res.1.2.1, .slice a4 res.1.2.2.1.length c4, .string res.1.2.2.2], .bool res.2]) (by simp [results, Tryz.results7, go_sem, *] <;> rfl) rfl ?_
  exact ⟨a4, c4, rfl, World.ownsRow.mono ((((Hown4.out.setB hbl _ _).setB hbl _ _).setB hbl _ _).setB hbl _ _) (by omega), (((B2.setCell (Nat.le_refl _) _).setCell (Nat.le_refl _) _).setCell (Nat.le_refl _) _).setCell (Nat.le_refl _) _⟩
end Go.Proofs.YtaiijnepeccllaaGreat
