/-
  The reference's FindRule.
-/
import Derived.Test.YtahdpocaldhamaaGreatQFrM
import Derived.Test.YtahdpocaldhamaaGreatGone
import Derived.Test.YtahdpocaldhamaaGreatQPrV
namespace Go.Proofs.YtahdpocaldhamaaGreat
set_option linter.unusedVariables false
set_option linter.unusedSimpArgs false
open Go.RowKit

/-- what l3Rule finds -/
def ruleF (rs : List Ru) (x : ByteArray) : Int × ByteArray × Fo × Bool := match findB rs x with
  | some (k, s, ks) => (k, s, ks, true)
  | none => (0, .empty, .nil, false)
/-- what l3Rule leaves -/
def L3P (k : Int) (s : ByteArray) (ks : Fo) (found : Bool) (w : World) (e : Ending) (w' : World) : Prop := ∃ a n c, e = .returned (.tuple #[.agg #[.int .i64 k, .string s, .slice a n c], .bool found]) ∧ KA w' 0 w'.heap.size ks a n ∧ n ≤ c ∧ Below w.heap.size w w'

set_option maxRecDepth 100000 in
set_option maxHeartbeats 4000000 in
theorem l3Rule_any (a1 a2 : Option Addr) (n1 n2 c1 c2 : Nat) (rs : List Ru) (x : ByteArray) (w : World) (hr : RuAt w 0 w.heap.size rs a2 n2) (hn2 : n2 ≤ maxLen) :
    Calls Tryz.prog 42 #[.agg #[.slice a1 n1 c1, .slice a2 n2 c2], .string x] w (L3P (ruleF rs x).1 (ruleF rs x).2.1 (ruleF rs x).2.2.1 (ruleF rs x).2.2.2 w) := by
  have hB0 := ((Below.refl w.heap.size w).alloc (Nat.le_refl _) (.cells #[.slice a1 n1 c1, .slice a2 n2 c2] 26)).alloc (by simp) (.cells #[.int .i64 0, .string .empty, .slice none 0 0] 41)
  have hP0 := (BxP.new w (.slice a1 n1 c1) (.slice a2 n2 c2) 26).alloc (.cells #[.int .i64 0, .string .empty, .slice none 0 0] 41)
  have hE0 := BxE.new (w.alloc (.cells #[.slice a1 n1 c1, .slice a2 n2 c2] 26)) 0 .empty (.slice none 0 0) 41
  simp only [World.size_alloc] at hE0
  have hlen := hr.1
  unfold maxLen at hn2
  generalize hres : ruleF rs x = res
  obtain ⟨k, s, ks, found⟩ := res
  dsimp only
  have Hres := Lib.hid hres
  have hbx := Lib.hid (And.intro hP0 hE0)
  clear hres hP0 hE0
  go_enter Tryz.func42, Tryz.ntmps42
  go_wp2_with fail
  go_loopw [6] (fun i wr => ∃ j : Nat, j ≤ n2 ∧ i = .int .i64 j ∧ (∀ (i : Nat) (r : Ru), i < j → rs[i]? = some r → r.1 ≠ x) ∧ BxP wr w.heap.size (.slice a1 n1 c1) (.slice a2 n2 c2) 26 ∧ BxE wr (w.heap.size + 1) 0 .empty (.slice none 0 0) 41 ∧ Below w.heap.size w wr) (fun i _ => n2 - (intOf i).toNat)
  case atStart => exact ⟨0, Nat.zero_le _, rfl, fun i r h => absurd h (by omega), hbx.out.1, hbx.out.2, hB0⟩
  case round =>
    obtain ⟨j, hj, rfl, hno, hP, hE, hB⟩ := hrel
    obtain ⟨p0, p1, pf0, pf1, hpl⟩ := hP.facts
    obtain ⟨e0, e1, e2, f0, f1, f2, hel⟩ := hE.facts
    have Hno := Lib.hid hno
    clear hno
    by_cases hlt : j < n2
    · obtain ⟨b, off, t, k', s', ks', a', n', c', rfl, _, hb, hg, hc0, hc1, hc2, hc3, hcap, hks⟩ := (hr.below hB).get hlt
      have hbwr : b < wr.heap.size := by have := hB.size; omega
      have hjj : (j : Int) < (n2 : Int) := by omega
      have hj0 : (0 : Int) ≤ (j : Int) := by omega
      by_cases hpx : t = x
      · subst hpx
        have hf : ruleF rs t = (k', s', ks', true) := by unfold ruleF; rw [findB_at Hno.out hg]
        have Hres := Hres.out
        rw [hf] at Hres
        simp only [Prod.mk.injEq] at Hres
        obtain ⟨rfl, rfl, rfl, rfl⟩ := Hres
        have hd : (t.toList == t.toList) = true := by simp
        clear hf hg
        go_wp2_with fail
        refine bodyPost_ret (v := .tuple #[.agg #[.int .i64 k', .string s', .slice a' n' c'], .bool true]) (by simp [results, Tryz.results42, go_sem, *] <;> rfl) rfl ?_
        have hsz := hB.size
        exact ⟨a', n', c', rfl, (((hks.setCell (g := w.heap.size + 1) (.inr (by omega)) 0 _).setCell (g := w.heap.size + 1) (.inr (by omega)) 1 _).setCell (g := w.heap.size + 1) (.inr (by omega)) 2 _).more (Nat.le_refl _) (by simp [World.setCell]; omega), hcap, ((hB.setCell (Nat.le_succ _) _).setCell (Nat.le_succ _) _).setCell (Nat.le_succ _) _⟩
      · have hd : (t.toList == x.toList) = false := by rw [sEq]; simpa using hpx
        have Hg := Lib.hid hg
        have Hpx := Lib.hid hpx
        clear hg hpx
        go_wp2_with fail
        refine ⟨⟨j + 1, by omega, by go_num, fun i r hi hgi => ?_, hP, hE, hB⟩, by simp [intOf]; omega⟩
        by_cases e : i = j
        · subst e
          rw [Hg.out] at hgi
          cases hgi
          exact Hpx.out
        · exact Hno.out i r (by omega) hgi
    · have hjn : ¬ (j : Int) < (n2 : Int) := by omega
      have hf : ruleF rs x = (0, .empty, .nil, false) := by
        unfold ruleF
        rw [findB_all fun i r hgi => Hno.out i r (by have := (List.getElem?_eq_some_iff.1 hgi).1; omega) hgi]
      have Hres := Hres.out
      rw [hf] at Hres
      simp only [Prod.mk.injEq] at Hres
      obtain ⟨rfl, rfl, rfl, rfl⟩ := Hres
      clear hf
      go_wp2_with fail
      refine bodyPost_ret (v := .tuple #[.agg #[.int .i64 0, .string .empty, .slice none 0 0], .bool false]) (by simp [results, Tryz.results42, go_sem, *] <;> rfl) rfl ?_
      exact ⟨none, 0, 0, rfl, KA.nil, Nat.le_refl _, ((hB.setCell (Nat.le_succ _) _).setCell (Nat.le_succ _) _).setCell (Nat.le_succ _) _⟩

theorem ruleF_false {rs : List Ru} {x : ByteArray} {k : Int} {s : ByteArray} {ks : Fo} (h : ruleF rs x = (k, s, ks, false)) (fs : List Fl) : findP fs rs x = (0, .empty, .nil, false) := by
  unfold ruleF at h
  unfold findP
  cases hf : findB rs x with
  | some y => rw [hf] at h; simp at h
  | none => split <;> rfl
theorem ruleF_true {rs : List Ru} {x : ByteArray} {k : Int} {s : ByteArray} {ks : Fo} (h : ruleF rs x = (k, s, ks, true)) : findB rs x = some (k, s, ks) := by
  unfold ruleF at h
  cases hf : findB rs x with
  | some y =>
    obtain ⟨k', s', ks'⟩ := y
    rw [hf] at h
    simp only [Prod.mk.injEq] at h
    obtain ⟨rfl, rfl, rfl, _⟩ := h
    rfl
  | none => rw [hf] at h; simp at h
/-- what the reference's FindRule leaves -/
def FsP (k : Int) (s : ByteArray) (ks : Fo) (found : Bool) (w : World) (e : Ending) (w' : World) : Prop := ∃ a c, e = .returned (.tuple #[.agg #[.int .i64 k, .string s, .slice a ks.len c], .bool found]) ∧ ks.len ≤ c ∧ KP w' w.heap.size w'.heap.size ks a ks.len ∧ Below w.heap.size w w'

set_option maxRecDepth 100000 in
set_option maxHeartbeats 4000000 in
theorem findRS_z (hR : RulesC) (a1 a2 : Option Addr) (n1 n2 c1 c2 : Nat) (fs : List Fl) (rs : List Ru) (x : ByteArray) (w : World) (hf : FilesAt w w.heap.size a1 n1 fs) (hr : RuAt w 0 w.heap.size rs a2 n2) (hs : Fits fs) (hrf : RuFits rs) (hn1 : n1 ≤ maxLen) (hn2 : n2 ≤ maxLen) (hz : RuZ rs) :
    Calls Tryz.prog 18 #[.agg #[.slice a1 n1 c1, .slice a2 n2 c2], .string x] w (FsP (findP fs rs x).1 (findP fs rs x).2.1 (findP fs rs x).2.2.1 (findP fs rs x).2.2.2 w) := by
  have hB0 := ((Below.refl w.heap.size w).alloc (Nat.le_refl _) (.cells #[.slice a1 n1 c1, .slice a2 n2 c2] 26)).alloc (by simp) (.cells #[.int .i64 0, .string .empty, .slice none 0 0] 41)
  have hP0 := (BxP.new w (.slice a1 n1 c1) (.slice a2 n2 c2) 26).alloc (.cells #[.int .i64 0, .string .empty, .slice none 0 0] 41)
  have hE0 := BxE.new (w.alloc (.cells #[.slice a1 n1 c1, .slice a2 n2 c2] 26)) 0 .empty (.slice none 0 0) 41
  simp only [World.size_alloc] at hE0
  generalize hres : findP fs rs x = res
  obtain ⟨k, s, ks, found⟩ := res
  generalize hrf2 : ruleF rs x = res2
  obtain ⟨k2, s2, ks2, ok⟩ := res2
  have Hl := Lib.hid (fun W (h : RuAt W 0 W.heap.size rs a2 n2) => l3Rule_any a1 a2 n1 n2 c1 c2 rs x W h hn2)
  simp only [hrf2] at Hl
  dsimp only
  have Hres := Lib.hid (And.intro hres hrf2)
  clear hres hrf2
  go_enter Tryz.func18, Tryz.ntmps18
  go_wp2_with fail
  refine (Hl.out _ (hr.next hB0)).mono ?_
  rintro e w1 ⟨a, n, c, rfl, hk, hnc, hB1⟩
  have B1 := hB0.trans (hB1.mono hB0.size)
  have hP1 := hP0.next hB1
  have hE1 := hE0.next hB1
  obtain ⟨p0, p1, pf0, pf1, hpl⟩ := hP1.facts
  obtain ⟨e0, e1, e2, f0, f1, f2, hel⟩ := hE1.facts
  cases ok with
  | false =>
    have hr0 := ruleF_false Hres.out.2 fs
    rw [Hres.out.1] at hr0
    simp only [Prod.mk.injEq] at hr0
    obtain ⟨rfl, rfl, rfl, rfl⟩ := hr0
    go_wp2_with fail
    refine bodyPost_ret (v := .tuple #[.agg #[.int .i64 0, .string .empty, .slice none 0 0], .bool false]) (by simp [results, Tryz.results18, go_sem, *] <;> rfl) rfl ?_
    exact ⟨none, 0, rfl, Nat.le_refl _, KP.nil, (((B1.setCell (Nat.le_succ _) _).setCell (Nat.le_succ _) _).setCell (Nat.le_succ _) _).alloc (by have := B1.size; simp [World.setCell]; omega) _⟩
  | true =>
    have hfb := ruleF_true Hres.out.2
    have hB2 := (Below.refl w1.heap.size w1).alloc (Nat.le_refl _) (.cells #[.int .i64 k2, .string s2, .slice a n c] 41)
    have B2 := B1.trans (hB2.mono B1.size)
    go_wp2_with fail
    refine (projS_z hR a1 a2 n1 n2 c1 c2 fs rs _ ((hf.below B2).more B2.size) (hr.next B2) hs hrf hn1 hn2 hz).mono ?_
    rintro e w3 ⟨rfl, hB3⟩
    have B3 := B2.trans (hB3.mono B2.size)
    have hX3 := (BxE.new w1 k2 s2 (.slice a n c) 41).next hB3
    have hE3 := (hE1.next hB2).next hB3
    obtain ⟨v0, v1, v2, t0, t1, t2, hvl⟩ := hE3.facts
    obtain ⟨x0, x1, x2, u0, u1, u2, hxl⟩ := hX3.facts
    rcases Bool.eq_false_or_eq_true (projB fs rs) with hv | hv
    case inr =>
      have hr0 : findP fs rs x = (0, .empty, .nil, false) := by unfold findP; rw [hv]; rfl
      rw [Hres.out.1] at hr0
      simp only [Prod.mk.injEq] at hr0
      obtain ⟨rfl, rfl, rfl, rfl⟩ := hr0
      rw [hv]
      clear p0 p1 pf0 pf1 hpl e0 e1 e2 f0 f1 f2 hel x0 x1 x2 u0 u1 u2 hxl
      go_wp2_with fail
      refine bodyPost_ret (v := .tuple #[.agg #[.int .i64 0, .string .empty, .slice none 0 0], .bool false]) (by simp [results, Tryz.results18, go_sem, *] <;> rfl) rfl ?_
      exact ⟨none, 0, rfl, Nat.le_refl _, KP.nil, ((B3.setCell (Nat.le_succ _) _).setCell (Nat.le_succ _) _).setCell (Nat.le_succ _) _⟩
    have hr0 : findP fs rs x = (k2, s2, ks2, true) := by unfold findP; rw [if_pos hv, hfb]
    rw [Hres.out.1] at hr0
    simp only [Prod.mk.injEq] at hr0
    obtain ⟨rfl, rfl, rfl, rfl⟩ := hr0
    have hkz : ks.size ≤ 1000 := by
      obtain ⟨_, _, h3⟩ := valid_good ((proj_sizes hv).2.2.2 _ (findB_some hfb)).2.2
      simp only at h3
      omega
    rw [hv]
    clear p0 p1 pf0 pf1 hpl e0 e1 e2 f0 f1 f2 hel v0 v1 v2 t0 t1 t2 hvl
    go_wp2_with fail
    refine (copy_all ks.size (by omega) k s ks (Nat.le_refl _) a n c _ ((hk.next hB2).next hB3) hnc).mono ?_
    rintro e w4 ⟨v, rfl, hown, hB4⟩
    obtain ⟨a4, c4, rfl, hc4, hm4, hk4⟩ := hown.form
    have B4 := B3.trans (hB4.mono B3.size)
    have hE4 := hE3.next hB4
    have hs3 := B3.size
    obtain ⟨v0, v1, v2, t0, t1, t2, hvl⟩ := hE4.facts
    have hlt1 : w.heap.size + 1 < w3.heap.size := blk_lt hE3
    clear x0 x1 x2 u0 u1 u2 hxl
    go_wp2_with fail
    refine bodyPost_ret (v := .tuple #[.agg #[.int .i64 k, .string s, .slice a4 ks.len c4], .bool true]) (by simp [results, Tryz.results18, go_sem, *] <;> rfl) rfl ?_
    exact ⟨a4, c4, rfl, hc4, (((hk4.setCell (g := w.heap.size + 1) (.inl hlt1) 0 _).setCell (g := w.heap.size + 1) (.inl hlt1) 1 _).setCell (g := w.heap.size + 1) (.inl hlt1) 2 _).more hs3 (by simp [World.setCell]), ((B4.setCell (Nat.le_succ _) _).setCell (Nat.le_succ _) _).setCell (Nat.le_succ _) _⟩
theorem findRS_of (hR : RulesC) (a1 a2 : Option Addr) (n1 n2 c1 c2 : Nat) (fs : List Fl) (rs : List Ru) (x : ByteArray) (w : World) (hf : FilesAt w w.heap.size a1 n1 fs) (hr : RuAt w 0 w.heap.size rs a2 n2) (hs : Fits fs) (hrf : RuFits rs) (hn1 : n1 ≤ maxLen) (hn2 : n2 ≤ maxLen) (hz : rs.length + ruTot rs ≤ 1048576) :
    Calls Tryz.prog 18 #[.agg #[.slice a1 n1 c1, .slice a2 n2 c2], .string x] w (FsP (findP fs rs x).1 (findP fs rs x).2.1 (findP fs rs x).2.2.1 (findP fs rs x).2.2.2 w) :=
  findRS_z hR a1 a2 n1 n2 c1 c2 fs rs x w hf hr hs hrf hn1 hn2 (ruZ_of (by omega))
end Go.Proofs.YtahdpocaldhamaaGreat
