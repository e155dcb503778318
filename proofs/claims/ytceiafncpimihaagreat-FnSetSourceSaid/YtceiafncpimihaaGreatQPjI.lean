/-
  The program's ProjectSame.
-/
import Derived.Test.YtceiafncpimihaaGreatQPjM
import Derived.Test.YtceiafncpimihaaGreatGtwo
import Derived.Test.YtceiafncpimihaaGreatQWalkSame
namespace Go.Proofs.YtceiafncpimihaaGreat
set_option linter.unusedVariables false
set_option linter.unusedSimpArgs false
open Go.RowKit

theorem bs_ne {s t : ByteArray} (h : ¬ s = t) : (s.toList == t.toList) = false := by
  rw [beq_eq_false_iff_ne]
  intro e
  exact h (ByteArray.ext (by simpa [ByteArray.toList_eq] using congrArg List.toArray e))
theorem bs_eq {s t : ByteArray} (h : s = t) : (s.toList == t.toList) = true := by rw [h]; simp

set_option maxRecDepth 100000 in
set_option maxHeartbeats 2000000 in
theorem ruleSameI_any (r : Bool) (t : ByteArray) (k : Int) (s : ByteArray) (ks : Fo) (t' : ByteArray) (k' : Int) (s' : ByteArray) (ks' : Fo) (hr : r = true ↔ ((t, k, s, ks) : Ru) = (t', k', s', ks')) (a a' : Option Addr) (n n' c c' : Nat) (w : World) (h1 : RdA w ks a n) (h2 : RdA w ks' a' n') (hc : n ≤ c) (hc' : n' ≤ c') (hz : ks.size ≤ 1048576) (hfit : s.size ≤ maxLen ∧ n ≤ maxLen ∧ n' ≤ maxLen) :
    Calls Tryz.prog 39 #[.agg #[.string t, .int .i64 k, .string s, .slice a n c], .agg #[.string t', .int .i64 k', .string s', .slice a' n' c']] w fun e w' => e = .returned (.bool r) ∧ Below w.heap.size w w' := by
  have B2 := ((Below.refl w.heap.size w).alloc (Nat.le_refl _) (.cells #[.string t, .int .i64 k, .string s, .slice a n c] 45)).alloc (by simp) (.cells #[.string t', .int .i64 k', .string s', .slice a' n' c'] 45)
  have Hr := Lib.hid hr
  have HB2 := Lib.hid B2
  by_cases ht : t = t'
  · have htb := bs_eq ht
    have Ht := Lib.hid ht
    have Hc := Lib.hid (eqI_any r k k' s s' ks ks' (by rw [hr]; simp [ht]) a a' n n' c c' _ (h1.keep fun b hb => B2.block b hb) (h2.keep fun b hb => B2.block b hb) hc hc' hz hfit)
    clear ht hr h1 h2 B2 hfit
    go_enter Tryz.func39, Tryz.ntmps39
    go_wp2_with fail
    refine Hc.out.mono ?_
    rintro e w1 ⟨rfl, hB1⟩
    have hBB := HB2.out.trans (hB1.mono HB2.out.size)
    clear hB1
    go_wp2_with fail
    go_ret
    exact ⟨rfl, hBB⟩
  · have htb := bs_ne ht
    have Hrf := Lib.hid (false_of hr (by simp [ht]))
    clear ht hr h1 h2 B2 hfit
    go_enter Tryz.func39, Tryz.ntmps39
    go_wp2_with fail
    go_ret
    exact ⟨ret_bool Hrf.out.symm, HB2.out⟩

set_option maxHeartbeats 2000000 in
set_option maxRecDepth 100000 in
theorem equalFuncR_any (r : Bool) (rs qs : List Ru) (hr : r = true ↔ rs = qs) (a b : Option Addr) (n c m d : Nat) (w : World) (hf : RuP w rs a n) (hg : RuP w qs b m) (hfit : RuFits rs) (hfit2 : RuFits qs) (hz : ∀ x ∈ rs, x.2.2.2.size ≤ 1048576) (hn : n ≤ maxLen) (hm : m ≤ maxLen) (fv : Value) (hfv : fv = .func (.func 39) #[] #[]) :
    Calls Tryz.prog 38 #[.slice a n c, .slice b m d, fv] w fun e w' => e = .returned (.bool r) ∧ Below w.heap.size w w' := by
  subst hfv
  unfold maxLen at hn hm
  have hl1 := Lib.hid hf.1
  have hl2 := Lib.hid hg.1
  have Hr := Lib.hid hr
  have Hz := Lib.hid hz
  have Hfit := Lib.hid (And.intro hfit hfit2)
  clear hr hz hfit hfit2
  by_cases hne : n = m
  · subst hne
    go_enter Tryz.func38, Tryz.ntmps38
    go_wp2_with fail
    go_loopw [17] (fun i wr => ∃ j : Nat, j ≤ n ∧ i = .int .i64 j ∧ rs.take j = qs.take j ∧ Below w.heap.size w wr) (fun i _ => n - (intOf i).toNat)
    case atStart => exact ⟨0, Nat.zero_le _, rfl, rfl, Below.refl _ _⟩
    case round =>
      obtain ⟨j, hj, rfl, heq, hB⟩ := hrel
      have Heq := Lib.hid heq; clear heq
      by_cases hlt : j < n
      · obtain ⟨b1, o1, t, k, s, ks, a', n', c', rfl, hb1, hg1, hc0, hc1, hc2, hc3, hcap, hks⟩ := (hf.next hB).get hlt
        obtain ⟨b2, o2, t2, k2, s2, ks2, a2, n2, c2, rfl, hb2, hg2, hd0, hd1, hd2, hd3, hcap2, hks2⟩ := (hg.next hB).get hlt
        have hq1 := Hfit.out.1 _ (List.mem_of_getElem? hg1)
        have hq2 := Hfit.out.2 _ (List.mem_of_getElem? hg2)
        have hqz := Hz.out _ (List.mem_of_getElem? hg1)
        have hB0 := ((Below.refl wr.heap.size wr).alloc (Nat.le_refl _) (.cells #[.string t, .int .i64 k, .string s, .slice a' n' c'] 45)).alloc (by simp) (.cells #[.string t2, .int .i64 k2, .string s2, .slice a2 n2 c2] 45)
        obtain ⟨q, hq⟩ := bool_of (((t, k, s, ks) : Ru) = (t2, k2, s2, ks2))
        have Hc := Lib.hid (ruleSameI_any q t k s ks t2 k2 s2 ks2 hq a' a2 n' n2 c' c2 _ (hks.keep fun b hb => hB0.block b hb) (hks2.keep fun b hb => hB0.block b hb) hcap hcap2 hqz ⟨hq1.2.1, by rw [← hks.1]; exact hq1.2.2.1, by rw [← hks2.1]; exact hq2.2.2.1⟩)
        have Hg := Lib.hid (And.intro hg1 (And.intro hg2 hq))
        have HB := Lib.hid (And.intro hB hB0)
        clear hg1 hg2 hks hks2 hq hq1 hq2 hqz hB hB0
        go_wp2_with fail
        refine Hc.out.mono ?_
        rintro e w1 ⟨rfl, hB1⟩
        have hBB := HB.out.1.trans ((HB.out.2.trans (hB1.mono HB.out.2.size)).mono HB.out.1.size)
        clear hB1
        cases q with
        | true =>
          go_wp2_with fail
          go_roundw
          case rel => exact ⟨j + 1, by omega, by go_num, ruTake_succ Heq.out Hg.out.1 Hg.out.2.1 (Hg.out.2.2.1 (by simp)), hBB⟩
          case measure => simp [intOf]; omega
        | false =>
          have Hrf := Lib.hid (false_of Hr.out (ruNe_of_get Hg.out.1 Hg.out.2.1 fun e => absurd (Hg.out.2.2.2 e) (by simp)))
          go_wp2_with fail
          go_ret
          exact ⟨ret_bool Hrf.out.symm, hBB⟩
      · have h3 := Heq.out
        rw [List.take_of_length_le (by have := hl1.out; omega), List.take_of_length_le (by have := hl2.out; omega)] at h3
        have Hrt := Lib.hid (Hr.out.2 h3)
        clear h3
        go_wp2_with fail
        go_ret
        exact ⟨ret_bool Hrt.out.symm, hB⟩
  · have hne' : ((n : Int) != (m : Int)) = true := by simp; omega
    have Hrf := Lib.hid (false_of Hr.out (by rintro rfl; exact hne (hl1.out.symm.trans hl2.out)))
    go_enter Tryz.func38, Tryz.ntmps38
    go_wp2_with fail
    go_ret
    exact ⟨ret_bool Hrf.out.symm, Below.refl _ _⟩

set_option maxRecDepth 100000 in
set_option maxHeartbeats 2000000 in
theorem pjSameI_any (r : Bool) (fs gs : List Fl) (rs qs : List Ru) (hr : r = true ↔ fs = gs ∧ rs = qs) (a1 a2 b1 b2 : Option Addr) (n1 n2 c1 c2 m1 m2 d1 d2 : Nat) (w : World) (hf1 : FilesAt w w.heap.size a1 n1 fs) (hf : RuP w rs a2 n2) (hg1 : FilesAt w w.heap.size b1 m1 gs) (hg : RuP w qs b2 m2) (hfit : RuFits rs) (hfit2 : RuFits qs) (hz : ∀ x ∈ rs, x.2.2.2.size ≤ 1048576) (hn1 : n1 ≤ maxLen) (hm1 : m1 ≤ maxLen) (hn : n2 ≤ maxLen) (hm : m2 ≤ maxLen) :
    Calls Tryz.prog 11 #[.agg #[.slice a1 n1 c1, .slice a2 n2 c2], .agg #[.slice b1 m1 d1, .slice b2 m2 d2]] w fun e w' => e = .returned (.bool r) ∧ Below w.heap.size w w' := by
  have B2 := ((Below.refl w.heap.size w).alloc (Nat.le_refl _) (.cells #[.slice a1 n1 c1, .slice a2 n2 c2] 26)).alloc (by simp) (.cells #[.slice b1 m1 d1, .slice b2 m2 d2] 26)
  have hP1 := (BxP.new w (.slice a1 n1 c1) (.slice a2 n2 c2) 26).alloc (.cells #[.slice b1 m1 d1, .slice b2 m2 d2] 26)
  have hP2 := BxP.new (w.alloc (.cells #[.slice a1 n1 c1, .slice a2 n2 c2] 26)) (.slice b1 m1 d1) (.slice b2 m2 d2) 26
  rw [World.size_alloc] at hP2
  have Hr := Lib.hid hr
  have HP := Lib.hid (And.intro (hf.next B2) (hg.next B2))
  have Hfit := Lib.hid (And.intro hfit (And.intro hfit2 hz))
  have HB2 := Lib.hid B2
  have Hs := Lib.hid (sameI_any a1 b1 n1 c1 m1 d1 fs gs _ ((hf1.below B2).more B2.size) ((hg1.below B2).more B2.size) hn1 hm1)
  have HBx := Lib.hid (And.intro hP1 hP2)
  clear hr hf hg hfit hfit2 hz B2 hf1 hg1 hP1 hP2
  obtain ⟨p0, p1, _, _, _⟩ := HBx.out.1.facts
  obtain ⟨q0, q1, _, _, _⟩ := HBx.out.2.facts
  go_enter Tryz.func11, Tryz.ntmps11
  go_wp2_with fail
  refine Hs.out.mono ?_
  rintro e w1 ⟨rfl, hB1⟩
  have hBB := HB2.out.trans (hB1.mono HB2.out.size)
  have hP1 := HBx.out.1.next hB1
  have hP2 := HBx.out.2.next hB1
  have H1 := Lib.hid (And.intro (HP.out.1.next hB1) (HP.out.2.next hB1))
  clear p0 p1 q0 q1 hB1
  obtain ⟨p0, p1, _, _, _⟩ := hP1.facts
  obtain ⟨q0, q1, _, _, _⟩ := hP2.facts
  by_cases he : fs = gs
  · rw [decide_eq_true he]
    have Hc := Lib.hid (equalFuncR_any r rs qs (by rw [Hr.out]; simp [he]) a2 b2 n2 c2 m2 d2 w1 H1.out.1 H1.out.2 Hfit.out.1 Hfit.out.2.1 Hfit.out.2.2 hn hm _ rfl)
    clear he
    go_wp2_with fail
    refine Hc.out.mono ?_
    rintro e w2 ⟨rfl, hB2⟩
    have hB3 := hBB.trans (hB2.mono hBB.size)
    go_wp2_with fail
    go_ret
    exact ⟨rfl, hB3⟩
  · rw [decide_eq_false he]
    have Hrf := Lib.hid (false_of Hr.out fun h => he h.1)
    clear he
    go_wp2_with fail
    go_ret
    exact ⟨ret_bool Hrf.out.symm, hBB⟩
end Go.Proofs.YtceiafncpimihaaGreat
