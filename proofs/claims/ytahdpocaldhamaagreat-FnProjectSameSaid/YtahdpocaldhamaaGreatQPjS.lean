/-
  The reference's ProjectSame.
-/
import Derived.Test.YtahdpocaldhamaaGreatQPjM
import Derived.Test.YtahdpocaldhamaaGreatQEqS
import Derived.Test.YtahdpocaldhamaaGreatQWalkSame
import Derived.BigQuiet
import Derived.Deep.RegionHeld3
namespace Go.Proofs.YtahdpocaldhamaaGreat
set_option linter.unusedVariables false
set_option linter.unusedSimpArgs false
open Go.RowKit

set_option maxRecDepth 100000 in
set_option maxHeartbeats 4000000 in
theorem pjSameS_any (r : Bool) (fs gs : List Fl) (rs qs : List Ru) (hr : r = true ↔ fs = gs ∧ rs = qs) (a1 a2 b1 b2 : Option Addr) (n1 n2 c1 c2 m1 m2 d1 d2 : Nat) (w : World) (hf1 : FilesAt w w.heap.size a1 n1 fs) (hf : RuAt w 0 w.heap.size rs a2 n2) (hg1 : FilesAt w w.heap.size b1 m1 gs) (hg : RuAt w 0 w.heap.size qs b2 m2) (hfit : RuFits rs) (hfit2 : RuFits qs) (hn1 : n1 ≤ maxLen) (hm1 : m1 ≤ maxLen) (hn : n2 ≤ maxLen) (hm : m2 ≤ maxLen) :
    Calls Tryz.prog 8 #[.agg #[.slice a1 n1 c1, .slice a2 n2 c2], .agg #[.slice b1 m1 d1, .slice b2 m2 d2]] w fun e w' => e = .returned (.bool r) ∧ Below w.heap.size w w' := by
  have B2 := ((Below.refl w.heap.size w).alloc (Nat.le_refl _) (.cells #[.slice a1 n1 c1, .slice a2 n2 c2] 26)).alloc (by simp) (.cells #[.slice b1 m1 d1, .slice b2 m2 d2] 26)
  have hP1 := (BxP.new w (.slice a1 n1 c1) (.slice a2 n2 c2) 26).alloc (.cells #[.slice b1 m1 d1, .slice b2 m2 d2] 26)
  have hP2 := BxP.new (w.alloc (.cells #[.slice a1 n1 c1, .slice a2 n2 c2] 26)) (.slice b1 m1 d1) (.slice b2 m2 d2) 26
  rw [World.size_alloc] at hP2
  have Hr := Lib.hid hr
  have HP := Lib.hid (And.intro (hf.next B2) (hg.next B2))
  have Hfit := Lib.hid (And.intro hfit hfit2)
  have HB2 := Lib.hid B2
  have Hs := Lib.hid (sameS_any a1 b1 n1 c1 m1 d1 fs gs _ ((hf1.below B2).more B2.size) ((hg1.below B2).more B2.size) hn1 hm1)
  have HBx := Lib.hid (And.intro hP1 hP2)
  have Hl := Lib.hid (And.intro hf.1 hg.1)
  have Hn := Lib.hid (And.intro hn hm)
  unfold maxLen at hn hm
  clear hr hf hg hfit hfit2 B2 hf1 hg1 hP1 hP2
  obtain ⟨p0, p1, _, _, _⟩ := HBx.out.1.facts
  obtain ⟨q0, q1, _, _, _⟩ := HBx.out.2.facts
  go_enter Tryz.func8, Tryz.ntmps8
  go_wp2_with fail
  refine Hs.out.mono ?_
  rintro e w1 ⟨rfl, hB1⟩
  have hBB := HB2.out.trans (hB1.mono HB2.out.size)
  have hP1 := HBx.out.1.next hB1
  have hP2 := HBx.out.2.next hB1
  have HBx1 := Lib.hid (And.intro hP1 hP2)
  have H1 := Lib.hid (And.intro (HP.out.1.next hB1) (HP.out.2.next hB1))
  clear p0 p1 q0 q1 hB1
  obtain ⟨p0, p1, _, _, hl1⟩ := hP1.facts
  obtain ⟨q0, q1, _, _, hl2⟩ := hP2.facts
  by_cases he : fs = gs
  case neg =>
    rw [decide_eq_false he]
    have Hrf := Lib.hid (false_of Hr.out fun h => he h.1)
    clear he
    go_wp2_with fail
    go_ret
    exact ⟨ret_bool Hrf.out.symm, hBB⟩
  case pos =>
  rw [decide_eq_true he]
  have Hr := Lib.hid (show r = true ↔ rs = qs by rw [Hr.out]; simp [he])
  clear he
  by_cases hne : n2 = m2
  case neg =>
    have hne' : ((n2 : Int) != (m2 : Int)) = true := by rw [bne_iff_ne]; omega
    have Hrf := Lib.hid (false_of Hr.out (by rintro rfl; exact hne (Hl.out.1.symm.trans Hl.out.2)))
    go_wp2_with fail
    go_ret
    exact ⟨ret_bool Hrf.out.symm, hBB⟩
  case pos =>
  have hne' : ((n2 : Int) != (m2 : Int)) = false := by rw [hne]; simp
  have Hne := Lib.hid hne
  have HBB := Lib.hid hBB
  clear hne hP1 hP2 hBB
  go_wp2_with fail
  clear p0 p1 q0 q1
  go_loopw [5] (fun i wr => ∃ j : Nat, j ≤ n2 ∧ i = .int .i64 j ∧ rs.take j = qs.take j ∧ Below w1.heap.size w1 wr) (fun i _ => n2 - (intOf i).toNat)
  case atStart => exact ⟨0, Nat.zero_le _, rfl, rfl, Below.refl _ _⟩
  case round =>
    obtain ⟨j, hj, rfl, heq, hB⟩ := hrel
    have Heq := Lib.hid heq; clear heq
    obtain ⟨p0, p1, _, _, _⟩ := (HBx1.out.1.next hB).facts
    obtain ⟨q0, q1, _, _, _⟩ := (HBx1.out.2.next hB).facts
    by_cases hlt : j < n2
    · have hlt2 : j < m2 := by have := Hne.out; omega
      obtain ⟨b1', o1, t, k, s, ks, a', n', c', rfl, _, hb1, hg1, hc0, hc1, hc2, hc3, hcap, hks⟩ := (H1.out.1.below hB).get hlt
      obtain ⟨b2', o2, t2, k2, s2, ks2, a2', n2', c2', rfl, _, hb2, hg2, hd0, hd1, hd2, hd3, hcap2, hks2⟩ := (H1.out.2.below hB).get hlt2
      have hq1 := Hfit.out.1 _ (List.mem_of_getElem? hg1)
      have hq2 := Hfit.out.2 _ (List.mem_of_getElem? hg2)
      have hj1 : (j : Int) < (n2 : Int) := by omega
      have hj2 : (j : Int) < (m2 : Int) := by omega
      have hj0 : (0 : Int) ≤ (j : Int) := by omega
      have Hg := Lib.hid (And.intro hg1 hg2)
      by_cases ht : t = t2
      case neg =>
        have htb : (t.toList == t2.toList) = false := str_ne ht
        have Hrf := Lib.hid (false_of Hr.out (ruNe_of_get hg1 hg2 fun e => ht (Prod.mk.inj e).1))
        have HB := Lib.hid (HBB.out.trans (hB.mono HBB.out.size))
        clear hg1 hg2 hks hks2 hq1 hq2 ht hB
        go_wp2_with fail
        go_quiet (fail)
        go_wp2_with fail
        go_ret
        exact ⟨ret_bool Hrf.out.symm, below_drewN HB.out _⟩
      case pos =>
      have htb : (t.toList == t2.toList) = true := by rw [ht]; simp
      have Ht := Lib.hid ht
      have hBd : Below w1.heap.size w1 wr.drew := hB.drew
      have hks' : KA wr.drew 0 wr.drew.heap.size ks a' n' := hks.keep (Nat.le_refl 0) hBd.size fun _ _ _ => rfl
      have hks2' : KA wr.drew 0 wr.drew.heap.size ks2 a2' n2' := hks2.keep (Nat.le_refl 0) hBd.size fun _ _ _ => rfl
      obtain ⟨q, hq⟩ := bool_of (k = k2 ∧ s = s2 ∧ ks = ks2)
      have Hc := Lib.hid (eqSp_any ks k k2 s s2 ks2 a' a2' n' n2' c' c2' wr.drew q hks' hks2' hq1.2.2.2 hq2.2.2.2 (by rw [← hks.1]; exact hq1.2.2.1) (by rw [← hks2.1]; exact hq2.2.2.1) hq)
      have Hq := Lib.hid hq
      have HBd := Lib.hid hBd
      clear hg1 hg2 hks hks2 hq1 hq2 ht hB hBd hks' hks2' hq
      have hw1 : w.heap.size < wr.heap.size ∧ w.heap.size + 1 < wr.heap.size ∧ b1' < wr.heap.size ∧ b2' < wr.heap.size := by have := HBd.out.size; exact ⟨Nat.lt_of_lt_of_le hl1 this, Nat.lt_of_lt_of_le hl2 this, Nat.lt_of_lt_of_le hb1 this, Nat.lt_of_lt_of_le hb2 this⟩
      have Hw1 := Lib.hid hw1
      have HC0 := Lib.hid (show (fun w' => w'.cell? ⟨w.heap.size, 1, none⟩ = some (.slice (some ⟨b1', o1, none⟩) n2 c2) ∧ w'.cell? ⟨w.heap.size + 1, 1, none⟩ = some (.slice (some ⟨b2', o2, none⟩) m2 d2) ∧ w'.cell? ⟨b1', o1 + j * 4, none⟩ = some (.string t) ∧ w'.cell? ⟨b2', o2 + j * 4, none⟩ = some (.string t2) ∧ w'.cell? ⟨b1', o1 + j * 4 + 1, none⟩ = some (.int .i64 k) ∧ w'.cell? ⟨b1', o1 + j * 4 + 2, none⟩ = some (.string s) ∧ w'.cell? ⟨b1', o1 + j * 4 + 3, none⟩ = some (.slice a' n' c') ∧ w'.cell? ⟨b2', o2 + j * 4 + 1, none⟩ = some (.int .i64 k2) ∧ w'.cell? ⟨b2', o2 + j * 4 + 2, none⟩ = some (.string s2) ∧ w'.cell? ⟨b2', o2 + j * 4 + 3, none⟩ = some (.slice a2' n2' c2')) wr from ⟨p1, q1, hc0, hd0, hc1, hc2, hc3, hd1, hd2, hd3⟩)
      have HK := Lib.hid (show ∀ w5, Below wr.drew.heap.size wr.drew w5 → (fun w' => w'.cell? ⟨w.heap.size, 1, none⟩ = some (.slice (some ⟨b1', o1, none⟩) n2 c2) ∧ w'.cell? ⟨w.heap.size + 1, 1, none⟩ = some (.slice (some ⟨b2', o2, none⟩) m2 d2) ∧ w'.cell? ⟨b1', o1 + j * 4, none⟩ = some (.string t) ∧ w'.cell? ⟨b2', o2 + j * 4, none⟩ = some (.string t2) ∧ w'.cell? ⟨b1', o1 + j * 4 + 1, none⟩ = some (.int .i64 k) ∧ w'.cell? ⟨b1', o1 + j * 4 + 2, none⟩ = some (.string s) ∧ w'.cell? ⟨b1', o1 + j * 4 + 3, none⟩ = some (.slice a' n' c') ∧ w'.cell? ⟨b2', o2 + j * 4 + 1, none⟩ = some (.int .i64 k2) ∧ w'.cell? ⟨b2', o2 + j * 4 + 2, none⟩ = some (.string s2) ∧ w'.cell? ⟨b2', o2 + j * 4 + 3, none⟩ = some (.slice a2' n2' c2')) w5 from fun w5 hB5 => by
        have e : ∀ p : Addr, p.block < wr.heap.size → w5.cell? p = wr.cell? p := fun p hp => hB5.cell (p := p) hp
        obtain ⟨x1, x2, x3, x4⟩ := hw1
        exact ⟨(e _ x1).trans p1, (e _ x2).trans q1, (e _ x3).trans hc0, (e _ x4).trans hd0, (e _ x3).trans hc1, (e _ x3).trans hc2, (e _ x3).trans hc3, (e _ x4).trans hd1, (e _ x4).trans hd2, (e _ x4).trans hd3⟩)
      clear hw1
      go_wp2_with fail
      go_region_held3 (fun w' => w'.cell? ⟨w.heap.size, 1, none⟩ = some (.slice (some ⟨b1', o1, none⟩) n2 c2) ∧ w'.cell? ⟨w.heap.size + 1, 1, none⟩ = some (.slice (some ⟨b2', o2, none⟩) m2 d2) ∧ w'.cell? ⟨b1', o1 + j * 4, none⟩ = some (.string t) ∧ w'.cell? ⟨b2', o2 + j * 4, none⟩ = some (.string t2) ∧ w'.cell? ⟨b1', o1 + j * 4 + 1, none⟩ = some (.int .i64 k) ∧ w'.cell? ⟨b1', o1 + j * 4 + 2, none⟩ = some (.string s) ∧ w'.cell? ⟨b1', o1 + j * 4 + 3, none⟩ = some (.slice a' n' c') ∧ w'.cell? ⟨b2', o2 + j * 4 + 1, none⟩ = some (.int .i64 k2) ∧ w'.cell? ⟨b2', o2 + j * 4 + 2, none⟩ = some (.string s2) ∧ w'.cell? ⟨b2', o2 + j * 4 + 3, none⟩ = some (.slice a2' n2' c2')) (first | exact HC0.out | exact HC1.out) ((go_at_call 30; refine Hc.out.mono ?_; rintro e w5 ⟨rfl, hB5⟩; have HC1 := Lib.hid (HK.out w5 hB5)))
      have hBB := HBd.out.trans (hB5.mono HBd.out.size)
      clear HC0 HC1 HK hB5 p0 p1 q0 q1 hc0 hc1 hc2 hc3 hd0 hd1 hd2 hd3
      cases q with
      | true =>
        go_wp2_with fail
        go_roundw
        case rel => exact ⟨j + 1, by omega, by go_num, ruTake_succ Heq.out Hg.out.1 Hg.out.2 (by obtain ⟨e1, e2, e3⟩ := Hq.out.1 rfl; rw [Ht.out, e1, e2, e3]), hBB⟩
        case measure => simp [intOf]; omega
      | false =>
        have Hrf := Lib.hid (false_of Hr.out (ruNe_of_get Hg.out.1 Hg.out.2 fun e => by
          simp only [Prod.mk.injEq] at e
          exact absurd (Hq.out.2 e.2) (by simp)))
        have HBf := Lib.hid (HBB.out.trans (hBB.mono HBB.out.size))
        clear hBB
        go_wp2_with fail
        go_ret
        exact ⟨ret_bool Hrf.out.symm, HBf.out⟩
    · have h3 := Heq.out
      rw [List.take_of_length_le (by have := Hl.out.1; omega), List.take_of_length_le (by have := Hl.out.2; have := Hne.out; omega)] at h3
      have Hrt := Lib.hid (Hr.out.2 h3)
      have HB := Lib.hid (HBB.out.trans (hB.mono HBB.out.size))
      clear h3 hB
      go_wp2_with fail
      go_ret
      exact ⟨ret_bool Hrt.out.symm, HB.out⟩
end Go.Proofs.YtahdpocaldhamaaGreat
