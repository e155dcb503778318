/-
  The law FnSetCommute, walked.
-/
import Derived.Test.YtceiafncpimihaaGreatQPjE
import Derived.Test.YtceiafncpimihaaGreatGone
import Derived.Test.YtceiafncpimihaaGreatQPrI
import Derived.Test.YtceiafncpimihaaGreatQDrawT
import Derived.Test.YtceiafncpimihaaGreatQDrawU
import Derived.Test.YtceiafncpimihaaGreatGtwo
import Derived.Deep.RegionHeld3
import Derived.Deep.DeepCutAuto
namespace Go.Proofs.YtceiafncpimihaaGreat
set_option linter.unusedVariables false
set_option linter.unusedSimpArgs false
open Go.RowKit

set_option maxRecDepth 100000 in
set_option maxHeartbeats 4000000 in
theorem walkFnSetCommute (a : Option Addr) (len cap : Nat) (zs : List Int) (b : Option Addr) (len' cap' : Nat) (zs' : List Int) (w : World) (h : IsRow .u8 w a len cap zs) (h' : IsRow .u8 w b len' cap' zs') :
    Calls Tryz.prog 7 #[.slice a len cap, .slice b len' cap'] w fun e w' => e = .returned (.bool true) ∧ Below w.heap.size w w' := by
  obtain ⟨hb, hn, hc⟩ := row_bytes h
  obtain ⟨hb2, hn2, hc2⟩ := row_bytes h'
  have hc' := Lib.hid hc
  have hc2' := Lib.hid hc2
  unfold maxLen at hc hc2
  by_cases hlong : 1048576 < len
  · go_enter Tryz.func7, Tryz.ntmps7
    go_wp2_with fail
    go_ret
    exact ⟨rfl, Below.refl _ _⟩
  by_cases hlong2 : 1048576 < len'
  · go_enter Tryz.func7, Tryz.ntmps7
    go_wp2_with fail
    go_ret
    exact ⟨rfl, Below.refl _ _⟩
  go_enter Tryz.func7, Tryz.ntmps7
  go_wp2_with fail
  refine (drawSS_any a len cap _ hb hn hc'.out).mono ?_
  rintro e w1 ⟨v1, v2, fs, rs, p, t, rfl, hof, hru, hsh, hfl, hsm, hrl, hp, ht, hB⟩
  have HB := Lib.hid hB
  obtain ⟨a1, c1, a2, c2, rfl, rfl, hcc, hnil, P, Z⟩ := pj_draw hof hru hsh hfl hsm hrl (by omega) (by omega)
  have HP := Lib.hid P
  have HZ := Lib.hid Z
  have HC := Lib.hid hcc
  have HN := Lib.hid hnil
  have HFp := Lib.hid (show p.size ≤ maxLen by unfold maxLen; omega)
  have HFt := Lib.hid (show t.size ≤ maxLen by unfold maxLen; omega)
  clear hof hru hsh hfl hsm hrl hcc hnil P Z hB
  have hA := (Below.refl w1.heap.size w1).alloc (Nat.le_refl _) (.cells #[.slice a1 fs.length c1, .slice a2 rs.length c2] 26)
  replace HB := Lib.hid (HB.out.trans (hA.mono HB.out.size))
  replace HP := Lib.hid (HP.out.next hA)
  have HX := Lib.hid (BxP.new w1 (.slice a1 fs.length c1) (.slice a2 rs.length c2) 26)
  clear hA
  have hA := (Below.refl (w1.alloc (.cells #[.slice a1 fs.length c1, .slice a2 rs.length c2] 26)).heap.size (w1.alloc (.cells #[.slice a1 fs.length c1, .slice a2 rs.length c2] 26))).alloc (Nat.le_refl _) (.cells #[.string p, .string t] 28)
  replace HB := Lib.hid (HB.out.trans (hA.mono HB.out.size))
  replace HP := Lib.hid (HP.out.next hA)
  replace HX := Lib.hid (HX.out.next hA)
  have HY := Lib.hid (BxP.new (w1.alloc (.cells #[.slice a1 fs.length c1, .slice a2 rs.length c2] 26)) (.string p) (.string t) 28)
  clear hA
  simp only [World.size_alloc] at HY
  go_upto_region 4 with (fail)
  generalize hv : (w1.alloc (.cells #[.slice a1 fs.length c1, .slice a2 rs.length c2] 26)).alloc (.cells #[.string p, .string t] 28) = v1 at *
  clear hv
  generalize w1.heap.size = gv1 at *
  obtain ⟨x0HX, x1HX, _, _, xlHX⟩ := HX.out.facts
  obtain ⟨x0HY, x1HY, _, _, xlHY⟩ := HY.out.facts
  go_wp2_with fail
  refine (drawSR_any b len' cap' _ (hb2.under HB.out) hn2 hc2'.out).mono ?_
  rintro e w2 ⟨v1, v2, fsR, rsR, tR, kR, sR, ksR, raR, rcR, rfl, hof, hru, hsh, hfl, hsm, hrl, hkk, hrc, htR, hsR, hkf, hkz, hB⟩
  clear x0HX x1HX xlHX x0HY x1HY xlHY
  replace HB := Lib.hid (HB.out.trans (hB.mono HB.out.size))
  replace HP := Lib.hid (HP.out.next hB)
  replace HX := Lib.hid (HX.out.next hB)
  replace HY := Lib.hid (HY.out.next hB)
  obtain ⟨a1R, c1R, a2R, c2R, rfl, rfl, hcc, hnil, P, Z⟩ := pj_draw hof hru hsh hfl hsm hrl (by omega) (by omega)
  have HPR := Lib.hid P
  have HZR := Lib.hid Z
  have HCR := Lib.hid hcc
  have HNR := Lib.hid hnil
  have HKR := Lib.hid (hkk.more (Nat.zero_le _) (Nat.le_refl _))
  have HKcR := Lib.hid hrc
  have HRfR := Lib.hid (show RuFit (tR, kR, sR, ksR) from ⟨by simp only [maxLen]; omega, by simp only [maxLen]; omega, by have := Fo.len_size ksR; simp only [maxLen]; omega, hkf⟩)
  have HRzR := Lib.hid (show ksR.size ≤ 1048576 by omega)
  clear hkk hrc hkf hkz
  clear hof hru hsh hfl hsm hrl hcc hnil P Z hB
  have hA := (Below.refl w2.heap.size w2).alloc (Nat.le_refl _) (.cells #[.slice a1R fsR.length c1R, .slice a2R rsR.length c2R] 26)
  replace HB := Lib.hid (HB.out.trans (hA.mono HB.out.size))
  replace HP := Lib.hid (HP.out.next hA)
  replace HX := Lib.hid (HX.out.next hA)
  replace HY := Lib.hid (HY.out.next hA)
  replace HPR := Lib.hid (HPR.out.next hA)
  replace HKR := Lib.hid (HKR.out.next hA)
  have HXR := Lib.hid (BxP.new w2 (.slice a1R fsR.length c1R) (.slice a2R rsR.length c2R) 26)
  clear hA
  have hA := (Below.refl (w2.alloc (.cells #[.slice a1R fsR.length c1R, .slice a2R rsR.length c2R] 26)).heap.size (w2.alloc (.cells #[.slice a1R fsR.length c1R, .slice a2R rsR.length c2R] 26))).alloc (Nat.le_refl _) (.cells #[.string tR, .int .i64 kR, .string sR, .slice raR ksR.len rcR] 45)
  replace HB := Lib.hid (HB.out.trans (hA.mono HB.out.size))
  replace HP := Lib.hid (HP.out.next hA)
  replace HX := Lib.hid (HX.out.next hA)
  replace HY := Lib.hid (HY.out.next hA)
  replace HPR := Lib.hid (HPR.out.next hA)
  replace HKR := Lib.hid (HKR.out.next hA)
  replace HXR := Lib.hid (HXR.out.next hA)
  have HYR := Lib.hid (BxR.new (w2.alloc (.cells #[.slice a1R fsR.length c1R, .slice a2R rsR.length c2R] 26)) tR kR sR (.slice raR ksR.len rcR) 45)
  clear hA
  simp only [World.size_alloc] at HYR
  go_upto_region 5 with (fail)
  generalize hv : (w2.alloc (.cells #[.slice a1R fsR.length c1R, .slice a2R rsR.length c2R] 26)).alloc (.cells #[.string tR, .int .i64 kR, .string sR, .slice raR ksR.len rcR] 45) = v2 at *
  clear hv
  generalize w2.heap.size = gv2 at *
  clear hb hn hc hc' h hb2 hn2 hc2 hc2' h'
  obtain ⟨⟨fsX, rsX, ok⟩, hres⟩ : ∃ r, setSrcR (p, t) fs rs = r := ⟨_, rfl⟩
  have Hres := Lib.hid hres
  have HZX := Lib.hid (setSrc_z hres)
  clear hres
  obtain ⟨x0HX, x1HX, _, _, xlHX⟩ := HX.out.facts
  obtain ⟨x0HY, x1HY, _, _, xlHY⟩ := HY.out.facts
  obtain ⟨x0HXR, x1HXR, _, _, xlHXR⟩ := HXR.out.facts
  obtain ⟨x0HYR, x1HYR, x2HYR, x3HYR, _, _, _, _, xlHYR⟩ := HYR.out.facts
  go_wp2_with fail
  refine (setSrcI_pj Hres.out HP.out HZ.out HC.out HFp.out HFt.out).mono ?_
  rintro e w3 ⟨a1X, c1X, a2X, c2X, rfl, hq, hcc, hnil, hB3⟩
  clear x0HX x1HX xlHX x0HY x1HY xlHY x0HXR x1HXR xlHXR x0HYR x1HYR x2HYR x3HYR xlHYR
  replace HB := Lib.hid (HB.out.trans (hB3.mono HB.out.size))
  replace HP := Lib.hid (HP.out.next hB3)
  replace HX := Lib.hid (HX.out.next hB3)
  replace HY := Lib.hid (HY.out.next hB3)
  replace HPR := Lib.hid (HPR.out.next hB3)
  replace HKR := Lib.hid (HKR.out.next hB3)
  replace HXR := Lib.hid (HXR.out.next hB3)
  replace HYR := Lib.hid (HYR.out.next hB3)
  clear hB3
  have HPX := Lib.hid hq
  have HCX := Lib.hid hcc
  have HNX := Lib.hid hnil
  clear hq hcc hnil
  have hA := (Below.refl w3.heap.size w3).alloc (Nat.le_refl _) (.cells #[.slice a1X fsX.length c1X, .slice a2X rsX.length c2X] 26)
  replace HB := Lib.hid (HB.out.trans (hA.mono HB.out.size))
  replace HP := Lib.hid (HP.out.next hA)
  replace HX := Lib.hid (HX.out.next hA)
  replace HY := Lib.hid (HY.out.next hA)
  replace HPR := Lib.hid (HPR.out.next hA)
  replace HKR := Lib.hid (HKR.out.next hA)
  replace HXR := Lib.hid (HXR.out.next hA)
  replace HYR := Lib.hid (HYR.out.next hA)
  replace HPX := Lib.hid (HPX.out.next hA)
  have HXX := Lib.hid (BxP.new w3 (.slice a1X fsX.length c1X) (.slice a2X rsX.length c2X) 26)
  clear hA
  go_upto_region 6 with (fail)
  generalize hv : w3.alloc (.cells #[.slice a1X fsX.length c1X, .slice a2X rsX.length c2X] 26) = v3 at *
  clear hv
  generalize w3.heap.size = gv3 at *
  obtain ⟨x0HX, x1HX, _, _, xlHX⟩ := HX.out.facts
  obtain ⟨x0HY, x1HY, _, _, xlHY⟩ := HY.out.facts
  obtain ⟨x0HXR, x1HXR, _, _, xlHXR⟩ := HXR.out.facts
  obtain ⟨x0HYR, x1HYR, x2HYR, x3HYR, _, _, _, _, xlHYR⟩ := HYR.out.facts
  obtain ⟨x0HXX, x1HXX, _, _, xlHXX⟩ := HXX.out.facts
  go_wp2_with fail
  refine (setSrcS_pj Hres.out HP.out HZ.out HFp.out HFt.out).mono ?_
  rintro e w4 ⟨a1W, c1W, a2W, c2W, rfl, hq, hcc, hnil, hB4⟩
  clear x0HX x1HX xlHX x0HY x1HY xlHY x0HXR x1HXR xlHXR x0HYR x1HYR x2HYR x3HYR xlHYR x0HXX x1HXX xlHXX
  replace HB := Lib.hid (HB.out.trans (hB4.mono HB.out.size))
  replace HP := Lib.hid (HP.out.next hB4)
  replace HX := Lib.hid (HX.out.next hB4)
  replace HY := Lib.hid (HY.out.next hB4)
  replace HPR := Lib.hid (HPR.out.next hB4)
  replace HKR := Lib.hid (HKR.out.next hB4)
  replace HXR := Lib.hid (HXR.out.next hB4)
  replace HYR := Lib.hid (HYR.out.next hB4)
  replace HPX := Lib.hid (HPX.out.next hB4)
  replace HXX := Lib.hid (HXX.out.next hB4)
  clear hB4
  have HPW := Lib.hid hq
  have HCW := Lib.hid hcc
  have HNW := Lib.hid hnil
  clear hq hcc hnil
  have hA := (Below.refl w4.heap.size w4).alloc (Nat.le_refl _) (.cells #[.slice a1W fsX.length c1W, .slice a2W rsX.length c2W] 26)
  replace HB := Lib.hid (HB.out.trans (hA.mono HB.out.size))
  replace HP := Lib.hid (HP.out.next hA)
  replace HX := Lib.hid (HX.out.next hA)
  replace HY := Lib.hid (HY.out.next hA)
  replace HPR := Lib.hid (HPR.out.next hA)
  replace HKR := Lib.hid (HKR.out.next hA)
  replace HXR := Lib.hid (HXR.out.next hA)
  replace HYR := Lib.hid (HYR.out.next hA)
  replace HPX := Lib.hid (HPX.out.next hA)
  replace HXX := Lib.hid (HXX.out.next hA)
  replace HPW := Lib.hid (HPW.out.next hA)
  have HXW := Lib.hid (BxP.new w4 (.slice a1W fsX.length c1W) (.slice a2W rsX.length c2W) 26)
  clear hA
  go_upto_region 7 with (fail)
  generalize hv : w4.alloc (.cells #[.slice a1W fsX.length c1W, .slice a2W rsX.length c2W] 26) = v4 at *
  clear hv
  generalize w4.heap.size = gv4 at *
  have hrr : (ok != ok) = false := by simp
  have hee : (ok == ok) = true := by simp
  obtain ⟨x0HX, x1HX, _, _, xlHX⟩ := HX.out.facts
  obtain ⟨x0HY, x1HY, _, _, xlHY⟩ := HY.out.facts
  obtain ⟨x0HXR, x1HXR, _, _, xlHXR⟩ := HXR.out.facts
  obtain ⟨x0HYR, x1HYR, x2HYR, x3HYR, _, _, _, _, xlHYR⟩ := HYR.out.facts
  obtain ⟨x0HXX, x1HXX, _, _, xlHXX⟩ := HXX.out.facts
  obtain ⟨x0HXW, x1HXW, _, _, xlHXW⟩ := HXW.out.facts
  go_wp2_with fail
  refine (same_pj HPX.out HPW.out HZX.out _ _ _ _).mono ?_
  rintro e w5 ⟨rfl, hB5⟩
  clear x0HX x1HX xlHX x0HY x1HY xlHY x0HXR x1HXR xlHXR x0HYR x1HYR x2HYR x3HYR xlHYR x0HXX x1HXX xlHXX x0HXW x1HXW xlHXW
  replace HB := Lib.hid (HB.out.trans (hB5.mono HB.out.size))
  replace HP := Lib.hid (HP.out.next hB5)
  replace HX := Lib.hid (HX.out.next hB5)
  replace HY := Lib.hid (HY.out.next hB5)
  replace HPR := Lib.hid (HPR.out.next hB5)
  replace HKR := Lib.hid (HKR.out.next hB5)
  replace HXR := Lib.hid (HXR.out.next hB5)
  replace HYR := Lib.hid (HYR.out.next hB5)
  replace HPX := Lib.hid (HPX.out.next hB5)
  replace HXX := Lib.hid (HXX.out.next hB5)
  replace HPW := Lib.hid (HPW.out.next hB5)
  replace HXW := Lib.hid (HXW.out.next hB5)
  clear hB5
  cases ok with
  | false =>
    clear hrr hee
    obtain ⟨x0HX, x1HX, _, _, xlHX⟩ := HX.out.facts
    obtain ⟨x0HY, x1HY, _, _, xlHY⟩ := HY.out.facts
    obtain ⟨x0HXR, x1HXR, _, _, xlHXR⟩ := HXR.out.facts
    obtain ⟨x0HYR, x1HYR, x2HYR, x3HYR, _, _, _, _, xlHYR⟩ := HYR.out.facts
    obtain ⟨x0HXX, x1HXX, _, _, xlHXX⟩ := HXX.out.facts
    obtain ⟨x0HXW, x1HXW, _, _, xlHXW⟩ := HXW.out.facts
    go_wp2_with fail
    refine (same_pj HPX.out HPW.out HZX.out _ _ _ _).mono ?_
    rintro e w6 ⟨rfl, hB6⟩
    clear x0HX x1HX xlHX x0HY x1HY xlHY x0HXR x1HXR xlHXR x0HYR x1HYR x2HYR x3HYR xlHYR x0HXX x1HXX xlHXX x0HXW x1HXW xlHXW
    replace HB := Lib.hid (HB.out.trans (hB6.mono HB.out.size))
    replace HP := Lib.hid (HP.out.next hB6)
    replace HX := Lib.hid (HX.out.next hB6)
    replace HY := Lib.hid (HY.out.next hB6)
    replace HPR := Lib.hid (HPR.out.next hB6)
    replace HKR := Lib.hid (HKR.out.next hB6)
    replace HXR := Lib.hid (HXR.out.next hB6)
    replace HYR := Lib.hid (HYR.out.next hB6)
    replace HPX := Lib.hid (HPX.out.next hB6)
    replace HXX := Lib.hid (HXX.out.next hB6)
    replace HPW := Lib.hid (HPW.out.next hB6)
    replace HXW := Lib.hid (HXW.out.next hB6)
    clear hB6
    obtain ⟨x0HX, x1HX, _, _, xlHX⟩ := HX.out.facts
    obtain ⟨x0HY, x1HY, _, _, xlHY⟩ := HY.out.facts
    obtain ⟨x0HXR, x1HXR, _, _, xlHXR⟩ := HXR.out.facts
    obtain ⟨x0HYR, x1HYR, x2HYR, x3HYR, _, _, _, _, xlHYR⟩ := HYR.out.facts
    obtain ⟨x0HXX, x1HXX, _, _, xlHXX⟩ := HXX.out.facts
    obtain ⟨x0HXW, x1HXW, _, _, xlHXW⟩ := HXW.out.facts
    go_wp2_with fail
    go_ret
    exact ⟨rfl, HB.out⟩
  | true =>
    clear hrr hee
    obtain ⟨⟨fsA, rsA, p1⟩, ha⟩ : ∃ r, setRuleR (tR, kR, sR, ksR) fsX rsX = r := ⟨_, rfl⟩
    obtain ⟨⟨fsY, rsY, p2⟩, hy⟩ : ∃ r, setRuleR (tR, kR, sR, ksR) fs rs = r := ⟨_, rfl⟩
    obtain ⟨⟨fsB, rsB, p3⟩, hbb⟩ : ∃ r, setSrcR (p, t) fsY rsY = r := ⟨_, rfl⟩
    have Hlaw := Lib.hid (commute_law Hres.out ha hy hbb)
    have Ha := Lib.hid ha
    have Hy := Lib.hid hy
    have Hb := Lib.hid hbb
    have HZA := Lib.hid (setRule_z ha)
    have HZY := Lib.hid (setRule_z hy)
    have HZB := Lib.hid (setSrc_z hbb)
    clear ha hy hbb
    obtain ⟨x0HX, x1HX, _, _, xlHX⟩ := HX.out.facts
    obtain ⟨x0HY, x1HY, _, _, xlHY⟩ := HY.out.facts
    obtain ⟨x0HXR, x1HXR, _, _, xlHXR⟩ := HXR.out.facts
    obtain ⟨x0HYR, x1HYR, x2HYR, x3HYR, _, _, _, _, xlHYR⟩ := HYR.out.facts
    obtain ⟨x0HXX, x1HXX, _, _, xlHXX⟩ := HXX.out.facts
    obtain ⟨x0HXW, x1HXW, _, _, xlHXW⟩ := HXW.out.facts
    go_wp2_with fail
    refine (setRuleI_pj Ha.out HPX.out HZX.out HCX.out HKR.out.1 HKcR.out HRfR.out HRzR.out).mono ?_
    rintro e w6 ⟨a1A, c1A, a2A, c2A, rfl, hq, hcc, hnil, hB6⟩
    clear x0HX x1HX xlHX x0HY x1HY xlHY x0HXR x1HXR xlHXR x0HYR x1HYR x2HYR x3HYR xlHYR x0HXX x1HXX xlHXX x0HXW x1HXW xlHXW
    replace HB := Lib.hid (HB.out.trans (hB6.mono HB.out.size))
    replace HP := Lib.hid (HP.out.next hB6)
    replace HX := Lib.hid (HX.out.next hB6)
    replace HY := Lib.hid (HY.out.next hB6)
    replace HPR := Lib.hid (HPR.out.next hB6)
    replace HKR := Lib.hid (HKR.out.next hB6)
    replace HXR := Lib.hid (HXR.out.next hB6)
    replace HYR := Lib.hid (HYR.out.next hB6)
    replace HPX := Lib.hid (HPX.out.next hB6)
    replace HXX := Lib.hid (HXX.out.next hB6)
    replace HPW := Lib.hid (HPW.out.next hB6)
    replace HXW := Lib.hid (HXW.out.next hB6)
    clear hB6
    have HPA := Lib.hid hq
    have HCA := Lib.hid hcc
    have HNA := Lib.hid hnil
    clear hq hcc hnil
    have hA := (Below.refl w6.heap.size w6).alloc (Nat.le_refl _) (.cells #[.slice a1A fsA.length c1A, .slice a2A rsA.length c2A] 26)
    replace HB := Lib.hid (HB.out.trans (hA.mono HB.out.size))
    replace HP := Lib.hid (HP.out.next hA)
    replace HX := Lib.hid (HX.out.next hA)
    replace HY := Lib.hid (HY.out.next hA)
    replace HPR := Lib.hid (HPR.out.next hA)
    replace HKR := Lib.hid (HKR.out.next hA)
    replace HXR := Lib.hid (HXR.out.next hA)
    replace HYR := Lib.hid (HYR.out.next hA)
    replace HPX := Lib.hid (HPX.out.next hA)
    replace HXX := Lib.hid (HXX.out.next hA)
    replace HPW := Lib.hid (HPW.out.next hA)
    replace HXW := Lib.hid (HXW.out.next hA)
    replace HPA := Lib.hid (HPA.out.next hA)
    have HXA := Lib.hid (BxP.new w6 (.slice a1A fsA.length c1A) (.slice a2A rsA.length c2A) 26)
    clear hA
    go_upto_region 10 with (fail)
    generalize hv : w6.alloc (.cells #[.slice a1A fsA.length c1A, .slice a2A rsA.length c2A] 26) = v6 at *
    clear hv
    generalize w6.heap.size = gv6 at *
    obtain ⟨x0HX, x1HX, _, _, xlHX⟩ := HX.out.facts
    obtain ⟨x0HY, x1HY, _, _, xlHY⟩ := HY.out.facts
    obtain ⟨x0HXR, x1HXR, _, _, xlHXR⟩ := HXR.out.facts
    obtain ⟨x0HYR, x1HYR, x2HYR, x3HYR, _, _, _, _, xlHYR⟩ := HYR.out.facts
    obtain ⟨x0HXX, x1HXX, _, _, xlHXX⟩ := HXX.out.facts
    obtain ⟨x0HXW, x1HXW, _, _, xlHXW⟩ := HXW.out.facts
    obtain ⟨x0HXA, x1HXA, _, _, xlHXA⟩ := HXA.out.facts
    go_wp2_with fail
    refine (setRuleI_pj Hy.out HP.out HZ.out HC.out HKR.out.1 HKcR.out HRfR.out HRzR.out).mono ?_
    rintro e w7 ⟨a1Y, c1Y, a2Y, c2Y, rfl, hq, hcc, hnil, hB7⟩
    clear x0HX x1HX xlHX x0HY x1HY xlHY x0HXR x1HXR xlHXR x0HYR x1HYR x2HYR x3HYR xlHYR x0HXX x1HXX xlHXX x0HXW x1HXW xlHXW x0HXA x1HXA xlHXA
    replace HB := Lib.hid (HB.out.trans (hB7.mono HB.out.size))
    replace HP := Lib.hid (HP.out.next hB7)
    replace HX := Lib.hid (HX.out.next hB7)
    replace HY := Lib.hid (HY.out.next hB7)
    replace HPR := Lib.hid (HPR.out.next hB7)
    replace HKR := Lib.hid (HKR.out.next hB7)
    replace HXR := Lib.hid (HXR.out.next hB7)
    replace HYR := Lib.hid (HYR.out.next hB7)
    replace HPX := Lib.hid (HPX.out.next hB7)
    replace HXX := Lib.hid (HXX.out.next hB7)
    replace HPW := Lib.hid (HPW.out.next hB7)
    replace HXW := Lib.hid (HXW.out.next hB7)
    replace HPA := Lib.hid (HPA.out.next hB7)
    replace HXA := Lib.hid (HXA.out.next hB7)
    clear hB7
    have HPY := Lib.hid hq
    have HCY := Lib.hid hcc
    have HNY := Lib.hid hnil
    clear hq hcc hnil
    have hA := (Below.refl w7.heap.size w7).alloc (Nat.le_refl _) (.cells #[.slice a1Y fsY.length c1Y, .slice a2Y rsY.length c2Y] 26)
    replace HB := Lib.hid (HB.out.trans (hA.mono HB.out.size))
    replace HP := Lib.hid (HP.out.next hA)
    replace HX := Lib.hid (HX.out.next hA)
    replace HY := Lib.hid (HY.out.next hA)
    replace HPR := Lib.hid (HPR.out.next hA)
    replace HKR := Lib.hid (HKR.out.next hA)
    replace HXR := Lib.hid (HXR.out.next hA)
    replace HYR := Lib.hid (HYR.out.next hA)
    replace HPX := Lib.hid (HPX.out.next hA)
    replace HXX := Lib.hid (HXX.out.next hA)
    replace HPW := Lib.hid (HPW.out.next hA)
    replace HXW := Lib.hid (HXW.out.next hA)
    replace HPA := Lib.hid (HPA.out.next hA)
    replace HXA := Lib.hid (HXA.out.next hA)
    replace HPY := Lib.hid (HPY.out.next hA)
    have HXY := Lib.hid (BxP.new w7 (.slice a1Y fsY.length c1Y) (.slice a2Y rsY.length c2Y) 26)
    clear hA
    go_upto_region 11 with (fail)
    generalize hv : w7.alloc (.cells #[.slice a1Y fsY.length c1Y, .slice a2Y rsY.length c2Y] 26) = v7 at *
    clear hv
    generalize w7.heap.size = gv7 at *
    obtain ⟨x0HX, x1HX, _, _, xlHX⟩ := HX.out.facts
    obtain ⟨x0HY, x1HY, _, _, xlHY⟩ := HY.out.facts
    obtain ⟨x0HXR, x1HXR, _, _, xlHXR⟩ := HXR.out.facts
    obtain ⟨x0HYR, x1HYR, x2HYR, x3HYR, _, _, _, _, xlHYR⟩ := HYR.out.facts
    obtain ⟨x0HXX, x1HXX, _, _, xlHXX⟩ := HXX.out.facts
    obtain ⟨x0HXW, x1HXW, _, _, xlHXW⟩ := HXW.out.facts
    obtain ⟨x0HXA, x1HXA, _, _, xlHXA⟩ := HXA.out.facts
    obtain ⟨x0HXY, x1HXY, _, _, xlHXY⟩ := HXY.out.facts
    go_wp2_with fail
    refine (setSrcI_pj Hb.out HPY.out HZY.out HCY.out HFp.out HFt.out).mono ?_
    rintro e w8 ⟨a1B, c1B, a2B, c2B, rfl, hq, hcc, hnil, hB8⟩
    clear x0HX x1HX xlHX x0HY x1HY xlHY x0HXR x1HXR xlHXR x0HYR x1HYR x2HYR x3HYR xlHYR x0HXX x1HXX xlHXX x0HXW x1HXW xlHXW x0HXA x1HXA xlHXA x0HXY x1HXY xlHXY
    replace HB := Lib.hid (HB.out.trans (hB8.mono HB.out.size))
    replace HP := Lib.hid (HP.out.next hB8)
    replace HX := Lib.hid (HX.out.next hB8)
    replace HY := Lib.hid (HY.out.next hB8)
    replace HPR := Lib.hid (HPR.out.next hB8)
    replace HKR := Lib.hid (HKR.out.next hB8)
    replace HXR := Lib.hid (HXR.out.next hB8)
    replace HYR := Lib.hid (HYR.out.next hB8)
    replace HPX := Lib.hid (HPX.out.next hB8)
    replace HXX := Lib.hid (HXX.out.next hB8)
    replace HPW := Lib.hid (HPW.out.next hB8)
    replace HXW := Lib.hid (HXW.out.next hB8)
    replace HPA := Lib.hid (HPA.out.next hB8)
    replace HXA := Lib.hid (HXA.out.next hB8)
    replace HPY := Lib.hid (HPY.out.next hB8)
    replace HXY := Lib.hid (HXY.out.next hB8)
    clear hB8
    have HPB := Lib.hid hq
    have HCB := Lib.hid hcc
    have HNB := Lib.hid hnil
    clear hq hcc hnil
    have hA := (Below.refl w8.heap.size w8).alloc (Nat.le_refl _) (.cells #[.slice a1B fsB.length c1B, .slice a2B rsB.length c2B] 26)
    replace HB := Lib.hid (HB.out.trans (hA.mono HB.out.size))
    replace HP := Lib.hid (HP.out.next hA)
    replace HX := Lib.hid (HX.out.next hA)
    replace HY := Lib.hid (HY.out.next hA)
    replace HPR := Lib.hid (HPR.out.next hA)
    replace HKR := Lib.hid (HKR.out.next hA)
    replace HXR := Lib.hid (HXR.out.next hA)
    replace HYR := Lib.hid (HYR.out.next hA)
    replace HPX := Lib.hid (HPX.out.next hA)
    replace HXX := Lib.hid (HXX.out.next hA)
    replace HPW := Lib.hid (HPW.out.next hA)
    replace HXW := Lib.hid (HXW.out.next hA)
    replace HPA := Lib.hid (HPA.out.next hA)
    replace HXA := Lib.hid (HXA.out.next hA)
    replace HPY := Lib.hid (HPY.out.next hA)
    replace HXY := Lib.hid (HXY.out.next hA)
    replace HPB := Lib.hid (HPB.out.next hA)
    have HXB := Lib.hid (BxP.new w8 (.slice a1B fsB.length c1B) (.slice a2B rsB.length c2B) 26)
    clear hA
    go_upto_region 12 with (fail)
    generalize hv : w8.alloc (.cells #[.slice a1B fsB.length c1B, .slice a2B rsB.length c2B] 26) = v8 at *
    clear hv
    generalize w8.heap.size = gv8 at *
    obtain ⟨hl1, hl2⟩ := Hlaw.out
    have Hl2 := Lib.hid hl2
    clear hl2 Hlaw
    cases p2 <;> cases p3
    · obtain rfl : p1 = false := hl1
      obtain ⟨x0HX, x1HX, _, _, xlHX⟩ := HX.out.facts
      obtain ⟨x0HY, x1HY, _, _, xlHY⟩ := HY.out.facts
      obtain ⟨x0HXR, x1HXR, _, _, xlHXR⟩ := HXR.out.facts
      obtain ⟨x0HYR, x1HYR, x2HYR, x3HYR, _, _, _, _, xlHYR⟩ := HYR.out.facts
      obtain ⟨x0HXX, x1HXX, _, _, xlHXX⟩ := HXX.out.facts
      obtain ⟨x0HXW, x1HXW, _, _, xlHXW⟩ := HXW.out.facts
      obtain ⟨x0HXA, x1HXA, _, _, xlHXA⟩ := HXA.out.facts
      obtain ⟨x0HXY, x1HXY, _, _, xlHXY⟩ := HXY.out.facts
      obtain ⟨x0HXB, x1HXB, _, _, xlHXB⟩ := HXB.out.facts
      go_wp2_with fail
      go_ret
      exact ⟨rfl, HB.out⟩
    · obtain rfl : p1 = false := hl1
      obtain ⟨x0HX, x1HX, _, _, xlHX⟩ := HX.out.facts
      obtain ⟨x0HY, x1HY, _, _, xlHY⟩ := HY.out.facts
      obtain ⟨x0HXR, x1HXR, _, _, xlHXR⟩ := HXR.out.facts
      obtain ⟨x0HYR, x1HYR, x2HYR, x3HYR, _, _, _, _, xlHYR⟩ := HYR.out.facts
      obtain ⟨x0HXX, x1HXX, _, _, xlHXX⟩ := HXX.out.facts
      obtain ⟨x0HXW, x1HXW, _, _, xlHXW⟩ := HXW.out.facts
      obtain ⟨x0HXA, x1HXA, _, _, xlHXA⟩ := HXA.out.facts
      obtain ⟨x0HXY, x1HXY, _, _, xlHXY⟩ := HXY.out.facts
      obtain ⟨x0HXB, x1HXB, _, _, xlHXB⟩ := HXB.out.facts
      go_wp2_with fail
      go_ret
      exact ⟨rfl, HB.out⟩
    · obtain rfl : p1 = false := hl1
      obtain ⟨x0HX, x1HX, _, _, xlHX⟩ := HX.out.facts
      obtain ⟨x0HY, x1HY, _, _, xlHY⟩ := HY.out.facts
      obtain ⟨x0HXR, x1HXR, _, _, xlHXR⟩ := HXR.out.facts
      obtain ⟨x0HYR, x1HYR, x2HYR, x3HYR, _, _, _, _, xlHYR⟩ := HYR.out.facts
      obtain ⟨x0HXX, x1HXX, _, _, xlHXX⟩ := HXX.out.facts
      obtain ⟨x0HXW, x1HXW, _, _, xlHXW⟩ := HXW.out.facts
      obtain ⟨x0HXA, x1HXA, _, _, xlHXA⟩ := HXA.out.facts
      obtain ⟨x0HXY, x1HXY, _, _, xlHXY⟩ := HXY.out.facts
      obtain ⟨x0HXB, x1HXB, _, _, xlHXB⟩ := HXB.out.facts
      go_wp2_with fail
      go_ret
      exact ⟨rfl, HB.out⟩
    · obtain rfl : p1 = true := hl1
      obtain ⟨rfl, rfl⟩ := Hl2.out rfl
      obtain ⟨x0HX, x1HX, _, _, xlHX⟩ := HX.out.facts
      obtain ⟨x0HY, x1HY, _, _, xlHY⟩ := HY.out.facts
      obtain ⟨x0HXR, x1HXR, _, _, xlHXR⟩ := HXR.out.facts
      obtain ⟨x0HYR, x1HYR, x2HYR, x3HYR, _, _, _, _, xlHYR⟩ := HYR.out.facts
      obtain ⟨x0HXX, x1HXX, _, _, xlHXX⟩ := HXX.out.facts
      obtain ⟨x0HXW, x1HXW, _, _, xlHXW⟩ := HXW.out.facts
      obtain ⟨x0HXA, x1HXA, _, _, xlHXA⟩ := HXA.out.facts
      obtain ⟨x0HXY, x1HXY, _, _, xlHXY⟩ := HXY.out.facts
      obtain ⟨x0HXB, x1HXB, _, _, xlHXB⟩ := HXB.out.facts
      go_wp2_with fail
      refine (same_pj HPA.out HPB.out HZA.out _ _ _ _).mono ?_
      rintro e w9 ⟨rfl, hB9⟩
      clear x0HX x1HX xlHX x0HY x1HY xlHY x0HXR x1HXR xlHXR x0HYR x1HYR x2HYR x3HYR xlHYR x0HXX x1HXX xlHXX x0HXW x1HXW xlHXW x0HXA x1HXA xlHXA x0HXY x1HXY xlHXY x0HXB x1HXB xlHXB
      replace HB := Lib.hid (HB.out.trans (hB9.mono HB.out.size))
      replace HP := Lib.hid (HP.out.next hB9)
      replace HX := Lib.hid (HX.out.next hB9)
      replace HY := Lib.hid (HY.out.next hB9)
      replace HPR := Lib.hid (HPR.out.next hB9)
      replace HKR := Lib.hid (HKR.out.next hB9)
      replace HXR := Lib.hid (HXR.out.next hB9)
      replace HYR := Lib.hid (HYR.out.next hB9)
      replace HPX := Lib.hid (HPX.out.next hB9)
      replace HXX := Lib.hid (HXX.out.next hB9)
      replace HPW := Lib.hid (HPW.out.next hB9)
      replace HXW := Lib.hid (HXW.out.next hB9)
      replace HPA := Lib.hid (HPA.out.next hB9)
      replace HXA := Lib.hid (HXA.out.next hB9)
      replace HPY := Lib.hid (HPY.out.next hB9)
      replace HXY := Lib.hid (HXY.out.next hB9)
      replace HPB := Lib.hid (HPB.out.next hB9)
      replace HXB := Lib.hid (HXB.out.next hB9)
      clear hB9
      obtain ⟨x0HX, x1HX, _, _, xlHX⟩ := HX.out.facts
      obtain ⟨x0HY, x1HY, _, _, xlHY⟩ := HY.out.facts
      obtain ⟨x0HXR, x1HXR, _, _, xlHXR⟩ := HXR.out.facts
      obtain ⟨x0HYR, x1HYR, x2HYR, x3HYR, _, _, _, _, xlHYR⟩ := HYR.out.facts
      obtain ⟨x0HXX, x1HXX, _, _, xlHXX⟩ := HXX.out.facts
      obtain ⟨x0HXW, x1HXW, _, _, xlHXW⟩ := HXW.out.facts
      obtain ⟨x0HXA, x1HXA, _, _, xlHXA⟩ := HXA.out.facts
      obtain ⟨x0HXY, x1HXY, _, _, xlHXY⟩ := HXY.out.facts
      obtain ⟨x0HXB, x1HXB, _, _, xlHXB⟩ := HXB.out.facts
      go_wp2_with fail
      go_ret
      exact ⟨rfl, HB.out⟩
end Go.Proofs.YtceiafncpimihaaGreat
