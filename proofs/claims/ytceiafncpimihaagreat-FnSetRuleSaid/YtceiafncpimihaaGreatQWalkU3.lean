/-
  The law FnSetRule, walked.
-/
import Derived.Test.YtceiafncpimihaaGreatQPjE
import Derived.Test.YtceiafncpimihaaGreatGone
import Derived.Test.YtceiafncpimihaaGreatQPrI
import Derived.Test.YtceiafncpimihaaGreatQDrawU
import Derived.Test.YtceiafncpimihaaGreatGtwo
import Derived.Deep.RegionHeld3
import Derived.Deep.DeepCutAuto
namespace Go.Proofs.YtceiafncpimihaaGreat
set_option linter.unusedVariables false
set_option linter.unusedSimpArgs false
open Go.RowKit

set_option maxRecDepth 100000 in
set_option maxHeartbeats 4000000 in
theorem walkFnSetRule (a : Option Addr) (len cap : Nat) (zs : List Int) (w : World) (h : IsRow .u8 w a len cap zs) :
    Calls Tryz.prog 5 #[.slice a len cap] w fun e w' => e = .returned (.bool true) ∧ Below w.heap.size w w' := by
  obtain ⟨hb, hn, hc⟩ := row_bytes h
  have hc' := Lib.hid hc
  unfold maxLen at hc
  by_cases hlong : 1048576 < len
  · go_enter Tryz.func5, Tryz.ntmps5
    go_wp2_with fail
    go_ret
    exact ⟨rfl, Below.refl _ _⟩
  go_enter Tryz.func5, Tryz.ntmps5
  go_wp2_with fail
  refine (drawSR_any a len cap _ hb hn hc'.out).mono ?_
  rintro e w1 ⟨v1, v2, fs, rs, t, k, s, ks, ra, rc, rfl, hof, hru, hsh, hfl, hsm, hrl, hkk, hrc, ht, hs, hkf, hkz, hB⟩
  have HB := Lib.hid hB
  obtain ⟨a1, c1, a2, c2, rfl, rfl, hcc, hnil, P, Z⟩ := pj_draw hof hru hsh hfl hsm hrl (by omega) (by omega)
  have HP := Lib.hid P
  have HZ := Lib.hid Z
  have HC := Lib.hid hcc
  have HN := Lib.hid hnil
  have HK := Lib.hid (hkk.more (Nat.zero_le _) (Nat.le_refl _))
  have HKc := Lib.hid hrc
  have HRf := Lib.hid (show RuFit (t, k, s, ks) from ⟨by simp only [maxLen]; omega, by simp only [maxLen]; omega, by have := Fo.len_size ks; simp only [maxLen]; omega, hkf⟩)
  have HRz := Lib.hid (show ks.size ≤ 1048576 by omega)
  clear hkk hrc hkf hkz
  clear hof hru hsh hfl hsm hrl hcc hnil P Z hB
  have hA := (Below.refl w1.heap.size w1).alloc (Nat.le_refl _) (.cells #[.slice a1 fs.length c1, .slice a2 rs.length c2] 26)
  replace HB := Lib.hid (HB.out.trans (hA.mono HB.out.size))
  replace HP := Lib.hid (HP.out.next hA)
  replace HK := Lib.hid (HK.out.next hA)
  have HX := Lib.hid (BxP.new w1 (.slice a1 fs.length c1) (.slice a2 rs.length c2) 26)
  clear hA
  have hA := (Below.refl (w1.alloc (.cells #[.slice a1 fs.length c1, .slice a2 rs.length c2] 26)).heap.size (w1.alloc (.cells #[.slice a1 fs.length c1, .slice a2 rs.length c2] 26))).alloc (Nat.le_refl _) (.cells #[.string t, .int .i64 k, .string s, .slice ra ks.len rc] 45)
  replace HB := Lib.hid (HB.out.trans (hA.mono HB.out.size))
  replace HP := Lib.hid (HP.out.next hA)
  replace HK := Lib.hid (HK.out.next hA)
  replace HX := Lib.hid (HX.out.next hA)
  have HY := Lib.hid (BxR.new (w1.alloc (.cells #[.slice a1 fs.length c1, .slice a2 rs.length c2] 26)) t k s (.slice ra ks.len rc) 45)
  clear hA
  simp only [World.size_alloc] at HY
  go_upto_region 4 with (fail)
  generalize hv : (w1.alloc (.cells #[.slice a1 fs.length c1, .slice a2 rs.length c2] 26)).alloc (.cells #[.string t, .int .i64 k, .string s, .slice ra ks.len rc] 45) = v1 at *
  clear hv
  generalize w1.heap.size = gv1 at *
  clear hb hn hc hc' h
  obtain ⟨⟨fsX, rsX, ok⟩, hres⟩ : ∃ r, setRuleR (t, k, s, ks) fs rs = r := ⟨_, rfl⟩
  have Hres := Lib.hid hres
  have HZX := Lib.hid (setRule_z hres)
  clear hres
  obtain ⟨x0HX, x1HX, _, _, xlHX⟩ := HX.out.facts
  obtain ⟨x0HY, x1HY, x2HY, x3HY, _, _, _, _, xlHY⟩ := HY.out.facts
  go_wp2_with fail
  refine (setRuleI_pj Hres.out HP.out HZ.out HC.out HK.out.1 HKc.out HRf.out HRz.out).mono ?_
  rintro e w2 ⟨a1X, c1X, a2X, c2X, rfl, hq, hcc, hnil, hB2⟩
  clear x0HX x1HX xlHX x0HY x1HY x2HY x3HY xlHY
  replace HB := Lib.hid (HB.out.trans (hB2.mono HB.out.size))
  replace HP := Lib.hid (HP.out.next hB2)
  replace HK := Lib.hid (HK.out.next hB2)
  replace HX := Lib.hid (HX.out.next hB2)
  replace HY := Lib.hid (HY.out.next hB2)
  clear hB2
  have HPX := Lib.hid hq
  have HCX := Lib.hid hcc
  have HNX := Lib.hid hnil
  clear hq hcc hnil
  have hA := (Below.refl w2.heap.size w2).alloc (Nat.le_refl _) (.cells #[.slice a1X fsX.length c1X, .slice a2X rsX.length c2X] 26)
  replace HB := Lib.hid (HB.out.trans (hA.mono HB.out.size))
  replace HP := Lib.hid (HP.out.next hA)
  replace HK := Lib.hid (HK.out.next hA)
  replace HX := Lib.hid (HX.out.next hA)
  replace HY := Lib.hid (HY.out.next hA)
  replace HPX := Lib.hid (HPX.out.next hA)
  have HXX := Lib.hid (BxP.new w2 (.slice a1X fsX.length c1X) (.slice a2X rsX.length c2X) 26)
  clear hA
  go_upto_region 5 with (fail)
  generalize hv : w2.alloc (.cells #[.slice a1X fsX.length c1X, .slice a2X rsX.length c2X] 26) = v2 at *
  clear hv
  generalize w2.heap.size = gv2 at *
  obtain ⟨x0HX, x1HX, _, _, xlHX⟩ := HX.out.facts
  obtain ⟨x0HY, x1HY, x2HY, x3HY, _, _, _, _, xlHY⟩ := HY.out.facts
  obtain ⟨x0HXX, x1HXX, _, _, xlHXX⟩ := HXX.out.facts
  go_wp2_with fail
  refine (setRuleS_pj Hres.out HP.out HZ.out HN.out HK.out.1 HKc.out HRf.out HRz.out).mono ?_
  rintro e w3 ⟨a1W, c1W, a2W, c2W, rfl, hq, hcc, hnil, hB3⟩
  clear x0HX x1HX xlHX x0HY x1HY x2HY x3HY xlHY x0HXX x1HXX xlHXX
  replace HB := Lib.hid (HB.out.trans (hB3.mono HB.out.size))
  replace HP := Lib.hid (HP.out.next hB3)
  replace HK := Lib.hid (HK.out.next hB3)
  replace HX := Lib.hid (HX.out.next hB3)
  replace HY := Lib.hid (HY.out.next hB3)
  replace HPX := Lib.hid (HPX.out.next hB3)
  replace HXX := Lib.hid (HXX.out.next hB3)
  clear hB3
  have HPW := Lib.hid hq
  have HCW := Lib.hid hcc
  have HNW := Lib.hid hnil
  clear hq hcc hnil
  have hA := (Below.refl w3.heap.size w3).alloc (Nat.le_refl _) (.cells #[.slice a1W fsX.length c1W, .slice a2W rsX.length c2W] 26)
  replace HB := Lib.hid (HB.out.trans (hA.mono HB.out.size))
  replace HP := Lib.hid (HP.out.next hA)
  replace HK := Lib.hid (HK.out.next hA)
  replace HX := Lib.hid (HX.out.next hA)
  replace HY := Lib.hid (HY.out.next hA)
  replace HPX := Lib.hid (HPX.out.next hA)
  replace HXX := Lib.hid (HXX.out.next hA)
  replace HPW := Lib.hid (HPW.out.next hA)
  have HXW := Lib.hid (BxP.new w3 (.slice a1W fsX.length c1W) (.slice a2W rsX.length c2W) 26)
  clear hA
  go_upto_region 6 with (fail)
  generalize hv : w3.alloc (.cells #[.slice a1W fsX.length c1W, .slice a2W rsX.length c2W] 26) = v3 at *
  clear hv
  generalize w3.heap.size = gv3 at *
  have hrr : (ok != ok) = false := by simp
  have hee : (ok == ok) = true := by simp
  obtain ⟨x0HX, x1HX, _, _, xlHX⟩ := HX.out.facts
  obtain ⟨x0HY, x1HY, x2HY, x3HY, _, _, _, _, xlHY⟩ := HY.out.facts
  obtain ⟨x0HXX, x1HXX, _, _, xlHXX⟩ := HXX.out.facts
  obtain ⟨x0HXW, x1HXW, _, _, xlHXW⟩ := HXW.out.facts
  go_wp2_with fail
  refine (same_pj HPX.out HPW.out HZX.out _ _ _ _).mono ?_
  rintro e w4 ⟨rfl, hB4⟩
  clear x0HX x1HX xlHX x0HY x1HY x2HY x3HY xlHY x0HXX x1HXX xlHXX x0HXW x1HXW xlHXW
  replace HB := Lib.hid (HB.out.trans (hB4.mono HB.out.size))
  replace HP := Lib.hid (HP.out.next hB4)
  replace HK := Lib.hid (HK.out.next hB4)
  replace HX := Lib.hid (HX.out.next hB4)
  replace HY := Lib.hid (HY.out.next hB4)
  replace HPX := Lib.hid (HPX.out.next hB4)
  replace HXX := Lib.hid (HXX.out.next hB4)
  replace HPW := Lib.hid (HPW.out.next hB4)
  replace HXW := Lib.hid (HXW.out.next hB4)
  clear hB4
  cases ok with
  | false =>
    clear hrr hee
    obtain ⟨x0HX, x1HX, _, _, xlHX⟩ := HX.out.facts
    obtain ⟨x0HY, x1HY, x2HY, x3HY, _, _, _, _, xlHY⟩ := HY.out.facts
    obtain ⟨x0HXX, x1HXX, _, _, xlHXX⟩ := HXX.out.facts
    obtain ⟨x0HXW, x1HXW, _, _, xlHXW⟩ := HXW.out.facts
    go_wp2_with fail
    refine (same_pj HPX.out HPW.out HZX.out _ _ _ _).mono ?_
    rintro e w5 ⟨rfl, hB5⟩
    clear x0HX x1HX xlHX x0HY x1HY x2HY x3HY xlHY x0HXX x1HXX xlHXX x0HXW x1HXW xlHXW
    replace HB := Lib.hid (HB.out.trans (hB5.mono HB.out.size))
    replace HP := Lib.hid (HP.out.next hB5)
    replace HK := Lib.hid (HK.out.next hB5)
    replace HX := Lib.hid (HX.out.next hB5)
    replace HY := Lib.hid (HY.out.next hB5)
    replace HPX := Lib.hid (HPX.out.next hB5)
    replace HXX := Lib.hid (HXX.out.next hB5)
    replace HPW := Lib.hid (HPW.out.next hB5)
    replace HXW := Lib.hid (HXW.out.next hB5)
    clear hB5
    obtain ⟨x0HX, x1HX, _, _, xlHX⟩ := HX.out.facts
    obtain ⟨x0HY, x1HY, x2HY, x3HY, _, _, _, _, xlHY⟩ := HY.out.facts
    obtain ⟨x0HXX, x1HXX, _, _, xlHXX⟩ := HXX.out.facts
    obtain ⟨x0HXW, x1HXW, _, _, xlHXW⟩ := HXW.out.facts
    go_wp2_with fail
    go_ret
    exact ⟨rfl, HB.out⟩
  | true =>
    clear hrr hee
    obtain ⟨hv, hf, hpv, rs2, hd, hsame⟩ := setRule_law Hres.out
    have Hv := Lib.hid hv
    have Hf := Lib.hid hf
    have Hd := Lib.hid hd
    have Hsame := Lib.hid hsame
    obtain ⟨⟨kB, sB, ksB, before⟩, hbf⟩ : ∃ r, findP fs rs t = r := ⟨_, rfl⟩
    have Hbf := Lib.hid hbf
    simp only [hbf] at Hsame
    clear hv hf hpv hd hsame hbf
    obtain ⟨x0HX, x1HX, _, _, xlHX⟩ := HX.out.facts
    obtain ⟨x0HY, x1HY, x2HY, x3HY, _, _, _, _, xlHY⟩ := HY.out.facts
    obtain ⟨x0HXX, x1HXX, _, _, xlHXX⟩ := HXX.out.facts
    obtain ⟨x0HXW, x1HXW, _, _, xlHXW⟩ := HXW.out.facts
    go_wp2_with fail
    refine (findRI_pj Hf.out HPX.out HZX.out HRf.out.1).mono ?_
    rintro e w5 ⟨aE, cE, rfl, hl, hk, hB5⟩
    clear x0HX x1HX xlHX x0HY x1HY x2HY x3HY xlHY x0HXX x1HXX xlHXX x0HXW x1HXW xlHXW
    replace HB := Lib.hid (HB.out.trans (hB5.mono HB.out.size))
    replace HP := Lib.hid (HP.out.next hB5)
    replace HK := Lib.hid (HK.out.next hB5)
    replace HX := Lib.hid (HX.out.next hB5)
    replace HY := Lib.hid (HY.out.next hB5)
    replace HPX := Lib.hid (HPX.out.next hB5)
    replace HXX := Lib.hid (HXX.out.next hB5)
    replace HPW := Lib.hid (HPW.out.next hB5)
    replace HXW := Lib.hid (HXW.out.next hB5)
    clear hB5
    have HKE := Lib.hid hk
    have HKcE := Lib.hid hl
    clear hk hl
    have hA := (Below.refl w5.heap.size w5).alloc (Nat.le_refl _) (.cells #[.int .i64 k, .string s, .slice aE ks.len cE] 43)
    replace HB := Lib.hid (HB.out.trans (hA.mono HB.out.size))
    replace HP := Lib.hid (HP.out.next hA)
    replace HK := Lib.hid (HK.out.next hA)
    replace HX := Lib.hid (HX.out.next hA)
    replace HY := Lib.hid (HY.out.next hA)
    replace HPX := Lib.hid (HPX.out.next hA)
    replace HXX := Lib.hid (HXX.out.next hA)
    replace HPW := Lib.hid (HPW.out.next hA)
    replace HXW := Lib.hid (HXW.out.next hA)
    replace HKE := Lib.hid (HKE.out.next hA)
    have HXE := Lib.hid (BxE.new w5 k s (.slice aE ks.len cE) 43)
    clear hA
    go_upto_region 9 with (fail)
    generalize hv : w5.alloc (.cells #[.int .i64 k, .string s, .slice aE ks.len cE] 43) = v5 at *
    clear hv
    generalize w5.heap.size = gv5 at *
    obtain ⟨x0HX, x1HX, _, _, xlHX⟩ := HX.out.facts
    obtain ⟨x0HY, x1HY, x2HY, x3HY, _, _, _, _, xlHY⟩ := HY.out.facts
    obtain ⟨x0HXX, x1HXX, _, _, xlHXX⟩ := HXX.out.facts
    obtain ⟨x0HXW, x1HXW, _, _, xlHXW⟩ := HXW.out.facts
    obtain ⟨x0HXE, x1HXE, x2HXE, _, _, _, xlHXE⟩ := HXE.out.facts
    go_wp2_with fail
    refine (findRI_pj Hbf.out HP.out HZ.out HRf.out.1).mono ?_
    rintro e w6 ⟨aB, cB, rfl, hl, hk, hB6⟩
    clear x0HX x1HX xlHX x0HY x1HY x2HY x3HY xlHY x0HXX x1HXX xlHXX x0HXW x1HXW xlHXW x0HXE x1HXE x2HXE xlHXE
    replace HB := Lib.hid (HB.out.trans (hB6.mono HB.out.size))
    replace HP := Lib.hid (HP.out.next hB6)
    replace HK := Lib.hid (HK.out.next hB6)
    replace HX := Lib.hid (HX.out.next hB6)
    replace HY := Lib.hid (HY.out.next hB6)
    replace HPX := Lib.hid (HPX.out.next hB6)
    replace HXX := Lib.hid (HXX.out.next hB6)
    replace HPW := Lib.hid (HPW.out.next hB6)
    replace HXW := Lib.hid (HXW.out.next hB6)
    replace HKE := Lib.hid (HKE.out.next hB6)
    replace HXE := Lib.hid (HXE.out.next hB6)
    clear hB6
    have HKB := Lib.hid hk
    have HKcB := Lib.hid hl
    clear hk hl
    have hA := (Below.refl w6.heap.size w6).alloc (Nat.le_refl _) (.cells #[.int .i64 kB, .string sB, .slice aB ksB.len cB] 43)
    replace HB := Lib.hid (HB.out.trans (hA.mono HB.out.size))
    replace HP := Lib.hid (HP.out.next hA)
    replace HK := Lib.hid (HK.out.next hA)
    replace HX := Lib.hid (HX.out.next hA)
    replace HY := Lib.hid (HY.out.next hA)
    replace HPX := Lib.hid (HPX.out.next hA)
    replace HXX := Lib.hid (HXX.out.next hA)
    replace HPW := Lib.hid (HPW.out.next hA)
    replace HXW := Lib.hid (HXW.out.next hA)
    replace HKE := Lib.hid (HKE.out.next hA)
    replace HXE := Lib.hid (HXE.out.next hA)
    replace HKB := Lib.hid (HKB.out.next hA)
    have HXB := Lib.hid (BxE.new w6 kB sB (.slice aB ksB.len cB) 43)
    clear hA
    go_upto_region 10 with (fail)
    generalize hv : w6.alloc (.cells #[.int .i64 kB, .string sB, .slice aB ksB.len cB] 43) = v6 at *
    clear hv
    generalize w6.heap.size = gv6 at *
    have HZ2 := Lib.hid (delRule_z Hd.out)
    obtain ⟨x0HX, x1HX, _, _, xlHX⟩ := HX.out.facts
    obtain ⟨x0HY, x1HY, x2HY, x3HY, _, _, _, _, xlHY⟩ := HY.out.facts
    obtain ⟨x0HXX, x1HXX, _, _, xlHXX⟩ := HXX.out.facts
    obtain ⟨x0HXW, x1HXW, _, _, xlHXW⟩ := HXW.out.facts
    obtain ⟨x0HXE, x1HXE, x2HXE, _, _, _, xlHXE⟩ := HXE.out.facts
    obtain ⟨x0HXB, x1HXB, x2HXB, _, _, _, xlHXB⟩ := HXB.out.facts
    go_wp2_with fail
    refine (delRuleI_pj Hd.out HPX.out HZX.out HCX.out HRf.out.1).mono ?_
    rintro e w7 ⟨a1Y, c1Y, a2Y, c2Y, rfl, hq, hcc, hnil, hB7⟩
    clear x0HX x1HX xlHX x0HY x1HY x2HY x3HY xlHY x0HXX x1HXX xlHXX x0HXW x1HXW xlHXW x0HXE x1HXE x2HXE xlHXE x0HXB x1HXB x2HXB xlHXB
    replace HB := Lib.hid (HB.out.trans (hB7.mono HB.out.size))
    replace HP := Lib.hid (HP.out.next hB7)
    replace HK := Lib.hid (HK.out.next hB7)
    replace HX := Lib.hid (HX.out.next hB7)
    replace HY := Lib.hid (HY.out.next hB7)
    replace HPX := Lib.hid (HPX.out.next hB7)
    replace HXX := Lib.hid (HXX.out.next hB7)
    replace HPW := Lib.hid (HPW.out.next hB7)
    replace HXW := Lib.hid (HXW.out.next hB7)
    replace HKE := Lib.hid (HKE.out.next hB7)
    replace HXE := Lib.hid (HXE.out.next hB7)
    replace HKB := Lib.hid (HKB.out.next hB7)
    replace HXB := Lib.hid (HXB.out.next hB7)
    clear hB7
    have HPY := Lib.hid hq
    have HCY := Lib.hid hcc
    have HNY := Lib.hid hnil
    clear hq hcc hnil
    have hA := (Below.refl w7.heap.size w7).alloc (Nat.le_refl _) (.cells #[.slice a1Y fs.length c1Y, .slice a2Y rs2.length c2Y] 26)
    replace HB := Lib.hid (HB.out.trans (hA.mono HB.out.size))
    replace HP := Lib.hid (HP.out.next hA)
    replace HK := Lib.hid (HK.out.next hA)
    replace HX := Lib.hid (HX.out.next hA)
    replace HY := Lib.hid (HY.out.next hA)
    replace HPX := Lib.hid (HPX.out.next hA)
    replace HXX := Lib.hid (HXX.out.next hA)
    replace HPW := Lib.hid (HPW.out.next hA)
    replace HXW := Lib.hid (HXW.out.next hA)
    replace HKE := Lib.hid (HKE.out.next hA)
    replace HXE := Lib.hid (HXE.out.next hA)
    replace HKB := Lib.hid (HKB.out.next hA)
    replace HXB := Lib.hid (HXB.out.next hA)
    replace HPY := Lib.hid (HPY.out.next hA)
    have HXY := Lib.hid (BxP.new w7 (.slice a1Y fs.length c1Y) (.slice a2Y rs2.length c2Y) 26)
    clear hA
    go_upto_region 11 with (fail)
    generalize hv : w7.alloc (.cells #[.slice a1Y fs.length c1Y, .slice a2Y rs2.length c2Y] 26) = v7 at *
    clear hv
    generalize w7.heap.size = gv7 at *
    obtain ⟨x0HX, x1HX, _, _, xlHX⟩ := HX.out.facts
    obtain ⟨x0HY, x1HY, x2HY, x3HY, _, _, _, _, xlHY⟩ := HY.out.facts
    obtain ⟨x0HXX, x1HXX, _, _, xlHXX⟩ := HXX.out.facts
    obtain ⟨x0HXW, x1HXW, _, _, xlHXW⟩ := HXW.out.facts
    obtain ⟨x0HXE, x1HXE, x2HXE, _, _, _, xlHXE⟩ := HXE.out.facts
    obtain ⟨x0HXB, x1HXB, x2HXB, _, _, _, xlHXB⟩ := HXB.out.facts
    obtain ⟨x0HXY, x1HXY, _, _, xlHXY⟩ := HXY.out.facts
    go_wp2_with fail
    refine (projI_any _ _ _ _ _ _ fsX rsX _ HPX.out.f HPX.out.r HZX.out.fit HZX.out.rfit HZX.out.m1 HZX.out.m2).mono ?_
    rintro e w8 ⟨rfl, hB8⟩
    clear x0HX x1HX xlHX x0HY x1HY x2HY x3HY xlHY x0HXX x1HXX xlHXX x0HXW x1HXW xlHXW x0HXE x1HXE x2HXE xlHXE x0HXB x1HXB x2HXB xlHXB x0HXY x1HXY xlHXY
    replace HB := Lib.hid (HB.out.trans (hB8.mono HB.out.size))
    replace HP := Lib.hid (HP.out.next hB8)
    replace HK := Lib.hid (HK.out.next hB8)
    replace HX := Lib.hid (HX.out.next hB8)
    replace HY := Lib.hid (HY.out.next hB8)
    replace HPX := Lib.hid (HPX.out.next hB8)
    replace HXX := Lib.hid (HXX.out.next hB8)
    replace HPW := Lib.hid (HPW.out.next hB8)
    replace HXW := Lib.hid (HXW.out.next hB8)
    replace HKE := Lib.hid (HKE.out.next hB8)
    replace HXE := Lib.hid (HXE.out.next hB8)
    replace HKB := Lib.hid (HKB.out.next hB8)
    replace HXB := Lib.hid (HXB.out.next hB8)
    replace HPY := Lib.hid (HPY.out.next hB8)
    replace HXY := Lib.hid (HXY.out.next hB8)
    clear hB8
    rw [Hv.out]
    obtain ⟨x0HX, x1HX, _, _, xlHX⟩ := HX.out.facts
    obtain ⟨x0HY, x1HY, x2HY, x3HY, _, _, _, _, xlHY⟩ := HY.out.facts
    obtain ⟨x0HXX, x1HXX, _, _, xlHXX⟩ := HXX.out.facts
    obtain ⟨x0HXW, x1HXW, _, _, xlHXW⟩ := HXW.out.facts
    obtain ⟨x0HXE, x1HXE, x2HXE, _, _, _, xlHXE⟩ := HXE.out.facts
    obtain ⟨x0HXB, x1HXB, x2HXB, _, _, _, xlHXB⟩ := HXB.out.facts
    obtain ⟨x0HXY, x1HXY, _, _, xlHXY⟩ := HXY.out.facts
    go_wp2_with fail
    refine (eqI_any true k k s s ks ks (by simp) _ _ _ _ _ _ _ HKE.out.rd HK.out.rd HKcE.out HKc.out HRz.out ⟨HRf.out.2.1, HRf.out.2.2.1, HRf.out.2.2.1⟩).mono ?_
    rintro e w9 ⟨rfl, hB9⟩
    clear x0HX x1HX xlHX x0HY x1HY x2HY x3HY xlHY x0HXX x1HXX xlHXX x0HXW x1HXW xlHXW x0HXE x1HXE x2HXE xlHXE x0HXB x1HXB x2HXB xlHXB x0HXY x1HXY xlHXY
    replace HB := Lib.hid (HB.out.trans (hB9.mono HB.out.size))
    replace HP := Lib.hid (HP.out.next hB9)
    replace HK := Lib.hid (HK.out.next hB9)
    replace HX := Lib.hid (HX.out.next hB9)
    replace HY := Lib.hid (HY.out.next hB9)
    replace HPX := Lib.hid (HPX.out.next hB9)
    replace HXX := Lib.hid (HXX.out.next hB9)
    replace HPW := Lib.hid (HPW.out.next hB9)
    replace HXW := Lib.hid (HXW.out.next hB9)
    replace HKE := Lib.hid (HKE.out.next hB9)
    replace HXE := Lib.hid (HXE.out.next hB9)
    replace HKB := Lib.hid (HKB.out.next hB9)
    replace HXB := Lib.hid (HXB.out.next hB9)
    replace HPY := Lib.hid (HPY.out.next hB9)
    replace HXY := Lib.hid (HXY.out.next hB9)
    clear hB9
    cases before with
    | true =>
      obtain ⟨x0HX, x1HX, _, _, xlHX⟩ := HX.out.facts
      obtain ⟨x0HY, x1HY, x2HY, x3HY, _, _, _, _, xlHY⟩ := HY.out.facts
      obtain ⟨x0HXX, x1HXX, _, _, xlHXX⟩ := HXX.out.facts
      obtain ⟨x0HXW, x1HXW, _, _, xlHXW⟩ := HXW.out.facts
      obtain ⟨x0HXE, x1HXE, x2HXE, _, _, _, xlHXE⟩ := HXE.out.facts
      obtain ⟨x0HXB, x1HXB, x2HXB, _, _, _, xlHXB⟩ := HXB.out.facts
      obtain ⟨x0HXY, x1HXY, _, _, xlHXY⟩ := HXY.out.facts
      go_wp2_with fail
      go_ret
      exact ⟨rfl, HB.out⟩
    | false =>
      obtain rfl := Hsame.out rfl
      obtain ⟨x0HX, x1HX, _, _, xlHX⟩ := HX.out.facts
      obtain ⟨x0HY, x1HY, x2HY, x3HY, _, _, _, _, xlHY⟩ := HY.out.facts
      obtain ⟨x0HXX, x1HXX, _, _, xlHXX⟩ := HXX.out.facts
      obtain ⟨x0HXW, x1HXW, _, _, xlHXW⟩ := HXW.out.facts
      obtain ⟨x0HXE, x1HXE, x2HXE, _, _, _, xlHXE⟩ := HXE.out.facts
      obtain ⟨x0HXB, x1HXB, x2HXB, _, _, _, xlHXB⟩ := HXB.out.facts
      obtain ⟨x0HXY, x1HXY, _, _, xlHXY⟩ := HXY.out.facts
      go_wp2_with fail
      refine (same_pj HPY.out HP.out HZ.out _ _ _ _).mono ?_
      rintro e w10 ⟨rfl, hB10⟩
      clear x0HX x1HX xlHX x0HY x1HY x2HY x3HY xlHY x0HXX x1HXX xlHXX x0HXW x1HXW xlHXW x0HXE x1HXE x2HXE xlHXE x0HXB x1HXB x2HXB xlHXB x0HXY x1HXY xlHXY
      replace HB := Lib.hid (HB.out.trans (hB10.mono HB.out.size))
      replace HP := Lib.hid (HP.out.next hB10)
      replace HK := Lib.hid (HK.out.next hB10)
      replace HX := Lib.hid (HX.out.next hB10)
      replace HY := Lib.hid (HY.out.next hB10)
      replace HPX := Lib.hid (HPX.out.next hB10)
      replace HXX := Lib.hid (HXX.out.next hB10)
      replace HPW := Lib.hid (HPW.out.next hB10)
      replace HXW := Lib.hid (HXW.out.next hB10)
      replace HKE := Lib.hid (HKE.out.next hB10)
      replace HXE := Lib.hid (HXE.out.next hB10)
      replace HKB := Lib.hid (HKB.out.next hB10)
      replace HXB := Lib.hid (HXB.out.next hB10)
      replace HPY := Lib.hid (HPY.out.next hB10)
      replace HXY := Lib.hid (HXY.out.next hB10)
      clear hB10
      obtain ⟨x0HX, x1HX, _, _, xlHX⟩ := HX.out.facts
      obtain ⟨x0HY, x1HY, x2HY, x3HY, _, _, _, _, xlHY⟩ := HY.out.facts
      obtain ⟨x0HXX, x1HXX, _, _, xlHXX⟩ := HXX.out.facts
      obtain ⟨x0HXW, x1HXW, _, _, xlHXW⟩ := HXW.out.facts
      obtain ⟨x0HXE, x1HXE, x2HXE, _, _, _, xlHXE⟩ := HXE.out.facts
      obtain ⟨x0HXB, x1HXB, x2HXB, _, _, _, xlHXB⟩ := HXB.out.facts
      obtain ⟨x0HXY, x1HXY, _, _, xlHXY⟩ := HXY.out.facts
      go_wp2_with fail
      go_ret
      exact ⟨rfl, HB.out⟩
end Go.Proofs.YtceiafncpimihaaGreat
