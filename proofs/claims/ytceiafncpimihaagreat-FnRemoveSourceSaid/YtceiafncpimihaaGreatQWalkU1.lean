/-
  The law FnRemoveSource, walked.
-/
import Derived.Test.YtceiafncpimihaaGreatQPjE
import Derived.Test.YtceiafncpimihaaGreatGone
import Derived.Test.YtceiafncpimihaaGreatQPrI
import Derived.Test.YtceiafncpimihaaGreatQDrawS
import Derived.Test.YtceiafncpimihaaGreatGtwo
import Derived.Deep.RegionHeld3
import Derived.Deep.DeepCutAuto
namespace Go.Proofs.YtceiafncpimihaaGreat
set_option linter.unusedVariables false
set_option linter.unusedSimpArgs false
open Go.RowKit

set_option maxRecDepth 100000 in
set_option maxHeartbeats 4000000 in
theorem walkFnRemoveSource (a : Option Addr) (len cap : Nat) (zs : List Int) (w : World) (h : IsRow .u8 w a len cap zs) :
    Calls Tryz.prog 4 #[.slice a len cap] w fun e w' => e = .returned (.bool true) ∧ Below w.heap.size w w' := by
  obtain ⟨hb, hn, hc⟩ := row_bytes h
  have hc' := Lib.hid hc
  unfold maxLen at hc
  by_cases hlong : 1048576 < len
  · go_enter Tryz.func4, Tryz.ntmps4
    go_wp2_with fail
    go_ret
    exact ⟨rfl, Below.refl _ _⟩
  go_enter Tryz.func4, Tryz.ntmps4
  go_wp2_with fail
  refine (drawRS_any a len cap _ hb hn hc'.out).mono ?_
  rintro e w1 ⟨v1, v2, fs, rs, x, rfl, hof, hru, hsh, hfl, hsm, hrl, ht, hB⟩
  have HB := Lib.hid hB
  obtain ⟨a1, c1, a2, c2, rfl, rfl, hcc, hnil, P, Z⟩ := pj_draw hof hru hsh hfl hsm hrl (by omega) (by omega)
  have HP := Lib.hid P
  have HZ := Lib.hid Z
  have HC := Lib.hid hcc
  have HN := Lib.hid hnil
  have HXt := Lib.hid (show x.size ≤ maxLen by unfold maxLen; omega)
  clear hof hru hsh hfl hsm hrl hcc hnil P Z hB
  have hA := (Below.refl w1.heap.size w1).alloc (Nat.le_refl _) (.cells #[.slice a1 fs.length c1, .slice a2 rs.length c2] 26)
  replace HB := Lib.hid (HB.out.trans (hA.mono HB.out.size))
  replace HP := Lib.hid (HP.out.next hA)
  have HX := Lib.hid (BxP.new w1 (.slice a1 fs.length c1) (.slice a2 rs.length c2) 26)
  clear hA
  go_upto_region 4 with (fail)
  generalize hv : w1.alloc (.cells #[.slice a1 fs.length c1, .slice a2 rs.length c2] 26) = v1 at *
  clear hv
  generalize w1.heap.size = gv1 at *
  clear hb hn hc hc' h
  obtain ⟨⟨fsX, rsX, ok⟩, hres⟩ : ∃ r, delSrcR x fs rs = r := ⟨_, rfl⟩
  have Hres := Lib.hid hres
  have HZX := Lib.hid (delSrc_z hres)
  clear hres
  obtain ⟨x0HX, x1HX, _, _, xlHX⟩ := HX.out.facts
  go_wp2_with fail
  refine (delSrcI_pj Hres.out HP.out HZ.out HC.out HXt.out).mono ?_
  rintro e w2 ⟨a1X, c1X, a2X, c2X, rfl, hq, hcc, hnil, hB2⟩
  clear x0HX x1HX xlHX
  replace HB := Lib.hid (HB.out.trans (hB2.mono HB.out.size))
  replace HP := Lib.hid (HP.out.next hB2)
  replace HX := Lib.hid (HX.out.next hB2)
  clear hB2
  have HPX := Lib.hid hq
  have HCX := Lib.hid hcc
  have HNX := Lib.hid hnil
  clear hq hcc hnil
  have hA := (Below.refl w2.heap.size w2).alloc (Nat.le_refl _) (.cells #[.slice a1X fsX.length c1X, .slice a2X rsX.length c2X] 26)
  replace HB := Lib.hid (HB.out.trans (hA.mono HB.out.size))
  replace HP := Lib.hid (HP.out.next hA)
  replace HX := Lib.hid (HX.out.next hA)
  replace HPX := Lib.hid (HPX.out.next hA)
  have HXX := Lib.hid (BxP.new w2 (.slice a1X fsX.length c1X) (.slice a2X rsX.length c2X) 26)
  clear hA
  go_upto_region 5 with (fail)
  generalize hv : w2.alloc (.cells #[.slice a1X fsX.length c1X, .slice a2X rsX.length c2X] 26) = v2 at *
  clear hv
  generalize w2.heap.size = gv2 at *
  obtain ⟨x0HX, x1HX, _, _, xlHX⟩ := HX.out.facts
  obtain ⟨x0HXX, x1HXX, _, _, xlHXX⟩ := HXX.out.facts
  go_wp2_with fail
  refine (delSrcS_pj Hres.out HP.out HZ.out HXt.out).mono ?_
  rintro e w3 ⟨a1W, c1W, a2W, c2W, rfl, hq, hcc, hnil, hB3⟩
  clear x0HX x1HX xlHX x0HXX x1HXX xlHXX
  replace HB := Lib.hid (HB.out.trans (hB3.mono HB.out.size))
  replace HP := Lib.hid (HP.out.next hB3)
  replace HX := Lib.hid (HX.out.next hB3)
  replace HPX := Lib.hid (HPX.out.next hB3)
  replace HXX := Lib.hid (HXX.out.next hB3)
  clear hB3
  have HPW := Lib.hid hq
  have HCW := Lib.hid hcc
  have HNW := Lib.hid hnil
  clear hq hcc hnil
  have hA := (Below.refl w3.heap.size w3).alloc (Nat.le_refl _) (.cells #[.slice a1W fsX.length c1W, .slice a2W rsX.length c2W] 26)
  replace HB := Lib.hid (HB.out.trans (hA.mono HB.out.size))
  replace HP := Lib.hid (HP.out.next hA)
  replace HX := Lib.hid (HX.out.next hA)
  replace HPX := Lib.hid (HPX.out.next hA)
  replace HXX := Lib.hid (HXX.out.next hA)
  replace HPW := Lib.hid (HPW.out.next hA)
  have HXW := Lib.hid (BxP.new w3 (.slice a1W fsX.length c1W) (.slice a2W rsX.length c2W) 26)
  clear hA
  go_upto_region 6 with (fail)
  generalize hv : w3.alloc (.cells #[.slice a1W fsX.length c1W, .slice a2W rsX.length c2W] 26) = v3 at *
  clear hv
  generalize w3.heap.size = gv3 at *
  have hrr : (ok != ok) = false := by simp
  have hee : (ok == ok) = true := by simp
  obtain ⟨x0HX, x1HX, _, _, xlHX⟩ := HX.out.facts
  obtain ⟨x0HXX, x1HXX, _, _, xlHXX⟩ := HXX.out.facts
  obtain ⟨x0HXW, x1HXW, _, _, xlHXW⟩ := HXW.out.facts
  go_wp2_with fail
  refine (same_pj HPX.out HPW.out HZX.out _ _ _ _).mono ?_
  rintro e w4 ⟨rfl, hB4⟩
  clear x0HX x1HX xlHX x0HXX x1HXX xlHXX x0HXW x1HXW xlHXW
  replace HB := Lib.hid (HB.out.trans (hB4.mono HB.out.size))
  replace HP := Lib.hid (HP.out.next hB4)
  replace HX := Lib.hid (HX.out.next hB4)
  replace HPX := Lib.hid (HPX.out.next hB4)
  replace HXX := Lib.hid (HXX.out.next hB4)
  replace HPW := Lib.hid (HPW.out.next hB4)
  replace HXW := Lib.hid (HXW.out.next hB4)
  clear hB4
  cases ok with
  | false =>
    clear hrr hee
    obtain ⟨x0HX, x1HX, _, _, xlHX⟩ := HX.out.facts
    obtain ⟨x0HXX, x1HXX, _, _, xlHXX⟩ := HXX.out.facts
    obtain ⟨x0HXW, x1HXW, _, _, xlHXW⟩ := HXW.out.facts
    go_wp2_with fail
    refine (same_pj HPX.out HPW.out HZX.out _ _ _ _).mono ?_
    rintro e w5 ⟨rfl, hB5⟩
    clear x0HX x1HX xlHX x0HXX x1HXX xlHXX x0HXW x1HXW xlHXW
    replace HB := Lib.hid (HB.out.trans (hB5.mono HB.out.size))
    replace HP := Lib.hid (HP.out.next hB5)
    replace HX := Lib.hid (HX.out.next hB5)
    replace HPX := Lib.hid (HPX.out.next hB5)
    replace HXX := Lib.hid (HXX.out.next hB5)
    replace HPW := Lib.hid (HPW.out.next hB5)
    replace HXW := Lib.hid (HXW.out.next hB5)
    clear hB5
    obtain ⟨x0HX, x1HX, _, _, xlHX⟩ := HX.out.facts
    obtain ⟨x0HXX, x1HXX, _, _, xlHXX⟩ := HXX.out.facts
    obtain ⟨x0HXW, x1HXW, _, _, xlHXW⟩ := HXW.out.facts
    go_wp2_with fail
    go_ret
    exact ⟨rfl, HB.out⟩
  | true =>
    clear hrr hee
    obtain ⟨t2, hf, ht2, hpv, hs⟩ := delSrc_law Hres.out
    have Hf := Lib.hid hf
    have Hs := Lib.hid hs
    have Ht2 := Lib.hid (show t2.size ≤ maxLen by unfold maxLen; omega)
    clear hf hs ht2 hpv
    obtain ⟨x0HX, x1HX, _, _, xlHX⟩ := HX.out.facts
    obtain ⟨x0HXX, x1HXX, _, _, xlHXX⟩ := HXX.out.facts
    obtain ⟨x0HXW, x1HXW, _, _, xlHXW⟩ := HXW.out.facts
    go_wp2_with fail
    refine (findI_any a1 _ c1 fs x _ HP.out.f HZ.out.m1).mono ?_
    rintro e w5 ⟨rfl, hB5⟩
    clear x0HX x1HX xlHX x0HXX x1HXX xlHXX x0HXW x1HXW xlHXW
    replace HB := Lib.hid (HB.out.trans (hB5.mono HB.out.size))
    replace HP := Lib.hid (HP.out.next hB5)
    replace HX := Lib.hid (HX.out.next hB5)
    replace HPX := Lib.hid (HPX.out.next hB5)
    replace HXX := Lib.hid (HXX.out.next hB5)
    replace HPW := Lib.hid (HPW.out.next hB5)
    replace HXW := Lib.hid (HXW.out.next hB5)
    clear hB5
    rw [Hf.out]
    obtain ⟨x0HX, x1HX, _, _, xlHX⟩ := HX.out.facts
    obtain ⟨x0HXX, x1HXX, _, _, xlHXX⟩ := HXX.out.facts
    obtain ⟨x0HXW, x1HXW, _, _, xlHXW⟩ := HXW.out.facts
    go_wp2_with fail
    refine (setSrcI_pj Hs.out HPX.out HZX.out HCX.out HXt.out Ht2.out).mono ?_
    rintro e w6 ⟨a1Y, c1Y, a2Y, c2Y, rfl, hq, hcc, hnil, hB6⟩
    clear x0HX x1HX xlHX x0HXX x1HXX xlHXX x0HXW x1HXW xlHXW
    replace HB := Lib.hid (HB.out.trans (hB6.mono HB.out.size))
    replace HP := Lib.hid (HP.out.next hB6)
    replace HX := Lib.hid (HX.out.next hB6)
    replace HPX := Lib.hid (HPX.out.next hB6)
    replace HXX := Lib.hid (HXX.out.next hB6)
    replace HPW := Lib.hid (HPW.out.next hB6)
    replace HXW := Lib.hid (HXW.out.next hB6)
    clear hB6
    have HPY := Lib.hid hq
    have HCY := Lib.hid hcc
    have HNY := Lib.hid hnil
    clear hq hcc hnil
    have hA := (Below.refl w6.heap.size w6).alloc (Nat.le_refl _) (.cells #[.slice a1Y fs.length c1Y, .slice a2Y rs.length c2Y] 26)
    replace HB := Lib.hid (HB.out.trans (hA.mono HB.out.size))
    replace HP := Lib.hid (HP.out.next hA)
    replace HX := Lib.hid (HX.out.next hA)
    replace HPX := Lib.hid (HPX.out.next hA)
    replace HXX := Lib.hid (HXX.out.next hA)
    replace HPW := Lib.hid (HPW.out.next hA)
    replace HXW := Lib.hid (HXW.out.next hA)
    replace HPY := Lib.hid (HPY.out.next hA)
    have HXY := Lib.hid (BxP.new w6 (.slice a1Y fs.length c1Y) (.slice a2Y rs.length c2Y) 26)
    clear hA
    go_upto_region 10 with (fail)
    generalize hv : w6.alloc (.cells #[.slice a1Y fs.length c1Y, .slice a2Y rs.length c2Y] 26) = v6 at *
    clear hv
    generalize w6.heap.size = gv6 at *
    obtain ⟨x0HX, x1HX, _, _, xlHX⟩ := HX.out.facts
    obtain ⟨x0HXX, x1HXX, _, _, xlHXX⟩ := HXX.out.facts
    obtain ⟨x0HXW, x1HXW, _, _, xlHXW⟩ := HXW.out.facts
    obtain ⟨x0HXY, x1HXY, _, _, xlHXY⟩ := HXY.out.facts
    go_wp2_with fail
    refine (same_pj HPY.out HP.out HZ.out _ _ _ _).mono ?_
    rintro e w7 ⟨rfl, hB7⟩
    clear x0HX x1HX xlHX x0HXX x1HXX xlHXX x0HXW x1HXW xlHXW x0HXY x1HXY xlHXY
    replace HB := Lib.hid (HB.out.trans (hB7.mono HB.out.size))
    replace HP := Lib.hid (HP.out.next hB7)
    replace HX := Lib.hid (HX.out.next hB7)
    replace HPX := Lib.hid (HPX.out.next hB7)
    replace HXX := Lib.hid (HXX.out.next hB7)
    replace HPW := Lib.hid (HPW.out.next hB7)
    replace HXW := Lib.hid (HXW.out.next hB7)
    replace HPY := Lib.hid (HPY.out.next hB7)
    replace HXY := Lib.hid (HXY.out.next hB7)
    clear hB7
    obtain ⟨x0HX, x1HX, _, _, xlHX⟩ := HX.out.facts
    obtain ⟨x0HXX, x1HXX, _, _, xlHXX⟩ := HXX.out.facts
    obtain ⟨x0HXW, x1HXW, _, _, xlHXW⟩ := HXW.out.facts
    obtain ⟨x0HXY, x1HXY, _, _, xlHXY⟩ := HXY.out.facts
    go_wp2_with fail
    go_ret
    exact ⟨rfl, HB.out⟩
end Go.Proofs.YtceiafncpimihaaGreat
