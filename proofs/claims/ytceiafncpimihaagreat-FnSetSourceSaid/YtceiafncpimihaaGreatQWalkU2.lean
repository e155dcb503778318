/-
  The law FnSetSource, walked.
-/
import Derived.Test.YtceiafncpimihaaGreatQPjE
import Derived.Test.YtceiafncpimihaaGreatGone
import Derived.Test.YtceiafncpimihaaGreatQPrI
import Derived.Test.YtceiafncpimihaaGreatQDrawT
import Derived.Test.YtceiafncpimihaaGreatGtwo
import Derived.Deep.RegionHeld3
import Derived.Deep.DeepCutAuto
namespace Go.Proofs.YtceiafncpimihaaGreat
set_option linter.unusedVariables false
set_option linter.unusedSimpArgs false
open Go.RowKit

/-- the same rules without sources -/
theorem same_rules {w : World} {fs gs : List Fl} {rs : List Ru} {a1 a2 b1 b2 : Option Addr} (P : PjA w fs rs a1 a2) (Q : PjA w gs rs b1 b2) (Z : PjZ fs rs) (c2 d2 : Nat) :
    Calls Tryz.prog 11 #[.agg #[.slice none 0 0, .slice a2 rs.length c2], .agg #[.slice none 0 0, .slice b2 rs.length d2]] w fun e w' => e = .returned (.bool true) ∧ Below w.heap.size w w' :=
  pjSameI_any true [] [] rs rs (by simp) none a2 none b2 0 rs.length 0 c2 0 rs.length 0 d2 w ⟨rfl, fun h => absurd h (by simp)⟩ P.p ⟨rfl, fun h => absurd h (by simp)⟩ Q.p Z.rfit Z.rfit Z.z.2 (Nat.zero_le _) (Nat.zero_le _) Z.m2 Z.m2

set_option maxRecDepth 100000 in
set_option maxHeartbeats 4000000 in
theorem walkFnSetSource (a : Option Addr) (len cap : Nat) (zs : List Int) (w : World) (h : IsRow .u8 w a len cap zs) :
    Calls Tryz.prog 3 #[.slice a len cap] w fun e w' => e = .returned (.bool true) ∧ Below w.heap.size w w' := by
  obtain ⟨hb, hn, hc⟩ := row_bytes h
  have hc' := Lib.hid hc
  unfold maxLen at hc
  by_cases hlong : 1048576 < len
  · go_enter Tryz.func3, Tryz.ntmps3
    go_wp2_with fail
    go_ret
    exact ⟨rfl, Below.refl _ _⟩
  go_enter Tryz.func3, Tryz.ntmps3
  go_wp2_with fail
  refine (drawSS_any a len cap _ hb hn hc'.out).mono ?_
  rintro e w1 ⟨v1, v2, fs, rs, p, t, rfl, hof, hru, hsh, hfl, hsm, hrl, hp, ht, hB⟩
  have HB := Lib.hid hB
  obtain ⟨a1, c1, a2, c2, rfl, rfl, hcc, hnil, P, Z⟩ := pj_draw hof hru hsh hfl hsm hrl (by omega) (by omega)
  have HP := Lib.hid P
  have HZ := Lib.hid Z
  have HC := Lib.hid hcc
  have HN := Lib.hid hnil
  have HFp := Lib.hid (show p.size ≤ maxLen by unfold maxLen; omega)
  have HFt := Lib.hid (show t.size ≤ maxLen by unfold maxLen; omega)
  clear hof hru hsh hfl hsm hrl hcc hnil P Z hB
  have hA := (Below.refl w1.heap.size w1).alloc (Nat.le_refl _) (.cells #[.slice a1 fs.length c1, .slice a2 rs.length c2] 26)
  replace HB := Lib.hid (HB.out.trans (hA.mono HB.out.size))
  replace HP := Lib.hid (HP.out.next hA)
  have HX := Lib.hid (BxP.new w1 (.slice a1 fs.length c1) (.slice a2 rs.length c2) 26)
  clear hA
  have hA := (Below.refl (w1.alloc (.cells #[.slice a1 fs.length c1, .slice a2 rs.length c2] 26)).heap.size (w1.alloc (.cells #[.slice a1 fs.length c1, .slice a2 rs.length c2] 26))).alloc (Nat.le_refl _) (.cells #[.string p, .string t] 28)
  replace HB := Lib.hid (HB.out.trans (hA.mono HB.out.size))
  replace HP := Lib.hid (HP.out.next hA)
  replace HX := Lib.hid (HX.out.next hA)
  have HY := Lib.hid (BxP.new (w1.alloc (.cells #[.slice a1 fs.length c1, .slice a2 rs.length c2] 26)) (.string p) (.string t) 28)
  clear hA
  simp only [World.size_alloc] at HY
  go_upto_region 4 with (fail)
  generalize hv : (w1.alloc (.cells #[.slice a1 fs.length c1, .slice a2 rs.length c2] 26)).alloc (.cells #[.string p, .string t] 28) = v1 at *
  clear hv
  generalize w1.heap.size = gv1 at *
  clear hb hn hc hc' h
  obtain ⟨⟨fsX, rsX, ok⟩, hres⟩ : ∃ r, setSrcR (p, t) fs rs = r := ⟨_, rfl⟩
  have Hres := Lib.hid hres
  have HZX := Lib.hid (setSrc_z hres)
  clear hres
  obtain ⟨x0HX, x1HX, _, _, xlHX⟩ := HX.out.facts
  obtain ⟨x0HY, x1HY, _, _, xlHY⟩ := HY.out.facts
  go_wp2_with fail
  refine (setSrcI_pj Hres.out HP.out HZ.out HC.out HFp.out HFt.out).mono ?_
  rintro e w2 ⟨a1X, c1X, a2X, c2X, rfl, hq, hcc, hnil, hB2⟩
  clear x0HX x1HX xlHX x0HY x1HY xlHY
  replace HB := Lib.hid (HB.out.trans (hB2.mono HB.out.size))
  replace HP := Lib.hid (HP.out.next hB2)
  replace HX := Lib.hid (HX.out.next hB2)
  replace HY := Lib.hid (HY.out.next hB2)
  clear hB2
  have HPX := Lib.hid hq
  have HCX := Lib.hid hcc
  have HNX := Lib.hid hnil
  clear hq hcc hnil
  have hA := (Below.refl w2.heap.size w2).alloc (Nat.le_refl _) (.cells #[.slice a1X fsX.length c1X, .slice a2X rsX.length c2X] 26)
  replace HB := Lib.hid (HB.out.trans (hA.mono HB.out.size))
  replace HP := Lib.hid (HP.out.next hA)
  replace HX := Lib.hid (HX.out.next hA)
  replace HY := Lib.hid (HY.out.next hA)
  replace HPX := Lib.hid (HPX.out.next hA)
  have HXX := Lib.hid (BxP.new w2 (.slice a1X fsX.length c1X) (.slice a2X rsX.length c2X) 26)
  clear hA
  go_upto_region 5 with (fail)
  generalize hv : w2.alloc (.cells #[.slice a1X fsX.length c1X, .slice a2X rsX.length c2X] 26) = v2 at *
  clear hv
  generalize w2.heap.size = gv2 at *
  obtain ⟨x0HX, x1HX, _, _, xlHX⟩ := HX.out.facts
  obtain ⟨x0HY, x1HY, _, _, xlHY⟩ := HY.out.facts
  obtain ⟨x0HXX, x1HXX, _, _, xlHXX⟩ := HXX.out.facts
  go_wp2_with fail
  refine (setSrcS_pj Hres.out HP.out HZ.out HFp.out HFt.out).mono ?_
  rintro e w3 ⟨a1W, c1W, a2W, c2W, rfl, hq, hcc, hnil, hB3⟩
  clear x0HX x1HX xlHX x0HY x1HY xlHY x0HXX x1HXX xlHXX
  replace HB := Lib.hid (HB.out.trans (hB3.mono HB.out.size))
  replace HP := Lib.hid (HP.out.next hB3)
  replace HX := Lib.hid (HX.out.next hB3)
  replace HY := Lib.hid (HY.out.next hB3)
  replace HPX := Lib.hid (HPX.out.next hB3)
  replace HXX := Lib.hid (HXX.out.next hB3)
  clear hB3
  have HPW := Lib.hid hq
  have HCW := Lib.hid hcc
  have HNW := Lib.hid hnil
  clear hq hcc hnil
  have hA := (Below.refl w3.heap.size w3).alloc (Nat.le_refl _) (.cells #[.slice a1W fsX.length c1W, .slice a2W rsX.length c2W] 26)
  replace HB := Lib.hid (HB.out.trans (hA.mono HB.out.size))
  replace HP := Lib.hid (HP.out.next hA)
  replace HX := Lib.hid (HX.out.next hA)
  replace HY := Lib.hid (HY.out.next hA)
  replace HPX := Lib.hid (HPX.out.next hA)
  replace HXX := Lib.hid (HXX.out.next hA)
  replace HPW := Lib.hid (HPW.out.next hA)
  have HXW := Lib.hid (BxP.new w3 (.slice a1W fsX.length c1W) (.slice a2W rsX.length c2W) 26)
  clear hA
  go_upto_region 6 with (fail)
  generalize hv : w3.alloc (.cells #[.slice a1W fsX.length c1W, .slice a2W rsX.length c2W] 26) = v3 at *
  clear hv
  generalize w3.heap.size = gv3 at *
  have hrr : (ok != ok) = false := by simp
  have hee : (ok == ok) = true := by simp
  obtain ⟨x0HX, x1HX, _, _, xlHX⟩ := HX.out.facts
  obtain ⟨x0HY, x1HY, _, _, xlHY⟩ := HY.out.facts
  obtain ⟨x0HXX, x1HXX, _, _, xlHXX⟩ := HXX.out.facts
  obtain ⟨x0HXW, x1HXW, _, _, xlHXW⟩ := HXW.out.facts
  go_wp2_with fail
  refine (same_pj HPX.out HPW.out HZX.out _ _ _ _).mono ?_
  rintro e w4 ⟨rfl, hB4⟩
  clear x0HX x1HX xlHX x0HY x1HY xlHY x0HXX x1HXX xlHXX x0HXW x1HXW xlHXW
  replace HB := Lib.hid (HB.out.trans (hB4.mono HB.out.size))
  replace HP := Lib.hid (HP.out.next hB4)
  replace HX := Lib.hid (HX.out.next hB4)
  replace HY := Lib.hid (HY.out.next hB4)
  replace HPX := Lib.hid (HPX.out.next hB4)
  replace HXX := Lib.hid (HXX.out.next hB4)
  replace HPW := Lib.hid (HPW.out.next hB4)
  replace HXW := Lib.hid (HXW.out.next hB4)
  clear hB4
  cases ok with
  | false =>
    clear hrr hee
    obtain ⟨x0HX, x1HX, _, _, xlHX⟩ := HX.out.facts
    obtain ⟨x0HY, x1HY, _, _, xlHY⟩ := HY.out.facts
    obtain ⟨x0HXX, x1HXX, _, _, xlHXX⟩ := HXX.out.facts
    obtain ⟨x0HXW, x1HXW, _, _, xlHXW⟩ := HXW.out.facts
    go_wp2_with fail
    refine (same_pj HPX.out HPW.out HZX.out _ _ _ _).mono ?_
    rintro e w5 ⟨rfl, hB5⟩
    clear x0HX x1HX xlHX x0HY x1HY xlHY x0HXX x1HXX xlHXX x0HXW x1HXW xlHXW
    replace HB := Lib.hid (HB.out.trans (hB5.mono HB.out.size))
    replace HP := Lib.hid (HP.out.next hB5)
    replace HX := Lib.hid (HX.out.next hB5)
    replace HY := Lib.hid (HY.out.next hB5)
    replace HPX := Lib.hid (HPX.out.next hB5)
    replace HXX := Lib.hid (HXX.out.next hB5)
    replace HPW := Lib.hid (HPW.out.next hB5)
    replace HXW := Lib.hid (HXW.out.next hB5)
    clear hB5
    obtain ⟨x0HX, x1HX, _, _, xlHX⟩ := HX.out.facts
    obtain ⟨x0HY, x1HY, _, _, xlHY⟩ := HY.out.facts
    obtain ⟨x0HXX, x1HXX, _, _, xlHXX⟩ := HXX.out.facts
    obtain ⟨x0HXW, x1HXW, _, _, xlHXW⟩ := HXW.out.facts
    go_wp2_with fail
    go_ret
    exact ⟨rfl, HB.out⟩
  | true =>
    clear hrr hee
    obtain ⟨hv, rfl, hf, hs⟩ := setSrc_law Hres.out
    have Hv := Lib.hid hv
    have Hf := Lib.hid hf
    have Hs := Lib.hid hs
    clear hv hf hs
    obtain ⟨x0HX, x1HX, _, _, xlHX⟩ := HX.out.facts
    obtain ⟨x0HY, x1HY, _, _, xlHY⟩ := HY.out.facts
    obtain ⟨x0HXX, x1HXX, _, _, xlHXX⟩ := HXX.out.facts
    obtain ⟨x0HXW, x1HXW, _, _, xlHXW⟩ := HXW.out.facts
    go_wp2_with fail
    refine (findI_any a1X _ c1X fsX p _ HPX.out.f HZX.out.m1).mono ?_
    rintro e w5 ⟨rfl, hB5⟩
    clear x0HX x1HX xlHX x0HY x1HY xlHY x0HXX x1HXX xlHXX x0HXW x1HXW xlHXW
    replace HB := Lib.hid (HB.out.trans (hB5.mono HB.out.size))
    replace HP := Lib.hid (HP.out.next hB5)
    replace HX := Lib.hid (HX.out.next hB5)
    replace HY := Lib.hid (HY.out.next hB5)
    replace HPX := Lib.hid (HPX.out.next hB5)
    replace HXX := Lib.hid (HXX.out.next hB5)
    replace HPW := Lib.hid (HPW.out.next hB5)
    replace HXW := Lib.hid (HXW.out.next hB5)
    clear hB5
    rw [Hf.out]
    obtain ⟨x0HX, x1HX, _, _, xlHX⟩ := HX.out.facts
    obtain ⟨x0HY, x1HY, _, _, xlHY⟩ := HY.out.facts
    obtain ⟨x0HXX, x1HXX, _, _, xlHXX⟩ := HXX.out.facts
    obtain ⟨x0HXW, x1HXW, _, _, xlHXW⟩ := HXW.out.facts
    go_wp2_with fail
    refine (setSrcI_pj Hs.out HPX.out HZX.out HCX.out HFp.out HFt.out).mono ?_
    rintro e w6 ⟨a1Y, c1Y, a2Y, c2Y, rfl, hq, hcc, hnil, hB6⟩
    clear x0HX x1HX xlHX x0HY x1HY xlHY x0HXX x1HXX xlHXX x0HXW x1HXW xlHXW
    replace HB := Lib.hid (HB.out.trans (hB6.mono HB.out.size))
    replace HP := Lib.hid (HP.out.next hB6)
    replace HX := Lib.hid (HX.out.next hB6)
    replace HY := Lib.hid (HY.out.next hB6)
    replace HPX := Lib.hid (HPX.out.next hB6)
    replace HXX := Lib.hid (HXX.out.next hB6)
    replace HPW := Lib.hid (HPW.out.next hB6)
    replace HXW := Lib.hid (HXW.out.next hB6)
    clear hB6
    have HPY := Lib.hid hq
    have HCY := Lib.hid hcc
    have HNY := Lib.hid hnil
    clear hq hcc hnil
    have hA := (Below.refl w6.heap.size w6).alloc (Nat.le_refl _) (.cells #[.slice a1Y fsX.length c1Y, .slice a2Y rsX.length c2Y] 26)
    replace HB := Lib.hid (HB.out.trans (hA.mono HB.out.size))
    replace HP := Lib.hid (HP.out.next hA)
    replace HX := Lib.hid (HX.out.next hA)
    replace HY := Lib.hid (HY.out.next hA)
    replace HPX := Lib.hid (HPX.out.next hA)
    replace HXX := Lib.hid (HXX.out.next hA)
    replace HPW := Lib.hid (HPW.out.next hA)
    replace HXW := Lib.hid (HXW.out.next hA)
    replace HPY := Lib.hid (HPY.out.next hA)
    have HXY := Lib.hid (BxP.new w6 (.slice a1Y fsX.length c1Y) (.slice a2Y rsX.length c2Y) 26)
    clear hA
    go_upto_region 10 with (fail)
    generalize hv : w6.alloc (.cells #[.slice a1Y fsX.length c1Y, .slice a2Y rsX.length c2Y] 26) = v6 at *
    clear hv
    generalize w6.heap.size = gv6 at *
    have htt : (t.toList == t.toList) = true := by simp
    obtain ⟨x0HX, x1HX, _, _, xlHX⟩ := HX.out.facts
    obtain ⟨x0HY, x1HY, _, _, xlHY⟩ := HY.out.facts
    obtain ⟨x0HXX, x1HXX, _, _, xlHXX⟩ := HXX.out.facts
    obtain ⟨x0HXW, x1HXW, _, _, xlHXW⟩ := HXW.out.facts
    obtain ⟨x0HXY, x1HXY, _, _, xlHXY⟩ := HXY.out.facts
    go_wp2_with fail
    refine (projI_any _ _ _ _ _ _ fsX rsX _ HPX.out.f HPX.out.r HZX.out.fit HZX.out.rfit HZX.out.m1 HZX.out.m2).mono ?_
    rintro e w7 ⟨rfl, hB7⟩
    clear x0HX x1HX xlHX x0HY x1HY xlHY x0HXX x1HXX xlHXX x0HXW x1HXW xlHXW x0HXY x1HXY xlHXY
    replace HB := Lib.hid (HB.out.trans (hB7.mono HB.out.size))
    replace HP := Lib.hid (HP.out.next hB7)
    replace HX := Lib.hid (HX.out.next hB7)
    replace HY := Lib.hid (HY.out.next hB7)
    replace HPX := Lib.hid (HPX.out.next hB7)
    replace HXX := Lib.hid (HXX.out.next hB7)
    replace HPW := Lib.hid (HPW.out.next hB7)
    replace HXW := Lib.hid (HXW.out.next hB7)
    replace HPY := Lib.hid (HPY.out.next hB7)
    replace HXY := Lib.hid (HXY.out.next hB7)
    clear hB7
    rw [Hv.out]
    obtain ⟨x0HX, x1HX, _, _, xlHX⟩ := HX.out.facts
    obtain ⟨x0HY, x1HY, _, _, xlHY⟩ := HY.out.facts
    obtain ⟨x0HXX, x1HXX, _, _, xlHXX⟩ := HXX.out.facts
    obtain ⟨x0HXW, x1HXW, _, _, xlHXW⟩ := HXW.out.facts
    obtain ⟨x0HXY, x1HXY, _, _, xlHXY⟩ := HXY.out.facts
    go_wp2_with fail
    refine (same_pj HPY.out HPX.out HZX.out _ _ _ _).mono ?_
    rintro e w8 ⟨rfl, hB8⟩
    clear x0HX x1HX xlHX x0HY x1HY xlHY x0HXX x1HXX xlHXX x0HXW x1HXW xlHXW x0HXY x1HXY xlHXY
    replace HB := Lib.hid (HB.out.trans (hB8.mono HB.out.size))
    replace HP := Lib.hid (HP.out.next hB8)
    replace HX := Lib.hid (HX.out.next hB8)
    replace HY := Lib.hid (HY.out.next hB8)
    replace HPX := Lib.hid (HPX.out.next hB8)
    replace HXX := Lib.hid (HXX.out.next hB8)
    replace HPW := Lib.hid (HPW.out.next hB8)
    replace HXW := Lib.hid (HXW.out.next hB8)
    replace HPY := Lib.hid (HPY.out.next hB8)
    replace HXY := Lib.hid (HXY.out.next hB8)
    clear hB8
    obtain ⟨x0HX, x1HX, _, _, xlHX⟩ := HX.out.facts
    obtain ⟨x0HY, x1HY, _, _, xlHY⟩ := HY.out.facts
    obtain ⟨x0HXX, x1HXX, _, _, xlHXX⟩ := HXX.out.facts
    obtain ⟨x0HXW, x1HXW, _, _, xlHXW⟩ := HXW.out.facts
    obtain ⟨x0HXY, x1HXY, _, _, xlHXY⟩ := HXY.out.facts
    go_wp2_with fail
    refine (same_rules HPX.out HP.out HZX.out _ _).mono ?_
    rintro e w9 ⟨rfl, hB9⟩
    clear x0HX x1HX xlHX x0HY x1HY xlHY x0HXX x1HXX xlHXX x0HXW x1HXW xlHXW x0HXY x1HXY xlHXY
    replace HB := Lib.hid (HB.out.trans (hB9.mono HB.out.size))
    replace HP := Lib.hid (HP.out.next hB9)
    replace HX := Lib.hid (HX.out.next hB9)
    replace HY := Lib.hid (HY.out.next hB9)
    replace HPX := Lib.hid (HPX.out.next hB9)
    replace HXX := Lib.hid (HXX.out.next hB9)
    replace HPW := Lib.hid (HPW.out.next hB9)
    replace HXW := Lib.hid (HXW.out.next hB9)
    replace HPY := Lib.hid (HPY.out.next hB9)
    replace HXY := Lib.hid (HXY.out.next hB9)
    clear hB9
    obtain ⟨x0HX, x1HX, _, _, xlHX⟩ := HX.out.facts
    obtain ⟨x0HY, x1HY, _, _, xlHY⟩ := HY.out.facts
    obtain ⟨x0HXX, x1HXX, _, _, xlHXX⟩ := HXX.out.facts
    obtain ⟨x0HXW, x1HXW, _, _, xlHXW⟩ := HXW.out.facts
    obtain ⟨x0HXY, x1HXY, _, _, xlHXY⟩ := HXY.out.facts
    go_wp2_with fail
    go_ret
    exact ⟨rfl, HB.out⟩
end Go.Proofs.YtceiafncpimihaaGreat
