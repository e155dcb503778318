/-
  The law FnProjectSame, walked.
-/
import Derived.Test.YtahdpocaldhamaaGreatQPjA
import Derived.Test.YtahdpocaldhamaaGreatGtwo
import Derived.Test.YtahdpocaldhamaaGreatQPjI
import Derived.Test.YtahdpocaldhamaaGreatQPjS
import Derived.Test.YtahdpocaldhamaaGreatQFmPI
import Derived.Test.YtahdpocaldhamaaGreatQDrawP2
import Derived.Test.YtahdpocaldhamaaGreatQRow
import Derived.Deep.RegionHeld3
import Derived.Deep.DeepCutAuto
namespace Go.Proofs.YtahdpocaldhamaaGreat
set_option linter.unusedVariables false
set_option linter.unusedSimpArgs false
open Go.RowKit

/-- two projects in their boxes -/
structure Pr2 (w0 w : World) (g h : Nat) (fs gs : List Fl) (rs qs : List Ru) (a1 a2 b1 b2 : Option Addr) (c1 c2 d1 d2 : Nat) : Prop where
  x : BxP w g (.slice a1 fs.length c1) (.slice a2 rs.length c2) 26
  y : BxP w h (.slice b1 gs.length d1) (.slice b2 qs.length d2) 26
  p : PjA w fs rs a1 a2
  q : PjA w gs qs b1 b2
  b : Below w0.heap.size w0 w
section
variable {w0 w w' : World} {g h : Nat} {fs gs : List Fl} {rs qs : List Ru} {a1 a2 b1 b2 : Option Addr} {c1 c2 d1 d2 : Nat}
theorem Pr2.next (k : Pr2 w0 w g h fs gs rs qs a1 a2 b1 b2 c1 c2 d1 d2) (hB : Below w.heap.size w w') : Pr2 w0 w' g h fs gs rs qs a1 a2 b1 b2 c1 c2 d1 d2 :=
  ⟨k.x.next hB, k.y.next hB, k.p.next hB, k.q.next hB, k.b.trans (hB.mono k.b.size)⟩
theorem Pr2.four (k : Pr2 w0 w g h fs gs rs qs a1 a2 b1 b2 c1 c2 d1 d2) : w.cell? ⟨g, 0, none⟩ = some (.slice a1 fs.length c1) ∧ w.cell? ⟨g, 1, none⟩ = some (.slice a2 rs.length c2) ∧ w.cell? ⟨h, 0, none⟩ = some (.slice b1 gs.length d1) ∧ w.cell? ⟨h, 1, none⟩ = some (.slice b2 qs.length d2) :=
  ⟨k.x.facts.1, k.x.facts.2.1, k.y.facts.1, k.y.facts.2.1⟩
end

set_option maxRecDepth 100000 in
set_option maxHeartbeats 4000000 in
theorem walkFnProjectSame (a : Option Addr) (len cap : Nat) (zs : List Int) (w : World) (h : IsRow .u8 w a len cap zs) :
    Calls Tryz.prog 3 #[.slice a len cap] w fun e w' => e = .returned (.bool true) ∧ Below w.heap.size w w' := by
  obtain ⟨hb, hn, hc⟩ := row_bytes h
  have hc' := Lib.hid hc
  unfold maxLen at hc
  by_cases hlong : 1048576 < len
  · go_enter Tryz.func3, Tryz.ntmps3
    go_wp2_with fail
    go_ret
    exact ⟨rfl, Below.refl _ _⟩
  go_enter Tryz.func3, Tryz.ntmps3
  go_wp2_with fail
  refine (drawPS_any a len cap w hb hn hc'.out).mono ?_
  rintro e w1 ⟨v1, v2, fs, rs, v3, v4, gs, qs, rfl, ⟨hof, hru, hsh, hfl, hsm, hrl⟩, ⟨hog, hrv, hsh2, hfl2, hsm2, hrl2⟩, hB1⟩
  obtain ⟨a1, c1, a2, c2, rfl, rfl, hcc, hnil, P1, Z1⟩ := pj_draw hof hru hsh hfl hsm hrl (by omega) (by omega)
  obtain ⟨b1, d1, b2, d2, rfl, rfl, hdd, hnil2, Q1, Z2⟩ := pj_draw hog hrv hsh2 hfl2 hsm2 hrl2 (by omega) (by omega)
  have hX := (BxP.new w1 (.slice a1 fs.length c1) (.slice a2 rs.length c2) 26).alloc (.cells #[.slice b1 gs.length d1, .slice b2 qs.length d2] 26)
  have hY := BxP.new (w1.alloc (.cells #[.slice a1 fs.length c1, .slice a2 rs.length c2] 26)) (.slice b1 gs.length d1) (.slice b2 qs.length d2) 26
  rw [World.size_alloc] at hY
  have HS2 := Lib.hid (show Pr2 w ((w1.alloc (.cells #[.slice a1 fs.length c1, .slice a2 rs.length c2] 26)).alloc (.cells #[.slice b1 gs.length d1, .slice b2 qs.length d2] 26)) w1.heap.size (w1.heap.size + 1) fs gs rs qs a1 a2 b1 b2 c1 c2 d1 d2 from
    ⟨hX, hY, (P1.al _).al _, (Q1.al _).al _, (hB1.alloc hB1.size _).alloc (by have := hB1.size; simp; omega) _⟩)
  have HZ := Lib.hid (And.intro Z1 Z2)
  obtain ⟨r, hr⟩ := bool_of (fs = gs ∧ rs = qs)
  have Hr := Lib.hid hr
  have Hr' := Lib.hid (show r = true ↔ gs = fs ∧ qs = rs from hr.trans ⟨fun h => ⟨h.1.symm, h.2.symm⟩, fun h => ⟨h.1.symm, h.2.symm⟩⟩)
  obtain ⟨s1, hs1⟩ : ∃ z, fmtP fs rs = z := ⟨_, rfl⟩
  obtain ⟨s2, hs2⟩ : ∃ z, fmtP gs qs = z := ⟨_, rfl⟩
  have hlaw := fmtP_law hr
  rw [hs1, hs2] at hlaw
  have Hl := Lib.hid hlaw
  have Hs := Lib.hid (And.intro hs1 hs2)
  clear hof hru hsh hfl hsm hrl hog hrv hsh2 hfl2 hsm2 hrl2 hcc hnil hdd hnil2 P1 Q1 Z1 Z2 hX hY hb hn hc hc' h hB1 hr hlaw hs1 hs2
  go_upto_region 4 with (fail)
  generalize hv2 : (w1.alloc (.cells #[.slice a1 fs.length c1, .slice a2 rs.length c2] 26)).alloc (.cells #[.slice b1 gs.length d1, .slice b2 qs.length d2] 26) = w2 at *
  clear hv2
  obtain ⟨x0, x1, y0, y1⟩ := HS2.out.four
  go_wp2_with fail
  refine (pjSameI_any r fs gs rs qs Hr.out _ _ _ _ _ _ _ _ _ _ _ _ w2 HS2.out.p.f HS2.out.p.p HS2.out.q.f HS2.out.q.p HZ.out.1.rfit HZ.out.2.rfit HZ.out.1.z.2 HZ.out.1.m1 HZ.out.2.m1 HZ.out.1.m2 HZ.out.2.m2).mono ?_
  rintro e w3 ⟨rfl, hB3⟩
  have HS3 := Lib.hid (HS2.out.next hB3)
  clear x0 x1 y0 y1 hB3 HS2
  obtain ⟨x0, x1, y0, y1⟩ := HS3.out.four
  have hrr : (r != r) = false := by simp
  go_wp2_with fail
  refine (pjSameS_any r fs gs rs qs Hr.out _ _ _ _ _ _ _ _ _ _ _ _ w3 HS3.out.p.f HS3.out.p.r HS3.out.q.f HS3.out.q.r HZ.out.1.rfit HZ.out.2.rfit HZ.out.1.m1 HZ.out.2.m1 HZ.out.1.m2 HZ.out.2.m2).mono ?_
  rintro e w4 ⟨rfl, hB4⟩
  have HS4 := Lib.hid (HS3.out.next hB4)
  clear x0 x1 y0 y1 hB4 HS3
  obtain ⟨x0, x1, y0, y1⟩ := HS4.out.four
  go_wp2_with fail
  refine (pjSameI_any r gs fs qs rs Hr'.out _ _ _ _ _ _ _ _ _ _ _ _ w4 HS4.out.q.f HS4.out.q.p HS4.out.p.f HS4.out.p.p HZ.out.2.rfit HZ.out.1.rfit HZ.out.2.z.2 HZ.out.2.m1 HZ.out.1.m1 HZ.out.2.m2 HZ.out.1.m2).mono ?_
  rintro e w5 ⟨rfl, hB5⟩
  have HS5 := Lib.hid (HS4.out.next hB5)
  clear x0 x1 y0 y1 hB5 HS4
  obtain ⟨x0, x1, y0, y1⟩ := HS5.out.four
  go_wp2_with fail
  refine (pjSameI_any true fs fs rs rs (by simp) _ _ _ _ _ _ _ _ _ _ _ _ w5 HS5.out.p.f HS5.out.p.p HS5.out.p.f HS5.out.p.p HZ.out.1.rfit HZ.out.1.rfit HZ.out.1.z.2 HZ.out.1.m1 HZ.out.1.m1 HZ.out.1.m2 HZ.out.1.m2).mono ?_
  rintro e w6 ⟨rfl, hB6⟩
  have HS6 := Lib.hid (HS5.out.next hB6)
  clear x0 x1 y0 y1 hB6 HS5
  obtain ⟨x0, x1, y0, y1⟩ := HS6.out.four
  go_wp2_with fail
  refine (fmtPI_any _ _ _ _ _ _ fs rs w6 HS6.out.p.f HS6.out.p.r HZ.out.1.fit HZ.out.1.rfit HZ.out.1.m1 HZ.out.1.m2).mono ?_
  rintro e w7 ⟨rfl, hB7⟩
  have HS7 := Lib.hid (HS6.out.next hB7)
  clear x0 x1 y0 y1 hB7 HS6
  obtain ⟨x0, x1, y0, y1⟩ := HS7.out.four
  rw [Hs.out.1]
  go_wp2_with fail
  refine (fmtPI_any _ _ _ _ _ _ gs qs w7 HS7.out.q.f HS7.out.q.r HZ.out.2.fit HZ.out.2.rfit HZ.out.2.m1 HZ.out.2.m2).mono ?_
  rintro e w8 ⟨rfl, hB8⟩
  have B8 := (HS7.out.next hB8).b
  clear x0 x1 y0 y1 hB8 HS7 hrr
  rw [Hs.out.2]
  have HV : (s1.toList.isEmpty || s2.toList.isEmpty || r == (s1.toList == s2.toList)) = true := by
    rcases Hl.out with h | h | h
    · rw [h, show ByteArray.empty.toList = [] from by rw [Lib.toList_data]; rfl]; rfl
    · rw [h, show ByteArray.empty.toList = [] from by rw [Lib.toList_data]; rfl]; simp
    · rw [h, sEq]; simp
  go_wp2_with fail
  all_goals
    refine bodyPost_ret (v := .bool true) (by simp [results, Tryz.results3, go_sem, HV, *]) rfl ?_
    exact ⟨rfl, B8⟩
end Go.Proofs.YtahdpocaldhamaaGreat
