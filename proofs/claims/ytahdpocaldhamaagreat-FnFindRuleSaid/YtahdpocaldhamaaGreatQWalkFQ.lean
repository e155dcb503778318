/-
  The law FnFindRule, walked.
-/
import Derived.Test.YtahdpocaldhamaaGreatQPjA
import Derived.Test.YtahdpocaldhamaaGreatQFrQ
import Derived.Test.YtahdpocaldhamaaGreatQFrI
import Derived.Test.YtahdpocaldhamaaGreatQFrS
import Derived.Test.YtahdpocaldhamaaGreatQPpI
import Derived.Test.YtahdpocaldhamaaGreatGone
import Derived.Test.YtahdpocaldhamaaGreatQPrS
import Derived.Test.YtahdpocaldhamaaGreatQEqW
import Derived.Test.YtahdpocaldhamaaGreatQBeK
import Derived.Test.YtahdpocaldhamaaGreatQDrawO
import Derived.Test.YtahdpocaldhamaaGreatQRow
import Derived.Deep.RegionHeld3
import Derived.Deep.DeepCutAuto
namespace Go.Proofs.YtahdpocaldhamaaGreat
set_option linter.unusedVariables false
set_option linter.unusedSimpArgs false
open Go.RowKit

/-- the project and the two answers in their boxes -/
structure FqS (w0 w : World) (g h i : Nat) (fs : List Fl) (rs : List Ru) (a1 a2 e1 e2 : Option Addr) (c1 c2 d1 d2 : Nat) (k : Int) (s : ByteArray) (ks : Fo) : Prop where
  x : BxP w g (.slice a1 fs.length c1) (.slice a2 rs.length c2) 26
  y : BxE w h k s (.slice e1 ks.len d1) 41
  z : BxE w i k s (.slice e2 ks.len d2) 41
  p : PjA w fs rs a1 a2
  ka : KP w 0 w.heap.size ks e1 ks.len
  kb : KP w 0 w.heap.size ks e2 ks.len
  b : Below w0.heap.size w0 w
section
variable {w0 w w' : World} {g h i : Nat} {fs : List Fl} {rs : List Ru} {a1 a2 e1 e2 : Option Addr} {c1 c2 d1 d2 : Nat} {k : Int} {s : ByteArray} {ks : Fo}
theorem FqS.next (q : FqS w0 w g h i fs rs a1 a2 e1 e2 c1 c2 d1 d2 k s ks) (hB : Below w.heap.size w w') : FqS w0 w' g h i fs rs a1 a2 e1 e2 c1 c2 d1 d2 k s ks :=
  ⟨q.x.next hB, q.y.next hB, q.z.next hB, q.p.next hB, q.ka.next hB, q.kb.next hB, q.b.trans (hB.mono q.b.size)⟩
/-- their cells -/
theorem FqS.all (q : FqS w0 w g h i fs rs a1 a2 e1 e2 c1 c2 d1 d2 k s ks) : (w.cell? ⟨g, 0, none⟩ = some (.slice a1 fs.length c1) ∧ w.cell? ⟨g, 1, none⟩ = some (.slice a2 rs.length c2)) ∧ (w.cell? ⟨h, 0, none⟩ = some (.int .i64 k) ∧ w.cell? ⟨h, 1, none⟩ = some (.string s) ∧ w.cell? ⟨h, 2, none⟩ = some (.slice e1 ks.len d1)) ∧ w.cell? ⟨i, 0, none⟩ = some (.int .i64 k) ∧ w.cell? ⟨i, 1, none⟩ = some (.string s) ∧ w.cell? ⟨i, 2, none⟩ = some (.slice e2 ks.len d2) :=
  ⟨⟨q.x.facts.1, q.x.facts.2.1⟩, ⟨q.y.facts.1, q.y.facts.2.1, q.y.facts.2.2.1⟩, q.z.facts.1, q.z.facts.2.1, q.z.facts.2.2.1⟩
end

set_option maxRecDepth 100000 in
set_option maxHeartbeats 4000000 in
theorem walkFnFindRule (a : Option Addr) (len cap : Nat) (zs : List Int) (w : World) (h : IsRow .u8 w a len cap zs) :
    Calls Tryz.prog 5 #[.slice a len cap] w fun e w' => e = .returned (.bool true) ∧ Below w.heap.size w w' := by
  obtain ⟨hb, hn, hc⟩ := row_bytes h
  have hc' := Lib.hid hc
  unfold maxLen at hc
  by_cases hlong : 1048576 < len
  · go_enter Tryz.func5, Tryz.ntmps5
    go_wp2_with fail
    go_ret
    exact ⟨rfl, Below.refl _ _⟩
  go_enter Tryz.func5, Tryz.ntmps5
  go_wp2_with fail
  refine (drawFR_any a len cap w hb hn hc'.out).mono ?_
  rintro e w1 ⟨v1, v2, fs, rs, t, rfl, hof, hru, hsh, hfl, hsm, hrl, ht, hB1⟩
  obtain ⟨a1, c1, a2, c2, rfl, rfl, hcc, hnil, P1, Z⟩ := pj_draw hof hru hsh hfl hsm hrl (by omega) (by omega)
  have hX := BxP.new w1 (.slice a1 fs.length c1) (.slice a2 rs.length c2) 26
  have P2 := P1.al (.cells #[.slice a1 fs.length c1, .slice a2 rs.length c2] 26)
  have B2 := hB1.alloc hB1.size (.cells #[.slice a1 fs.length c1, .slice a2 rs.length c2] 26)
  have HZ := Lib.hid Z
  have htm : t.size ≤ maxLen := by unfold maxLen; omega
  have Hsz := Lib.hid (findP_sm (x := t) (fs := fs) Z.sm)
  have Hlaw := Lib.hid (fun h => findP_law (fs := fs) (rs := rs) (x := t) h)
  have Hval := Lib.hid (fun h => findP_val (fs := fs) (rs := rs) (x := t) h)
  have Hbad := Lib.hid (fun h => findP_bad (fs := fs) (rs := rs) (x := t) h)
  obtain ⟨q, hq⟩ : ∃ q, findP fs rs t = q := ⟨_, rfl⟩
  have Hq := Lib.hid hq
  rw [hq] at Hsz Hlaw Hval Hbad
  obtain ⟨k, s, ks, found⟩ := q
  dsimp only at Hsz Hlaw Hval
  clear hof hru hsh hfl hsm hrl hcc hnil P1 hb hn hc hc' h Z hB1 hq
  go_upto_region 4 with (fail)
  generalize hv2 : w1.alloc (.cells #[.slice a1 fs.length c1, .slice a2 rs.length c2] 26) = w2 at *
  clear hv2
  generalize w1.heap.size = g0 at *
  obtain ⟨x0, x1, xf0, xf1, xl⟩ := hX.facts
  have Hc := Lib.hid (findRI_any a1 a2 _ _ c1 c2 fs rs t w2 P2.f P2.r HZ.out.fit HZ.out.rfit HZ.out.m1 HZ.out.m2 htm)
  rw [Hq.out] at Hc
  dsimp only at Hc
  go_wp2_with fail
  refine Hc.out.mono ?_
  rintro e w3 ⟨e1, d1, bk, gk, rfl, hcx, hB3⟩
  have hke : KP w3 0 w3.heap.size ks e1 ks.len := (hcx.2.2.1.pl hcx.2.2.2.1).more (Nat.zero_le _) (Nat.le_refl _)
  have Hd1 := Lib.hid hcx.1
  have hY := BxE.new w3 k s (.slice e1 ks.len d1) 41
  have hA3 := (Below.refl w3.heap.size w3).alloc (Nat.le_refl _) (.cells #[.int .i64 k, .string s, .slice e1 ks.len d1] 41)
  have hX3 := (hX.next hB3).next hA3
  have P3 := (P2.next hB3).next hA3
  have hK3 := hke.next hA3
  have B3 := (B2.trans (hB3.mono B2.size)).trans (hA3.mono (B2.trans (hB3.mono B2.size)).size)
  clear Hc hcx hke hA3 hX P2 B2 hB3 x0 x1 xf0 xf1 xl
  go_upto_region 5 with (fail)
  generalize hv4 : w3.alloc (.cells #[.int .i64 k, .string s, .slice e1 ks.len d1] 41) = w4 at *
  clear hv4
  generalize w3.heap.size = g1 at *
  obtain ⟨x0, x1, xf0, xf1, xl⟩ := hX3.facts
  have Hc := Lib.hid (findRS_z (fun rs a n c w hr hrf hz hn => rulesS_any rs a n c w hr hrf hz hn) a1 a2 _ _ c1 c2 fs rs t w4 P3.f P3.r HZ.out.fit HZ.out.rfit HZ.out.m1 HZ.out.m2 HZ.out.z)
  rw [Hq.out] at Hc
  dsimp only at Hc
  go_wp2_with fail
  refine Hc.out.mono ?_
  rintro e w5 ⟨e2, d2, rfl, hcd, hkb, hB5⟩
  have hkb0 : KP w5 0 w5.heap.size ks e2 ks.len := hkb.more (Nat.zero_le _) (Nat.le_refl _)
  have Hd2 := Lib.hid hcd
  have hW := BxE.new w5 k s (.slice e2 ks.len d2) 41
  have hA5 := (Below.refl w5.heap.size w5).alloc (Nat.le_refl _) (.cells #[.int .i64 k, .string s, .slice e2 ks.len d2] 41)
  have hBB := hB5.trans (hA5.mono hB5.size)
  have HS := Lib.hid (show FqS w (w5.alloc (.cells #[.int .i64 k, .string s, .slice e2 ks.len d2] 41)) g0 g1 w5.heap.size fs rs a1 a2 e1 e2 c1 c2 d1 d2 k s ks from
    ⟨hX3.next hBB, hY.next hBB, hW, P3.next hBB, hK3.next hBB, hkb0.next hA5, B3.trans (hBB.mono B3.size)⟩)
  clear Hc hcd hkb hkb0 hW hA5 hBB hX3 hY P3 hK3 B3 hB5 x0 x1 xf0 xf1 xl
  go_upto_region 6 with (fail)
  generalize hv6 : w5.alloc (.cells #[.int .i64 k, .string s, .slice e2 ks.len d2] 41) = w6 at *
  clear hv6
  generalize w5.heap.size = g2 at *
  have hks : ks.len ≤ maxLen := by have := Hsz.out.2.2.2; unfold maxLen; omega
  have hsm : s.size ≤ maxLen := by have := Hsz.out.2.2.1; unfold maxLen; omega
  have Hks := Lib.hid hks
  have Hsm := Lib.hid hsm
  have hff : (found != found) = false := by simp
  have hfe : (found == found) = true := by simp
  obtain ⟨⟨x0, x1⟩, ⟨y0, y1, y2⟩, z0, z1, z2⟩ := HS.out.all
  clear hks hsm
  go_wp2_with fail
  refine (eqI_any true k k s s ks ks (by simp) _ _ _ _ _ _ w6 HS.out.ka.rd HS.out.kb.rd Hd1.out Hd2.out Hsz.out.1 ⟨Hsm.out, Hks.out, Hks.out⟩).mono ?_
  rintro e w7 ⟨rfl, hB7⟩
  have HS7 := Lib.hid (HS.out.next hB7)
  clear x0 x1 y0 y1 y2 z0 z1 z2 HS hB7
  obtain ⟨⟨x0, x1⟩, ⟨y0, y1, y2⟩, z0, z1, z2⟩ := HS7.out.all
  go_wp2_with fail
  refine (projI_any _ _ _ _ _ _ fs rs w7 HS7.out.p.f HS7.out.p.r HZ.out.fit HZ.out.rfit HZ.out.m1 HZ.out.m2).mono ?_
  rintro e w8 ⟨rfl, hB8⟩
  have HS8 := Lib.hid (HS7.out.next hB8)
  clear x0 x1 y0 y1 y2 z0 z1 z2 HS7 hB8
  obtain ⟨⟨x0, x1⟩, ⟨y0, y1, y2⟩, z0, z1, z2⟩ := HS8.out.all
  rcases Bool.eq_false_or_eq_true (projB fs rs) with hv | hv
  case inr =>
    rw [hv]
    go_wp2_with fail
    refine (eqI_any true k k s s ks ks (by simp) _ _ _ _ _ _ w8 HS8.out.ka.rd HS8.out.kb.rd Hd1.out Hd2.out Hsz.out.1 ⟨Hsm.out, Hks.out, Hks.out⟩).mono ?_
    rintro e w9 ⟨rfl, hB9⟩
    have B9 := (HS8.out.next hB9).b
    go_wp2_with fail
    go_ret
    exact ⟨rfl, B9⟩
  rw [hv]
  have HL := Lib.hid (Hlaw.out hv)
  have HV := Lib.hid (fun h => Hval.out hv h)
  have Hpl := Lib.hid (show (pathsP fs rs).length ≤ maxLen by have := paths_le fs rs; have := HZ.out.n1; have := HZ.out.n2; unfold maxLen; omega)
  obtain ⟨src, hsrc⟩ : ∃ b, (findF fs t).2 = b := ⟨_, rfl⟩
  have Hsrc := Lib.hid hsrc
  rw [hsrc] at HL
  clear hv hsrc
  go_wp2_with fail
  refine (findI_any a1 _ c1 fs t w8 HS8.out.p.f HZ.out.m1).mono ?_
  rintro e w9 ⟨rfl, hB9⟩
  have HS9 := Lib.hid (HS8.out.next hB9)
  clear x0 x1 y0 y1 y2 z0 z1 z2 HS8 hB9
  obtain ⟨⟨x0, x1⟩, ⟨y0, y1, y2⟩, z0, z1, z2⟩ := HS9.out.all
  rw [Hsrc.out]
  go_wp2_with fail
  refine (pathsI_any _ _ _ _ _ _ fs rs w9 HS9.out.p.f HS9.out.p.r HZ.out.fit HZ.out.rfit HZ.out.m1 HZ.out.m2).mono ?_
  rintro e w10 ⟨v10, rfl, hown, hB10⟩
  obtain ⟨pa, pc, rfl, hs10⟩ := hown.form
  have HS10 := Lib.hid (HS9.out.next hB10)
  clear x0 x1 y0 y1 y2 z0 z1 z2 HS9 hB10 hown
  obtain ⟨⟨x0, x1⟩, ⟨y0, y1, y2⟩, z0, z1, z2⟩ := HS10.out.all
  go_wp2_with fail
  refine (beHas_any pa _ pc (pathsP fs rs) t w10 hs10 Hpl.out).mono ?_
  rintro e w11 ⟨rfl, rfl⟩
  obtain ⟨hv, hhas⟩ : ∃ b, hasB (pathsP fs rs) t = b := ⟨_, rfl⟩
  rw [hhas] at HL ⊢
  have hL := HL.out
  have B10 := HS10.out.b
  clear hhas HL hff hfe
  cases hv <;> cases src
  · obtain rfl : found = false := hL
    go_wp2_with fail
    go_ret
    exact ⟨rfl, B10⟩
  · obtain rfl : found = false := hL
    go_wp2_with fail
    go_ret
    exact ⟨rfl, B10⟩
  · obtain rfl : found = true := hL
    have Hve := Lib.hid (HV.out rfl)
    go_wp2_with fail
    refine (validI_expr k s ks _ _ _ w11 HS10.out.ka.1 Hsm.out Hsz.out.2.1 Hks.out).mono ?_
    rintro e w12 ⟨rfl, hB12⟩
    have B12 := (HS10.out.next hB12).b
    rw [Hve.out]
    go_wp2_with fail
    go_ret
    exact ⟨rfl, B12⟩
  · obtain rfl : found = false := hL
    go_wp2_with fail
    go_ret
    exact ⟨rfl, B10⟩
end Go.Proofs.YtahdpocaldhamaaGreat
