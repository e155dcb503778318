/-
  The law FnProjectPaths, walked.
-/
import Derived.Test.YtahdpocaldhamaaGreatQPjA
import Derived.Test.YtahdpocaldhamaaGreatQPpI
import Derived.Test.YtahdpocaldhamaaGreatQPpS
import Derived.Test.YtahdpocaldhamaaGreatQPpQ
import Derived.Test.YtahdpocaldhamaaGreatQFrI
import Derived.Test.YtahdpocaldhamaaGreatGone
import Derived.Test.YtahdpocaldhamaaGreatQPrS
import Derived.Test.YtahdpocaldhamaaGreatQBeK
import Derived.Test.YtahdpocaldhamaaGreatQRow
import Derived.Deep.RegionHeld3
import Derived.Deep.DeepCutAuto
namespace Go.Proofs.YtahdpocaldhamaaGreat
set_option linter.unusedVariables false
set_option linter.unusedSimpArgs false
open Go.RowKit

theorem drawPP_any (a : Option Addr) (n c : Nat) (w : World) (hb : BytesAt w w.heap.size a n) (hn : n ≤ c) (hc : c ≤ maxLen) :
    Calls Tryz.prog 10 #[.slice a n c] w (ProjDraw 7 1006 w) := by
  have hb0 := BxP.new w (.slice none 0 0) (.slice none 0 0) 26
  go_enter Tryz.func10, Tryz.ntmps10
  go_wp2_with fail
  refine (drawPV_any a n c _ (hb.in1 _) hn hc).mono ?_
  rintro e w1 ⟨v1, v2, fs, rs, rfl, hof, hru, hsh, hfl, hsm, hrl, hB1⟩
  have hb1 := hb0.next hB1
  have hB0 : Below w.heap.size w w1 := ((Below.refl _ _).alloc (Nat.le_refl _) _).trans (hB1.mono (by simp))
  rw [World.size_alloc] at hof hru
  obtain ⟨u0, u1, uf0, uf1, ul⟩ := hb1.facts
  obtain ⟨a1, c1, rfl, _, _⟩ := ownsF_none hof
  obtain ⟨a2, c2, rfl, _, _⟩ := hru.at_
  have Hof := Lib.hid hof
  have Hru := Lib.hid hru
  clear hof hru hb1 hb0
  go_wp2_with fail
  refine bodyPost_ret (v := .agg #[.slice a1 fs.length c1, .slice a2 rs.length c2]) (by simp [results, Tryz.results10, go_sem, *]) rfl ?_
  exact ⟨_, _, fs, rs, rfl, ownsF_mono (ownsF_set (ownsF_set Hof.out (by omega) 0 _) (by omega) 1 _) (by omega), ((Hru.out.setCell (by omega) 0 _).setCell (by omega) 1 _).mono (by omega), hsh, hfl, hsm, hrl, (hB0.setCell (Nat.le_refl _) _).setCell (Nat.le_refl _) _⟩

/-- the project in its box, and its paths -/
structure PqS (w0 w : World) (g : Nat) (fs : List Fl) (rs : List Ru) (a1 a2 pa : Option Addr) (c1 c2 : Nat) : Prop where
  x : BxP w g (.slice a1 fs.length c1) (.slice a2 rs.length c2) 26
  p : PjA w fs rs a1 a2
  s : SvAt w w.heap.size pa (pathsP fs rs).length (pathsP fs rs)
  b : Below w0.heap.size w0 w
section
variable {w0 w w' : World} {g : Nat} {fs : List Fl} {rs : List Ru} {a1 a2 pa : Option Addr} {c1 c2 : Nat}
theorem PqS.next (h : PqS w0 w g fs rs a1 a2 pa c1 c2) (hB : Below w.heap.size w w') : PqS w0 w' g fs rs a1 a2 pa c1 c2 :=
  ⟨h.x.next hB, h.p.next hB, (h.s.below hB).more hB.size, h.b.trans (hB.mono h.b.size)⟩
theorem PqS.al (h : PqS w0 w g fs rs a1 a2 pa c1 c2) (o : Obj) : PqS w0 (w.alloc o) g fs rs a1 a2 pa c1 c2 := h.next ((Below.refl _ _).alloc (Nat.le_refl _) o)
theorem PqS.dr (h : PqS w0 w g fs rs a1 a2 pa c1 c2) : PqS w0 w.drew g fs rs a1 a2 pa c1 c2 := h.next (Below.refl _ _).drew
/-- the cells that a round reads -/
theorem PqS.three (h : PqS w0 w g fs rs a1 a2 pa c1 c2) {b off j : Nat} {s : ByteArray} (hpa : pa = some ⟨b, off, none⟩) (hs : (pathsP fs rs)[j]? = some s) : w.cell? ⟨g, 0, none⟩ = some (.slice a1 fs.length c1) ∧ w.cell? ⟨g, 1, none⟩ = some (.slice a2 rs.length c2) ∧ w.cell? ⟨b, off + j, none⟩ = some (.string s) := by
  refine ⟨h.x.facts.1, h.x.facts.2.1, ?_⟩
  have hl := (List.getElem?_eq_some_iff.1 hs).1
  obtain ⟨b', off', e, _, hc⟩ := h.s.2 (by omega)
  rw [hpa] at e
  injection e with e
  injection e with e1 e2
  subst e1 e2
  exact hc j s hs
end

theorem paths_fit {fs : List Fl} {rs : List Ru} (Z : PjZ fs rs) (h : projB fs rs = true) {s : ByteArray} (hs : s ∈ pathsP fs rs) : s.size ≤ maxLen := by
  rcases (paths_mem h).1 hs with ⟨f, hf, rfl⟩ | ⟨r, hr, rfl⟩
  · exact (Z.fit f hf).1
  · exact (Z.rfit r hr).1
theorem below_al_dr {w w' : World} (o : Obj) (h : Below (w.alloc o).drew.heap.size (w.alloc o).drew w') : Below w.drew.heap.size w.drew w' := by
  have h1 : Below w.drew.heap.size w.drew (w.alloc o).drew := ((Below.refl w.drew.heap.size w.drew).alloc (Nat.le_refl _) o)
  exact h1.trans (h.mono h1.size)
theorem PqS.lt {w0 w : World} {g : Nat} {fs : List Fl} {rs : List Ru} {a1 a2 pa : Option Addr} {c1 c2 : Nat} (h : PqS w0 w g fs rs a1 a2 pa c1 c2) {b off j : Nat} (hpa : pa = some ⟨b, off, none⟩) (hj : j < (pathsP fs rs).length) : b < w.heap.size ∧ g < w.heap.size := by
  obtain ⟨b', off', e, hl, hc⟩ := h.s.2 (by omega)
  rw [hpa] at e
  injection e with e
  injection e with e1 e2
  subst e1
  exact ⟨hl, h.x.facts.2.2.2.2⟩
set_option maxRecDepth 100000 in
set_option maxHeartbeats 4000000 in
theorem walkFnProjectPaths (a : Option Addr) (len cap : Nat) (zs : List Int) (w : World) (h : IsRow .u8 w a len cap zs) :
    Calls Tryz.prog 4 #[.slice a len cap] w fun e w' => e = .returned (.bool true) ∧ Below w.heap.size w w' := by
  obtain ⟨hb, hn, hc⟩ := row_bytes h
  have hc' := Lib.hid hc
  unfold maxLen at hc
  by_cases hlong : 1048576 < len
  · go_enter Tryz.func4, Tryz.ntmps4
    go_wp2_with fail
    go_ret
    exact ⟨rfl, Below.refl _ _⟩
  go_enter Tryz.func4, Tryz.ntmps4
  go_wp2_with fail
  refine (drawPP_any a len cap w hb hn hc'.out).mono ?_
  rintro e w1 ⟨v1, v2, fs, rs, rfl, hof, hru, hsh, hfl, hsm, hrl, hB1⟩
  obtain ⟨a1, c1, a2, c2, rfl, rfl, hcc, hnil, P1, Z⟩ := pj_draw hof hru hsh hfl hsm hrl (by omega) (by omega)
  have hX := BxP.new w1 (.slice a1 fs.length c1) (.slice a2 rs.length c2) 26
  have P2 := P1.al (.cells #[.slice a1 fs.length c1, .slice a2 rs.length c2] 26)
  have B2 := hB1.alloc hB1.size (.cells #[.slice a1 fs.length c1, .slice a2 rs.length c2] 26)
  have HZ := Lib.hid Z
  clear hof hru hsh hfl hsm hrl hcc hnil P1 hb hn hc hc' h Z hB1
  go_upto_region 4 with (fail)
  generalize hv2 : w1.alloc (.cells #[.slice a1 fs.length c1, .slice a2 rs.length c2] 26) = w2 at *
  clear hv2
  generalize w1.heap.size = g0 at *
  obtain ⟨x0, x1, xf0, xf1, xl⟩ := hX.facts
  go_wp2_with fail
  refine (pathsI_any _ _ _ _ _ _ fs rs w2 P2.f P2.r HZ.out.fit HZ.out.rfit HZ.out.m1 HZ.out.m2).mono ?_
  rintro e w3 ⟨v3, rfl, hown3, hB3⟩
  obtain ⟨pa, pc, rfl, hs3⟩ := hown3.form
  have hplen : (pathsP fs rs).length ≤ 2000 := by have := paths_le fs rs; have := HZ.out.n1; have := HZ.out.n2; omega
  have S3 : PqS w w3 g0 fs rs a1 a2 pa c1 c2 := ⟨hX.next hB3, P2.next hB3, hs3, B2.trans (hB3.mono B2.size)⟩
  clear hX P2 B2 hown3 hB3 hs3 x0 x1 xf0 xf1 xl
  obtain ⟨x0, x1, xf0, xf1, xl⟩ := S3.x.facts
  go_wp2_with fail
  refine (pathsS_z (fun rs a n c w hr hrf hz hn => rulesS_any rs a n c w hr hrf hz hn) _ _ _ _ _ _ fs rs w3 S3.p.f S3.p.r HZ.out.fit HZ.out.rfit HZ.out.m1 HZ.out.m2 HZ.out.z).mono ?_
  rintro e w4 ⟨v4, rfl, hown4, hB4⟩
  obtain ⟨qa, qc, rfl, hs4⟩ := hown4.form
  have S4 := S3.next hB4
  clear S3 hown4 hB4 x0 x1 xf0 xf1 xl
  obtain ⟨x0, x1, xf0, xf1, xl⟩ := S4.x.facts
  go_wp2_with fail
  refine (beT_yes pa qa (pathsP fs rs).length pc qc _ w4 S4.s hs4 (by unfold maxLen; omega)).mono ?_
  rintro e w5 ⟨rfl, hB5⟩
  have S5 := S4.next hB5
  clear S4 hs4 hB5 x0 x1 xf0 xf1 xl
  obtain ⟨x0, x1, xf0, xf1, xl⟩ := S5.x.facts
  go_wp2_with fail
  refine (projI_any _ _ _ _ _ _ fs rs w5 S5.p.f S5.p.r HZ.out.fit HZ.out.rfit HZ.out.m1 HZ.out.m2).mono ?_
  rintro e w6 ⟨rfl, hB6⟩
  have S6 := S5.next hB6
  clear S5 hB6 x0 x1 xf0 xf1 xl
  obtain ⟨x0, x1, xf0, xf1, xl⟩ := S6.x.facts
  rcases Bool.eq_false_or_eq_true (projB fs rs) with hv | hv
  case inr =>
    rw [hv]
    go_wp2_with fail
    refine (pathsS_z (fun rs a n c w hr hrf hz hn => rulesS_any rs a n c w hr hrf hz hn) _ _ _ _ _ _ fs rs w6 S6.p.f S6.p.r HZ.out.fit HZ.out.rfit HZ.out.m1 HZ.out.m2 HZ.out.z).mono ?_
    rintro e w7 ⟨v7, rfl, hown7, hB7⟩
    obtain ⟨qa, qc, rfl, hs7⟩ := hown7.form
    have S7 := S6.next hB7
    go_wp2_with fail
    refine (beT_yes pa qa (pathsP fs rs).length pc qc _ w7 S7.s hs7 (by unfold maxLen; omega)).mono ?_
    rintro e w8 ⟨rfl, hB8⟩
    go_wp2_with fail
    go_ret
    exact ⟨rfl, (S7.next hB8).b⟩
  rw [hv]
  have Hv := Lib.hid hv
  have Hc := Lib.hid (paths_count hv)
  have HS := Lib.hid S6
  clear hv S6 x0 x1 xf0 xf1 xl
  go_wp2_with fail
  go_loopw [5] (fun i wr => ∃ j : Nat, j ≤ (pathsP fs rs).length ∧ i = .int .i64 j ∧ PqS w wr g0 fs rs a1 a2 pa c1 c2) (fun i _ => (pathsP fs rs).length - (intOf i).toNat)
  case atStart => exact ⟨0, Nat.zero_le _, rfl, HS.out⟩
  case round =>
    obtain ⟨j, hj, rfl, hS⟩ := hrel
    by_cases hlt : j < (pathsP fs rs).length
    · obtain ⟨b, off, s, rfl, hbl, hg, hcell⟩ := hS.s.get hlt
      have hj0 : (0 : Int) ≤ (j : Int) := by omega
      have hjj : (j : Int) < ((pathsP fs rs).length : Int) := by omega
      have hone := paths_one Hv.out (List.mem_of_getElem? hg)
      have Hg := Lib.hid hg
      have HSd := Lib.hid hS.dr
      have HK0 := Lib.hid (HSd.out.three rfl hg)
      have hgD : g0 < wr.drew.heap.size := HSd.out.x.facts.2.2.2.2
      clear hg hcell
      go_wp2_with fail
      go_region_held3 (fun w' => w'.cell? ⟨g0, 0, none⟩ = some (.slice a1 fs.length c1) ∧ w'.cell? ⟨g0, 1, none⟩ = some (.slice a2 rs.length c2) ∧ w'.cell? ⟨b, off + j, none⟩ = some (.string s)) (first | exact HK0.out | exact HK1.out)
        ((first
          | (go_at_call 15; refine (findI_any a1 _ c1 fs s _ HSd.out.p.f HZ.out.m1).mono ?_; rintro e w4 ⟨rfl, hB4⟩; have HS4 := Lib.hid (HSd.out.next hB4); have HK1 := Lib.hid (HS4.out.three rfl Hg.out))))
      have HS5 := Lib.hid HS4.out.dr
      have HA5 := Lib.hid ((HS4.out.al (.cells #[.int .i64 0, .string ⟨#[]⟩, .slice none 0 0] 41)).dr)
      have HK2 := Lib.hid (HS5.out.three rfl Hg.out)
      have HK3 := Lib.hid (HA5.out.three rfl Hg.out)
      have hsm : s.size ≤ maxLen := paths_fit HZ.out Hv.out (List.mem_of_getElem? Hg.out)
      have Hf4 := Lib.hid (findRI_any a1 a2 _ _ c1 c2 fs rs s _ HS5.out.p.f HS5.out.p.r HZ.out.fit HZ.out.rfit HZ.out.m1 HZ.out.m2 hsm)
      have HfA := Lib.hid (findRI_any a1 a2 _ _ c1 c2 fs rs s _ HA5.out.p.f HA5.out.p.r HZ.out.fit HZ.out.rfit HZ.out.m1 HZ.out.m2 hsm)
      have hgA : g0 < (w4.alloc (.cells #[.int .i64 0, .string ⟨#[]⟩, .slice none 0 0] 41)).drew.heap.size := HA5.out.x.facts.2.2.2.2
      have hEA := Lib.hid (show BxE (w4.alloc (.cells #[.int .i64 0, .string ⟨#[]⟩, .slice none 0 0] 41)).drew w4.heap.size 0 ⟨#[]⟩ (.slice none 0 0) 41 from BxE.new w4 0 ⟨#[]⟩ (.slice none 0 0) 41)
      obtain ⟨hb4, hg4⟩ := HS4.out.lt rfl hlt
      clear HK0 HK1
      obtain ⟨x0, x1, x2⟩ := HK2.out
      have hone' := Lib.hid hone
      clear hone
      obtain ⟨src, hsrc⟩ : ∃ b, (findF fs s).2 = b := ⟨_, rfl⟩
      obtain ⟨fo, hfo⟩ : ∃ b, (findP fs rs s).2.2.2 = b := ⟨_, rfl⟩
      have hone2 := hone'.out
      rw [hsrc, hfo] at hone2
      have Hone := Lib.hid hone2
      have Hfo := Lib.hid hfo
      rw [hsrc]
      clear hone2 hsrc hone' hfo
      go_upto_region 11 with (fail)
      go_cut [9] (fun s9 wx => s9 = .bool fo ∧ PqS w wx g0 fs rs a1 a2 (some ⟨b, off, none⟩) c1 c2)
      case first =>
       go_region_law (first
        | (go_simp; go_at_call 16; (with_reducible refine Calls.mono Hf4.out ?_); rintro e w6 ⟨e6, d6, bk6, gk6, rfl, hcx6, hB6⟩; have HS6 := Lib.hid (HS5.out.next hB6); have hl6 := hB6.size; obtain ⟨z0, z1, z2⟩ := HS6.out.three rfl Hg.out; clear hcx6 hB6)
        | (go_simp; go_at_call 16; (with_reducible refine Calls.mono HfA.out ?_); rintro e w6 ⟨e6, d6, bk6, gk6, rfl, hcx6, hB6⟩; have HS6 := Lib.hid (HA5.out.next hB6); have hT6 := below_al_dr _ hB6; have hl6 := hB6.size; obtain ⟨z0, z1, z2⟩ := HS6.out.three rfl Hg.out; have hE6 := hEA.out.next hB6; obtain ⟨y0, y1, y2, yf0, yf1, yf2, yl⟩ := hE6.facts; clear hcx6 hB6))
       all_goals
         go_wp2_with fail
         go_meet
         rw [Hfo.out]
         first
           | exact ⟨rfl, ((HS6.out.al _).next (Below.refl _ _))⟩
           | exact ⟨rfl, HS5.out.next (((hT6.setCell (Nat.le_refl _) _).setCell (Nat.le_refl _) _).setCell (Nat.le_refl _) _)⟩
      case rest =>
      obtain ⟨rfl, hS6⟩ := hcut
      have HS6 := Lib.hid hS6
      obtain ⟨v6, hv6⟩ : ∃ v, v = wc := ⟨_, rfl⟩
      subst hv6
      have hab := Hone.out
      cases j with
      | zero =>
        have hx := (HS6.out.three rfl Hg.out).2.2
        clear hS6
        go_wp2_with fail
        go_quiet (fail)
        go_wp2_with fail
        exact ⟨⟨0 + 1, by omega, by go_num, HS6.out.next (below_drewN (Below.refl _ _) _)⟩, by simp [intOf]; omega⟩
      | succ i =>
        obtain ⟨b', off', s0, he, _, hg0, hx0⟩ := hS6.s.get (k := i) (by omega)
        simp only [Option.some.injEq, Addr.mk.injEq, and_true] at he
        obtain ⟨rfl, rfl⟩ := he
        have hx := (HS6.out.three rfl Hg.out).2.2
        have hp0 : (0 : Int) < ((i + 1 : Nat) : Int) := by omega
        have hlt0 : Op.bytesLess s0.toList s.toList = true := paths_next Hv.out hg0 Hg.out
        clear hg0 hS6
        go_wp2_with fail
        go_quiet (fail)
        go_wp2_with fail
        exact ⟨⟨i + 1 + 1, by omega, by go_num, HS6.out.next (below_drewN (Below.refl _ _) _)⟩, by simp [intOf]; omega⟩
    · obtain ⟨x0, x1, xf0, xf1, xl⟩ := hS.x.facts
      have hc1 : ((pathsP fs rs).length : Int) = (fs.length : Int) + (rs.length : Int) := by have := Hc.out; omega
      have hn1 := HZ.out.n1
      have hn2 := HZ.out.n2
      have hB := hS.b
      have hee : (((fs.length : Int) + (rs.length : Int)) == ((fs.length : Int) + (rs.length : Int))) = true := by simp
      go_wp2_with fail
      go_ret
      exact ⟨rfl, hB⟩
end Go.Proofs.YtahdpocaldhamaaGreat
