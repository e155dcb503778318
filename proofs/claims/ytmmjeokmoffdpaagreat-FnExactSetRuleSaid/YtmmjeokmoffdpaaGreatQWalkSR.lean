/-
  The exact law FnExactSetRule, walked.
-/
import Derived.Test.YtmmjeokmoffdpaaGreatQEdR2
import Derived.Deep.DeepCutAuto
import Derived.Deep.RegionHeld3
namespace Go.Proofs.YtmmjeokmoffdpaaGreat
set_option linter.unusedVariables false
set_option linter.unusedSimpArgs false
open Go.RowKit Go.Maps

/-- what the law is told of a rule -/
def InR (w : World) (t : ByteArray) (s : ByteArray) (ks : Fo) (a : Option Addr) (n c : Nat) : Prop := KA w 0 w.heap.size ks a n ∧ ks.Fits ∧ t.size ≤ maxLen ∧ s.size ≤ maxLen ∧ n ≤ c ∧ n ≤ maxLen

set_option maxRecDepth 100000 in
set_option maxHeartbeats 16000000 in
theorem walkFnExactSetRule (a1 a2 : Option Addr) (n1 n2 c1 c2 : Nat) (fs : List Fl) (rs : List Ru) (t : ByteArray) (k : Int) (s : ByteArray) (ks : Fo) (a : Option Addr) (n c : Nat) (w : World) (h : InP w fs rs a1 a2 n1 n2) (h2 : InR w t s ks a n c) :
    Calls Tryz.prog 3 #[.agg #[.slice a1 n1 c1, .slice a2 n2 c2], .agg #[.string t, .int .i64 k, .string s, .slice a n c]] w fun e w' => e = .returned (.bool true) ∧ Below w.heap.size w w' := by
  obtain ⟨hf, hff, hn1, hr, hrf, hn2⟩ := h
  obtain rfl := hf.1
  obtain rfl := hr.1
  obtain ⟨hka, hkf, htt, hss, hnc, hnm⟩ := h2
  obtain rfl := hka.1
  have B1 := ((Below.refl w.heap.size w).alloc (Nat.le_refl _) (.cells #[.slice a1 fs.length c1, .slice a2 rs.length c2] 25)).alloc (by simp) (.cells #[.string t, .int .i64 k, .string s, .slice a ks.len c] 30)
  have Hbx := Lib.hid ((BxP.new w (.slice a1 fs.length c1) (.slice a2 rs.length c2) 25).alloc (.cells #[.string t, .int .i64 k, .string s, .slice a ks.len c] 30))
  have hfx0 := BxR.new (w.alloc (.cells #[.slice a1 fs.length c1, .slice a2 rs.length c2] 25)) t k s (.slice a ks.len c) 30
  simp only [World.size_alloc] at hfx0
  have Hfx := Lib.hid (show RxB _ (w.heap.size + 1) w.heap.size t k s ks a c from ⟨hfx0, hka.below B1, Nat.le_succ _⟩)
  clear hfx0 hka
  have hf := (hf.below B1).more B1.size
  have hr := hr.next B1
  have Hru := Lib.hid (show RuFit (t, k, s, ks) from ⟨htt, hss, hnm, hkf⟩)
  have Hnc := Lib.hid hnc
  have Hk2 := Lib.hid (And.intro hkf (And.intro htt (And.intro hss hnm)))
  clear htt hss hnc hnm hkf
  by_cases hsz : (fs.length + tot fs + (rs.length + ruTot rs) : Int) ≤ 1048576
  case neg =>
    have Hz := Lib.hid (show szP 1048576 fs rs = -1 from by unfold szP; rw [if_neg hsz])
    clear hsz
    go_enter Tryz.func3, Tryz.ntmps3
    go_wp2_with fail
    refine (szProject_any a1 a2 _ _ c1 c2 fs rs 1048576 _ hf hr hff hrf hn1 hn2 (by omega) (by omega)).mono ?_
    rintro e w2 ⟨rfl, hB2⟩
    have B2 := B1.trans (hB2.mono B1.size)
    rw [Hz.out]
    go_wp2_with fail
    go_ret
    exact ⟨rfl, B2⟩
  case pos =>
  have Hz := Lib.hid (show szP 1048576 fs rs = 1048576 - (fs.length + tot fs + (rs.length + ruTot rs)) from by unfold szP; rw [if_pos hsz])
  have Hf := Lib.hid hff
  have Hr := Lib.hid hrf
  have Hn1 := Lib.hid hn1
  have Hn2 := Lib.hid hn2
  have Hts := Lib.hid (show fs.length + tot fs + (rs.length + ruTot rs) ≤ 1048576 by omega)
  have Hrs0 := Lib.hid (show rs.length + ruTot rs ≤ 1048576 by omega)
  have Hfl := Lib.hid (show fs.length ≤ 1048576 by omega)
  have hpos : ¬ (1048576 - (fs.length + tot fs + (rs.length + ruTot rs) : Int)) < 0 := by omega
  have hbig : (1 : Nat) + 2 * fs.length + ruMk rs ≤ 8388600 := by have := ed_small (rs' := rs) (by omega); omega
  clear hsz hff hrf hn1 hn2
  go_enter Tryz.func3, Tryz.ntmps3
  go_wp2_with fail
  refine (szProject_any a1 a2 _ _ c1 c2 fs rs 1048576 _ hf hr Hf.out Hr.out Hn1.out Hn2.out (by omega) (by omega)).mono ?_
  rintro e w2 ⟨rfl, hB2⟩
  have hf := (hf.below hB2).more hB2.size
  have hr := hr.next hB2
  have Hbx := Lib.hid (Hbx.out.next hB2)
  have B2 := B1.trans (hB2.mono B1.size)
  obtain ⟨p0, p1, pf0, pf1, hpl⟩ := Hbx.out.facts
  rw [Hz.out]
  have hsz0 : (0 : Int) ≤ 1048576 - (fs.length + tot fs + (rs.length + ruTot rs)) := by omega
  have Hfx := Lib.hid (Hfx.out.next hB2)
  obtain ⟨q0, q1, q2, q3, qf0, qf1, qf2, qf3, hql⟩ := Hfx.out.1.facts
  go_wp2_with fail
  refine (szRule_any t k s ks a ks.len c _ _ Hfx.out.full Hk2.out.1 Hk2.out.2.1 Hk2.out.2.2.1 Hk2.out.2.2.2 hsz0 (by omega)).mono ?_
  rintro e w21 ⟨rfl, hB21⟩
  have B21 := B2.trans (hB21.mono B2.size)
  by_cases hsf : (t.size + (s.size + ks.len + ks.tot) : Int) ≤ 1048576 - (fs.length + tot fs + (rs.length + ruTot rs))
  case neg =>
    rw [show szR (1048576 - (fs.length + tot fs + (rs.length + ruTot rs))) t s ks = -1 from if_neg hsf]
    clear hsf
    go_wp2_with fail
    go_ret
    exact ⟨rfl, B21⟩
  case pos =>
  rw [show szR (1048576 - (fs.length + tot fs + (rs.length + ruTot rs))) t s ks = 1048576 - (fs.length + tot fs + (rs.length + ruTot rs)) - (t.size + (s.size + ks.len + ks.tot)) from if_pos hsf]
  have hpos2 : ¬ (1048576 - (fs.length + tot fs + (rs.length + ruTot rs) : Int) - (t.size + (s.size + ks.len + ks.tot))) < 0 := by omega
  have Hrz := Lib.hid (show rs.length + ruTot rs + ruSz (t, k, s, ks) ≤ 1048576 by unfold ruSz; simp only; omega)
  have Hrt := Lib.hid (show ks.len + ks.tot ≤ 1048576 by omega)
  have Hksz := Lib.hid (show ks.size ≤ 1048576 by have := ks.size_le; omega)
  have hbig3 : (1 : Nat) + 2 * fs.length + ruMk rs + 2 * ks.size ≤ 8388600 := by have := ed_small (rs' := rs) (by omega); have := Hksz.out; omega
  clear p0 p1 pf0 pf1 hpl q0 q1 q2 q3 qf0 qf1 qf2 qf3 hql hsf
  have hf := (hf.below hB21).more hB21.size
  have hr := hr.next hB21
  have Hbx := Lib.hid (Hbx.out.next hB21)
  have Hfx := Lib.hid (Hfx.out.next hB21)
  clear hB21
  obtain ⟨⟨fs', rs', found⟩, hres⟩ : ∃ r, setRuleR (t, k, s, ks) fs rs = r := ⟨_, rfl⟩
  have Hrs := Lib.hid (setr_res hres Hr.out Hru.out Hrz.out Hfl.out)
  have Hrl := Lib.hid (setr_len hres)
  have hbig2 : (1 : Nat) + 2 * fs'.length + ruMk rs' ≤ 8388600 := by have := ed_small' Hrs.out.2.2; have := Hrs.out.2.1; omega
  have Hres := Lib.hid hres
  clear hres
  go_upto_region 8 with (fail)
  go_cut [6, 7] (fun s6 s7 wx => CutA fs rs fs' rs' found a1 a2 c1 c2 w.heap.size (fun V => RxB V (w.heap.size + 1) w.heap.size t k s ks a c) w s6 s7 wx)
  case first =>
    have hD := (Below.refl w21.heap.size w21).drew
    have hfD := (hf.below hD).more hD.size
    have hrD := hr.next hD
    have HbD := Lib.hid (Hbx.out.next hD)
    have HfD := Lib.hid (Hfx.out.next hD)
    have BD := B21.trans (hD.mono B21.size)
    have BZ := (Below.refl w21.drew.heap.size w21.drew).alloc (Nat.le_refl _) (.cells #[.slice none 0 0, .slice none 0 0] 36)
    have hfZ := (hfD.below BZ).more BZ.size
    have hrZ := hrD.next BZ
    have hEZ : BxP (w21.drew.alloc (.cells #[.slice none 0 0, .slice none 0 0] 36)) w21.heap.size (.slice none 0 0) (.slice none 0 0) 36 := BxP.new w21.drew _ _ _
    have hLb : w.heap.size + 1 < w21.heap.size := HfD.out.lt
    have HC0 := Lib.hid (sixX HbD.out HfD.out)
    go_region_held3 (fun w' => w'.cell? ⟨w.heap.size, 0, none⟩ = some (.slice a1 fs.length c1) ∧ w'.cell? ⟨w.heap.size, 1, none⟩ = some (.slice a2 rs.length c2) ∧ w'.cell? ⟨w.heap.size + 1, 0, none⟩ = some (.string t) ∧ w'.cell? ⟨w.heap.size + 1, 1, none⟩ = some (.int .i64 k) ∧ w'.cell? ⟨w.heap.size + 1, 2, none⟩ = some (.string s) ∧ w'.cell? ⟨w.heap.size + 1, 3, none⟩ = some (.slice a ks.len c)) (first | exact HC0.out | exact HC1.out | exact HC2.out | exact HC3.out | exact sixX (HbD.out.alloc _) (HfD.out.alloc _) | exact sixX (Hb3.out.alloc _) (Hf3.out.alloc _) | exact sixX (Hb33.out.alloc _) (Hf33.out.alloc _) | exact sixX (Hb4.out.alloc _) (Hf4.out.alloc _) | exact sixX ((Hb4.out.other (by omega) 0 _).other (by omega) 1 _) ((Hf4.out.other (by omega) 0 _).other (by omega) 1 _))
     ((first
      | (go_at_call 7; (first | (with_reducible refine (toProject_any a1 a2 _ _ c1 c2 fs rs w21.drew hfD hrD Hts.out).mono ?_) | refine (toProject_any a1 a2 _ _ c1 c2 fs rs (w21.drew.alloc (.cells #[.slice none 0 0, .slice none 0 0] 36)) hfZ hrZ Hts.out).mono ?_); rintro e w3 ⟨g1, g2, rfl, hx1, hx2, hB3⟩; have hT3 : Below w21.drew.heap.size w21.drew w3 := (by first | exact hB3 | exact BZ.trans (hB3.mono BZ.size)); have hs3 : w21.heap.size ≤ w3.heap.size := hT3.size; (try have hE3 := hEZ.next hB3); have Hb3 := Lib.hid (HbD.out.next hT3); have Hf3 := Lib.hid (HfD.out.next hT3); have HC1 := Lib.hid (sixX Hb3.out Hf3.out); have hx2 := hx2.more (Nat.zero_le _) (Nat.le_refl _))
      | (go_at_call 8; (first | (with_reducible refine (toRule_any t k s ks a ks.len c w3 Hf3.out.full Hrt.out).mono ?_) | refine (toRule_any t k s ks a ks.len c (w3.alloc (.cells #[.slice none 0 0, .slice none 0 0] 36)) (Hf3.out.alloc _).full Hrt.out).mono ?_); rintro e w33 ⟨gr, rfl, hrk, hB33⟩; have hyk := hrk.more (Nat.zero_le _) (Nat.le_refl _); have hU33 : Below w3.heap.size w3 w33 := (by first | exact hB33 | exact ((Below.refl w3.heap.size w3).alloc (Nat.le_refl _) (.cells #[.slice none 0 0, .slice none 0 0] 36)).trans (hB33.mono (by simp))); have hs33 : w3.heap.size ≤ w33.heap.size := hU33.size; (try have hE33 : BxP w33 w3.heap.size (.slice none 0 0) (.slice none 0 0) 36 := (BxP.new w3 (.slice none 0 0) (.slice none 0 0) 36).next hB33); (try have hE33 := hE3.next hB33); have hT33 := hT3.trans (hU33.mono hT3.size); have hy1 := (hx1.below hU33).more hU33.size; have hy2 := hx2.next hU33; have Hb33 := Lib.hid (Hb3.out.next hU33); have Hf33 := Lib.hid (Hf3.out.next hU33); have HC2 := Lib.hid (sixX Hb33.out Hf33.out); have BY := (Below.refl w33.heap.size w33).alloc (Nat.le_refl _) (.cells #[.slice none 0 0, .slice none 0 0] 36); have hy1Z := (hy1.below BY).more BY.size; have hy2Z := hy2.next BY; have hykZ := hyk.next BY)
      | (go_at_call 6; have HcN := Lib.hid ((setRuleS_of (fun rs a n c w hr hrf hz hn => rulesS_any rs a n c w hr hrf hz hn) _ _ _ _ fs.length rs.length fs rs t k s ks _ ks.len w33 hy1 (fun h => by cases h) Hfl.out hy2 hyk (Nat.le_refl _) Hf.out Hr.out Hru.out Hrz.out).mono fun e w' h => edS_o (Hres.out ▸ h)); have HcZ := Lib.hid ((setRuleS_of (fun rs a n c w hr hrf hz hn => rulesS_any rs a n c w hr hrf hz hn) _ _ _ _ fs.length rs.length fs rs t k s ks _ ks.len (w33.alloc (.cells #[.slice none 0 0, .slice none 0 0] 36)) hy1Z (fun h => by cases h) Hfl.out hy2Z hykZ (Nat.le_refl _) Hf.out Hr.out Hru.out Hrz.out).mono fun e w' h => edS_o (Hres.out ▸ h)); (first | (with_reducible refine HcN.out.mono ?_) | refine HcZ.out.mono ?_); rintro e w4 ⟨a0, c0, b0, d0, rfl, hk0, hkr, hB4⟩; have hU4 : Below w33.heap.size w33 w4 := (by first | exact hB4 | exact BY.trans (hB4.mono BY.size)); (try have hE4 := (BxP.new w33 (.slice none 0 0) (.slice none 0 0) 36).next hB4); (try have hE4 := hE33.next hB4); have hT4 := hT33.trans (hU4.mono hT33.size); have hs4 := hU4.size; have Hb4 := Lib.hid (Hb33.out.next hU4); have Hf4 := Lib.hid (Hf33.out.next hU4); have HC3 := Lib.hid (sixX Hb4.out Hf4.out); (try obtain ⟨z0, z1, zf0, zf1, zl⟩ := hE4.facts))))
    all_goals
      go_wp2_with fail
      go_meet
      first
        | (have hz := ed_fill (d0 := d0) hk0 hkr hE4 (by first | exact blk_lt hE33 | simp); have hBx := ed_below hT4 hE4 (show w21.heap.size ≤ _ by omega) (.slice a0 fs'.length c0) (.slice b0 rs'.length d0); exact ⟨_, a0, c0, b0, d0, rfl, rfl, edA_mk hBx hfD hrD HbD.out HfD.out (fun L V V' hL hb hx => RxB.below (show RxB V (w.heap.size + 1) w.heap.size t k s ks a c from hx) (Nat.lt_of_lt_of_le hLb hL) hb) hz.1 hz.2.1 hz.2.2, BD.trans (hBx.mono BD.size)⟩)
        | (have hz := ed_new (c0 := c0) (d0 := d0) hk0 hkr; have hBx := hT4.alloc hT4.size (.cells #[.slice a0 fs'.length c0, .slice b0 rs'.length d0] 36); exact ⟨_, a0, c0, b0, d0, rfl, rfl, edA_mk hBx hfD hrD HbD.out HfD.out (fun L V V' hL hb hx => RxB.below (show RxB V (w.heap.size + 1) w.heap.size t k s ks a c from hx) (Nat.lt_of_lt_of_le hLb hL) hb) hz.1 hz.2.1 hz.2.2, BD.trans (hBx.mono BD.size)⟩)
  case rest =>
  obtain ⟨ge, a0, c0, b0, d0, rfl, rfl, HA, B4⟩ := hcut
  obtain ⟨v4, hv4⟩ : ∃ v, v = wc := ⟨_, rfl⟩
  subst hv4
  have hL0 := B4.size
  have HA := Lib.hid HA
  obtain ⟨p0, p1, pf0, pf1, hpl⟩ := HA.out.bx.facts
  clear hf hr Hbx Hfx B21
  go_wp2_with fail
  refine (toProject_sk a1 a2 _ _ c1 c2 fs rs _ HA.out.hf HA.out.hr Hts.out).mono ?_
  rintro e w5 ⟨g3, g4, rfl, hy1, hy2, hyo, hysk, hy3, hy34, hy4, hB5⟩
  have HA := Lib.hid (HA.out.below hB5)
  have B5 := B4.trans (hB5.mono B4.size)
  clear p0 p1 pf0 pf1 hpl
  have hA5 := hB5.size
  have hB50 := (Below.refl w5.heap.size w5).alloc (Nat.le_refl _) (.cells #[.slice (some ⟨g3, 0, none⟩) fs.length fs.length, .slice (some ⟨g4, 0, none⟩) rs.length rs.length] 36)
  go_upto_region 10 with (fail)
  generalize hv5 : w5.alloc (.cells #[.slice (some ⟨g3, 0, none⟩) fs.length fs.length, .slice (some ⟨g4, 0, none⟩) rs.length rs.length] 36) = v5 at *
  have hz5 : v5.heap.size = w5.heap.size + 1 := by rw [← hv5]; simp
  have HB : FrB v5 v4.heap.size (w5.heap.size + 1) g3 g4 w5.heap.size fs rs :=
    ⟨by have := (hy1.below hB50).more hB50.size; rwa [hz5] at this, by have := (hy2.next hB50).more (Nat.zero_le _) (Nat.le_refl _); rwa [hz5] at this, (hB50.block g3 (by omega)).trans hyo, hysk.next (Nat.le_refl _) hB50, by rw [← hv5]; exact BxP.new _ _ _ _, hy3, hy34, hy4, Nat.lt_succ_self _⟩
  have HB := Lib.hid HB
  have HA := Lib.hid (HA.out.below (hB50.mono (by omega)))
  have B50 := B5.trans (hB50.mono B5.size)
  have Hz5 := Lib.hid hz5
  have hz5' : w5.heap.size + 1 ≤ v5.heap.size := by omega
  clear hy1 hy2 hyo hysk hB5 hB50 hv5 hz5
  obtain ⟨q0, q1, q2, q3, qf0, qf1, qf2, qf3, hql⟩ := (show RxB v5 (w.heap.size + 1) w.heap.size t k s ks a c from HA.out.ex).1.facts
  go_wp2_with fail
  refine (toRule_sk t k s ks a ks.len c v5 (show RxB v5 (w.heap.size + 1) w.heap.size t k s ks a c from HA.out.ex).full Hrt.out).mono ?_
  rintro e w6 ⟨gt5, rfl, hO6, hB6⟩
  have HA := Lib.hid (HA.out.below (hB6.mono (by omega)))
  have HB := Lib.hid (HB.out.below (hB6.mono hz5'))
  have B6 := B50.trans (hB6.mono B50.size)
  have hA6 := hB6.size
  have hB60 := (Below.refl w6.heap.size w6).alloc (Nat.le_refl _) (.cells #[.string t, .int .i64 k, .string s, .slice (some ⟨gt5, 0, none⟩) ks.len ks.len] 44)
  have HR := Lib.hid (FrR.mk_ (t := t) (k := k) (s := s) hO6 hB6)
  clear q0 q1 q2 q3 qf0 qf1 qf2 qf3 hql
  go_upto_region 11 with (fail)
  generalize hv6 : w6.alloc (.cells #[.string t, .int .i64 k, .string s, .slice (some ⟨gt5, 0, none⟩) ks.len ks.len] 44) = v6 at *
  have hz6 : v6.heap.size = w6.heap.size + 1 := by rw [← hv6]; simp
  have Hz6 := Lib.hid hz6
  have hz6' : w6.heap.size + 1 ≤ v6.heap.size := by omega
  have HA := Lib.hid (HA.out.below (hB60.mono (by omega)))
  have HB := Lib.hid (HB.out.below (hB60.mono (by omega)))
  have B60 := B6.trans (hB60.mono B6.size)
  clear hO6 hB6 hB60 hv6 hz6
  have Hc7 := Lib.hid ((setRuleI_any _ _ _ _ fs.length rs.length fs rs t k s ks _ ks.len v6 (HB.out.hf.more (by omega)) (HB.out.hr.more (Nat.le_refl _) (by omega)) (HR.out.ka hz6') (Nat.le_refl _) Hf.out Hr.out Hru.out Hfl.out Hn2.out (Nat.le_refl _) Hrz.out).mono fun e w' h => edR_x (Hres.out ▸ h))
  obtain ⟨p0, p1, pf0, pf1, hpl⟩ := HB.out.bx.facts
  obtain ⟨q0, q1, q2, q3, qf0, qf1, qf2, qf3, hql⟩ := HR.out.bx.facts
  go_wp2_with fail
  refine Hc7.out.mono ?_
  rintro e w7 ⟨av, cv, a4, c4, bs7, g7, rfl, hC7, hB7⟩
  have HA := Lib.hid (HA.out.below (hB7.mono (by omega)))
  have HB := Lib.hid (HB.out.below (hB7.mono (by omega)))
  have HR := Lib.hid (HR.out.below (hB7.mono hz6'))
  have B7 := B60.trans (hB7.mono B60.size)
  have hA7 := hB7.size
  have hB70 := (Below.refl w7.heap.size w7).alloc (Nat.le_refl _) (.cells #[.slice av fs'.length cv, .slice a4 rs'.length c4] 36)
  have HC := hC7 (w7.heap.size + 1) (Nat.lt_succ_self _)
  clear hB7 Hc7 hC7 p0 p1 pf0 pf1 hpl q0 q1 q2 q3 qf0 qf1 qf2 qf3 hql
  go_upto_region 12 with (fail)
  generalize hv7 : w7.alloc (.cells #[.slice av fs'.length cv, .slice a4 rs'.length c4] 36) = v7 at *
  have hz7 : v7.heap.size = w7.heap.size + 1 := by rw [← hv7]; simp
  have hz7' : w7.heap.size + 1 ≤ v7.heap.size := by omega
  have HC := Lib.hid HC
  have HA := Lib.hid (HA.out.below (hB70.mono (by omega)))
  have HB := Lib.hid (HB.out.below (hB70.mono (by omega)))
  have HR := Lib.hid (HR.out.below (hB70.mono (by omega)))
  have B70 := B7.trans (hB70.mono B7.size)
  clear hB70 hv7 hz7
  obtain ⟨q0, q1, qf0, qf1, hql⟩ := HC.out.bx.facts
  obtain ⟨r0, r1, rf0, rf1, hrl⟩ := HA.out.b0.facts
  go_wp2_with fail
  refine (eqProject_any av a4 a0 b0 cv c4 c0 d0 fs' rs' _ (HC.out.files) (HC.out.rules (by omega)) (HA.out.h0.more (by omega)) (HA.out.r0.more (Nat.le_refl _) (by omega)) Hrs.out.1 (by have := Hrs.out.2.1; unfold maxLen; omega) (by have := Hrs.out.2.2; unfold maxLen; omega)).mono ?_
  rintro e w8 ⟨rfl, hB8⟩
  have hs8 := hB8.size
  have HA := Lib.hid (HA.out.below (hB8.mono (by omega)))
  have HB := Lib.hid (HB.out.below (hB8.mono (by omega)))
  have HC := Lib.hid (HC.out.below (hB8.mono (by omega)))
  have HR := Lib.hid (HR.out.below (hB8.mono (by omega)))
  have B8 := B70.trans (hB8.mono (by omega))
  clear q0 q1 qf0 qf1 hql r0 r1 rf0 rf1 hrl
  have hfo : (found == found) = true := by simp
  obtain ⟨p0, p1, pf0, pf1, hpl⟩ := HA.out.bx.facts
  obtain ⟨q0, q1, qf0, qf1, hql⟩ := HB.out.bx.facts
  go_wp2_with fail
  have hD := (Below.refl w8.heap.size w8).drew
  have hDs := hD.size
  have HA := Lib.hid (HA.out.below (hD.mono (by omega)))
  have HB := Lib.hid (HB.out.below (hD.mono (by omega)))
  have HC := Lib.hid (HC.out.below (hD.mono (by omega)))
  have HR := Lib.hid (HR.out.below (hD.mono (by omega)))
  have BD := B8.trans (hD.mono (by omega))
  have HC0 := Lib.hid (bxP_four (And.intro HA.out.bx HB.out.bx))
  clear p0 p1 pf0 pf1 hpl q0 q1 qf0 qf1 hql
  go_region_held3 (fun w' => w'.cell? ⟨w.heap.size, 0, none⟩ = some (.slice a1 fs.length c1) ∧ w'.cell? ⟨w.heap.size, 1, none⟩ = some (.slice a2 rs.length c2) ∧ w'.cell? ⟨w5.heap.size, 0, none⟩ = some (.slice (some ⟨g3, 0, none⟩) fs.length fs.length) ∧ w'.cell? ⟨w5.heap.size, 1, none⟩ = some (.slice (some ⟨g4, 0, none⟩) rs.length rs.length)) (first | exact HC0.out | exact HC1.out | exact HC2.out)
    ((first
      | (go_at_call 7; refine (toProject_any a1 a2 _ _ c1 c2 fs rs _ (HA.out.hf.more (by omega)) (HA.out.hr.more (Nat.le_refl _) (by omega)) Hts.out).mono ?_; rintro e v1 ⟨g5, g6, rfl, hu1, hu2, hC1⟩; have hu2' := hu2.more (Nat.zero_le _) (Nat.le_refl _); have hC1s := hC1.size; have HAx := Lib.hid (HA.out.below (hC1.mono (by omega))); have HBx := Lib.hid (HB.out.below (hC1.mono (by omega))); have HCx := Lib.hid (HC.out.below (hC1.mono (by omega))); have HRx := Lib.hid (HR.out.below (hC1.mono (by omega))); have Be := BD.trans (hC1.mono (by omega)); have HC1 := Lib.hid (bxP_four (And.intro HAx.out.bx HBx.out.bx)))
      | (go_at_call 10; refine (eqProject_any _ _ _ _ _ _ _ _ fs rs _ (HBx.out.hf.more (by omega)) (HBx.out.hr.more (Nat.le_refl _) (by omega)) hu1 hu2' Hr.out Hn1.out Hn2.out).mono ?_; rintro e v2 ⟨rfl, hC2⟩; have hC2s := hC2.size; have HAy := Lib.hid (HAx.out.below (hC2.mono (by omega))); have HBy := Lib.hid (HBx.out.below (hC2.mono (by omega))); have HCy := Lib.hid (HCx.out.below (hC2.mono (by omega))); have HRy := Lib.hid (HRx.out.below (hC2.mono (by omega))); have Bg := Be.trans (hC2.mono (by omega)); have HC2 := Lib.hid (bxP_four (And.intro HAy.out.bx HBy.out.bx)))))
  all_goals
    clear HC0 HC1 HC2 hu1 hu2 hu2' hC1 hC2 HAx HBx HCx HRx HA HB HC HR
    have HA := HAy
    have HB := HBy
    have HC := HCy
    have HR := HRy
    clear HAy HBy HCy HRy
    obtain ⟨p0, p1, p2, p3, pf0, pf1, pf2, pf3, hpl⟩ := HR.out.bx.facts
    obtain ⟨q0, q1, q2, q3, qf0, qf1, qf2, qf3, hql⟩ := (show RxB v2 (w.heap.size + 1) w.heap.size t k s ks a c from HA.out.ex).1.facts
    go_wp2_with fail
    have hD := (Below.refl v2.heap.size v2).drew
    have hDs2 := hD.size
    have HA := Lib.hid (HA.out.below (hD.mono (by omega)))
    have HB := Lib.hid (HB.out.below (hD.mono (by omega)))
    have HC := Lib.hid (HC.out.below (hD.mono (by omega)))
    have HR := Lib.hid (HR.out.below (hD.mono (by omega)))
    have BD := Bg.trans (hD.mono (by omega))
    have HX := Lib.hid (show RxB v2.drew (w.heap.size + 1) w.heap.size t k s ks a c from HA.out.ex)
    have HC0 := Lib.hid (eightR HX.out HR.out.bx)
    clear p0 p1 p2 p3 pf0 pf1 pf2 pf3 hpl q0 q1 q2 q3 qf0 qf1 qf2 qf3 hql
    go_region_held3 (fun w' => w'.cell? ⟨w.heap.size + 1, 0, none⟩ = some (.string t) ∧ w'.cell? ⟨w.heap.size + 1, 1, none⟩ = some (.int .i64 k) ∧ w'.cell? ⟨w.heap.size + 1, 2, none⟩ = some (.string s) ∧ w'.cell? ⟨w.heap.size + 1, 3, none⟩ = some (.slice a ks.len c) ∧ w'.cell? ⟨w6.heap.size, 0, none⟩ = some (.string t) ∧ w'.cell? ⟨w6.heap.size, 1, none⟩ = some (.int .i64 k) ∧ w'.cell? ⟨w6.heap.size, 2, none⟩ = some (.string s) ∧ w'.cell? ⟨w6.heap.size, 3, none⟩ = some (.slice (some ⟨gt5, 0, none⟩) ks.len ks.len)) (first | (with_reducible exact HC0.out) | (with_reducible exact HC1.out) | (with_reducible exact HC2.out))
      ((first
        | (go_at_call 8; (with_reducible refine (toRule_any t k s ks a ks.len c v2.drew HX.out.full Hrt.out).mono ?_); rintro e v11 ⟨g6, rfl, hu1, hC1⟩; have hu1' := hu1.more (Nat.zero_le _) (Nat.le_refl _); have hC1s := hC1.size; have HAx := Lib.hid (HA.out.below (hC1.mono (by omega))); have HBx := Lib.hid (HB.out.below (hC1.mono (by omega))); have HCx := Lib.hid (HC.out.below (hC1.mono (by omega))); have HRx := Lib.hid (HR.out.below (hC1.mono (by omega))); have Be := BD.trans (hC1.mono (by omega)); have HC1 := Lib.hid (eightR (HX.out.next hC1) HRx.out.bx); have HQ11 := Lib.hid (eqRule_any t k s ks _ _ _ ks.len ks.len v11 (HRx.out.ka (by omega)) hu1' Hk2.out.1 Hk2.out.2.2.2))
        | (go_at_call 11; (with_reducible refine HQ11.out.mono ?_); rintro e v21 ⟨rfl, hC2⟩; have hC2s := hC2.size; have HAy := Lib.hid (HAx.out.below (hC2.mono (by omega))); have HBy := Lib.hid (HBx.out.below (hC2.mono (by omega))); have HCy := Lib.hid (HCx.out.below (hC2.mono (by omega))); have HRy := Lib.hid (HRx.out.below (hC2.mono (by omega))); have Bg2 := Be.trans (hC2.mono (by omega)); have HC2 := Lib.hid (eightR ((HX.out.next hC1).next hC2) HRy.out.bx))))
  all_goals
    clear HC0 HC1 HC2 hu1 hu1' hC1 hC2 HAx HBx HCx HRx HA HB HC HR HX
    have HA := HAy
    have HB := HBy
    have HC := HCy
    have HR := HRy
    clear HAy HBy HCy HRy Bg
    have Bg := Bg2
    obtain ⟨v22, hv22⟩ : ∃ v, v = v21 := ⟨_, rfl⟩
    subst hv22
    obtain ⟨q0, q1, qf0, qf1, hql⟩ := HB.out.bx.facts
    go_wp2_with fail
    refine (markP_any g3 g4 _ _ 1 w5.heap.size fs rs v22 HB.out.own HB.out.sk HB.out.l12 HB.out.l2 (by omega) Hts.out (by omega) (by omega)).mono ?_
    rintro e w9 ⟨rfl, hT9⟩
    have hs9 := hT9.size
    have hl3 := HB.out.l1
    have hM9 := hT9.below (show g3 ≤ v22.heap.size by have := HB.out.l12; have := HB.out.l2; omega)
    have HA := Lib.hid (HA.out.below (hM9.mono (by omega)))
    have HC := Lib.hid (HC.out.tch (by omega) (hT9.more (Nat.le_refl _) (by omega)))
    have B9 := Bg.trans (hM9.mono (by omega))
    have HR := Lib.hid (HR.out.tch (by omega) hT9 (by omega))
    clear q0 q1 qf0 qf1 hql hT9 hM9 HB
    obtain ⟨q0, q1, q2, q3, qf0, qf1, qf2, qf3, hql⟩ := HR.out.bx.facts
    go_wp2_with fail
    refine (markRu_any t k s ks _ _ _ (1 + 2 * fs.length + ruMk rs) _ _ w9 HR.out.kk.2 (by have := HR.out.lx; omega) (by omega) (by omega) Hk2.out.2.2.2).mono ?_
    rintro e w91 ⟨rfl, hT91⟩
    have hs91 := hT91.size
    have hM91 := hT91.below (by omega)
    have HA := Lib.hid (HA.out.below (hM91.mono (by omega)))
    have HC := Lib.hid (HC.out.tch (by omega) (hT91.more (Nat.le_refl _) (by omega)))
    have B91 := B9.trans (hM91.mono (by omega))
    clear q0 q1 q2 q3 qf0 qf1 qf2 qf3 hql hT91 hM91 HR B9
    have B9 := B91
    have hneg : ¬ (((1 + 2 * fs.length + ruMk rs + 2 * ks.size : Nat) : Int) < 0) := by omega
    obtain ⟨q0, q1, qf0, qf1, hql⟩ := HC.out.bx.facts
    obtain ⟨r0, r1, rf0, rf1, hrl⟩ := HA.out.b0.facts
    go_wp2_with fail
    refine (eqProject_any av a4 a0 b0 cv c4 c0 d0 fs' rs' _ (HC.out.files) (HC.out.rules (by omega)) (HA.out.h0.more (by omega)) (HA.out.r0.more (Nat.le_refl _) (by omega)) Hrs.out.1 (by have := Hrs.out.2.1; unfold maxLen; omega) (by have := Hrs.out.2.2; unfold maxLen; omega)).mono ?_
    rintro e w10 ⟨rfl, hB10⟩
    have hs10 := hB10.size
    have HA := Lib.hid (HA.out.below (hB10.mono (by omega)))
    have HC := Lib.hid (HC.out.below (hB10.mono (by omega)))
    have B10 := B9.trans (hB10.mono (by omega))
    clear q0 q1 qf0 qf1 hql r0 r1 rf0 rf1 hrl
    obtain ⟨q0, q1, qf0, qf1, hql⟩ := HC.out.bx.facts
    go_wp2_with fail
    refine (markPX_any _ _ _ g7 fs' rs' bs7 av a4 cv c4 w10 HC.out (by omega) Hrs.out.2.1 Hrl.out (ed_small' Hrs.out.2.2)).mono ?_
    rintro e w11 ⟨rfl, hN11, hM11⟩
    have hs11 := hM11.size
    have hls := HC.out.ls
    have HA := Lib.hid (HA.out.below (hM11.mono (by omega)))
    have B11 := B10.trans (hM11.mono (by omega))
    have HN := Lib.hid hN11
    clear q0 q1 qf0 qf1 hql hM11 hN11 HC
    obtain ⟨q0, q1, qf0, qf1, hql⟩ := HN.out.bx.facts
    go_wp2_with fail
    refine (heldPX_any _ _ _ g7 fs' rs' bs7 av a4 cv c4 _ HN.out (by omega) Hrs.out.2.1 Hrl.out (ed_small' Hrs.out.2.2)).mono ?_
    rintro e w12 ⟨rfl, hB12⟩
    have hs12 := hB12.size
    have HA := Lib.hid (HA.out.below (hB12.mono (by omega)))
    have HN := Lib.hid (HN.out.below (hB12.mono (by omega)))
    have B12 := B11.trans (hB12.mono (by omega))
    clear q0 q1 qf0 qf1 hql
    have hneg2 : ¬ (((1 + 2 * fs'.length + ruMk rs' : Nat) : Int) < 0) := by omega
    obtain ⟨p0, p1, pf0, pf1, hpl⟩ := HA.out.bx.facts
    go_upto_region 31 with (fail)
    go_cut [15, 16] (fun s14 s15 wx => CutB fs' rs' found w12.heap.size w12 s14 s15 wx)
    case first =>
      have hD := (Below.refl w12.heap.size w12).drew
      have hfD := (((HA.out.hf.more (by omega)).below hD).more hD.size)
      have hrD := (HA.out.hr.more (Nat.le_refl _) (by omega)).next hD
      have HbD := Lib.hid (HA.out.bx.next hD)
      have HfD := Lib.hid ((show RxB w12 (w.heap.size + 1) w.heap.size t k s ks a c from HA.out.ex).next hD)
      have BZ := (Below.refl w12.drew.heap.size w12.drew).alloc (Nat.le_refl _) (.cells #[.slice none 0 0, .slice none 0 0] 36)
      have hfZ := (hfD.below BZ).more BZ.size
      have hrZ := hrD.next BZ
      have hEZ : BxP (w12.drew.alloc (.cells #[.slice none 0 0, .slice none 0 0] 36)) w12.heap.size (.slice none 0 0) (.slice none 0 0) 36 := BxP.new w12.drew _ _ _
      have hLb : w.heap.size + 1 < w12.heap.size := HfD.out.lt
      have HC0 := Lib.hid (sixX HbD.out HfD.out)
      go_region_held3 (fun w' => w'.cell? ⟨w.heap.size, 0, none⟩ = some (.slice a1 fs.length c1) ∧ w'.cell? ⟨w.heap.size, 1, none⟩ = some (.slice a2 rs.length c2) ∧ w'.cell? ⟨w.heap.size + 1, 0, none⟩ = some (.string t) ∧ w'.cell? ⟨w.heap.size + 1, 1, none⟩ = some (.int .i64 k) ∧ w'.cell? ⟨w.heap.size + 1, 2, none⟩ = some (.string s) ∧ w'.cell? ⟨w.heap.size + 1, 3, none⟩ = some (.slice a ks.len c)) (first | exact HC0.out | exact HC1.out | exact HC2.out | exact HC3.out | exact sixX (HbD.out.alloc _) (HfD.out.alloc _) | exact sixX (Hb3.out.alloc _) (Hf3.out.alloc _) | exact sixX (Hb33.out.alloc _) (Hf33.out.alloc _) | exact sixX (Hb4.out.alloc _) (Hf4.out.alloc _) | exact sixX ((Hb4.out.other (by omega) 0 _).other (by omega) 1 _) ((Hf4.out.other (by omega) 0 _).other (by omega) 1 _))
       ((first
        | (go_at_call 7; (first | (with_reducible refine (toProject_any a1 a2 _ _ c1 c2 fs rs w12.drew hfD hrD Hts.out).mono ?_) | refine (toProject_any a1 a2 _ _ c1 c2 fs rs (w12.drew.alloc (.cells #[.slice none 0 0, .slice none 0 0] 36)) hfZ hrZ Hts.out).mono ?_); rintro e w3 ⟨g1, g2, rfl, hx1, hx2, hB3⟩; have hT3 : Below w12.drew.heap.size w12.drew w3 := (by first | exact hB3 | exact BZ.trans (hB3.mono BZ.size)); have hs3 : w12.heap.size ≤ w3.heap.size := hT3.size; (try have hE3 := hEZ.next hB3); have Hb3 := Lib.hid (HbD.out.next hT3); have Hf3 := Lib.hid (HfD.out.next hT3); have HC1 := Lib.hid (sixX Hb3.out Hf3.out); have hx2 := hx2.more (Nat.zero_le _) (Nat.le_refl _))
        | (go_at_call 8; (first | (with_reducible refine (toRule_any t k s ks a ks.len c w3 Hf3.out.full Hrt.out).mono ?_) | refine (toRule_any t k s ks a ks.len c (w3.alloc (.cells #[.slice none 0 0, .slice none 0 0] 36)) (Hf3.out.alloc _).full Hrt.out).mono ?_); rintro e w33 ⟨gr, rfl, hrk, hB33⟩; have hyk := hrk.more (Nat.zero_le _) (Nat.le_refl _); have hU33 : Below w3.heap.size w3 w33 := (by first | exact hB33 | exact ((Below.refl w3.heap.size w3).alloc (Nat.le_refl _) (.cells #[.slice none 0 0, .slice none 0 0] 36)).trans (hB33.mono (by simp))); have hs33 : w3.heap.size ≤ w33.heap.size := hU33.size; (try have hE33 : BxP w33 w3.heap.size (.slice none 0 0) (.slice none 0 0) 36 := (BxP.new w3 (.slice none 0 0) (.slice none 0 0) 36).next hB33); (try have hE33 := hE3.next hB33); have hT33 := hT3.trans (hU33.mono hT3.size); have hy1 := (hx1.below hU33).more hU33.size; have hy2 := hx2.next hU33; have Hb33 := Lib.hid (Hb3.out.next hU33); have Hf33 := Lib.hid (Hf3.out.next hU33); have HC2 := Lib.hid (sixX Hb33.out Hf33.out); have BY := (Below.refl w33.heap.size w33).alloc (Nat.le_refl _) (.cells #[.slice none 0 0, .slice none 0 0] 36); have hy1Z := (hy1.below BY).more BY.size; have hy2Z := hy2.next BY; have hykZ := hyk.next BY)
        | (go_at_call 9; have HcN := Lib.hid ((setRuleI_any _ _ _ _ fs.length rs.length fs rs t k s ks _ ks.len w33 hy1 hy2 hyk (Nat.le_refl _) Hf.out Hr.out Hru.out Hfl.out Hn2.out (Nat.le_refl _) Hrz.out).mono fun e w' h => edR_o (Hres.out ▸ h)); have HcZ := Lib.hid ((setRuleI_any _ _ _ _ fs.length rs.length fs rs t k s ks _ ks.len (w33.alloc (.cells #[.slice none 0 0, .slice none 0 0] 36)) hy1Z hy2Z hykZ (Nat.le_refl _) Hf.out Hr.out Hru.out Hfl.out Hn2.out (Nat.le_refl _) Hrz.out).mono fun e w' h => edR_o (Hres.out ▸ h)); (first | (with_reducible refine HcN.out.mono ?_) | refine HcZ.out.mono ?_); rintro e w4 ⟨av9, cv9, a9, c9, bs9, g10, rfl, ho4, hd4, hq4, hB4⟩; have hU4 : Below w33.heap.size w33 w4 := (by first | exact hB4 | exact BY.trans (hB4.mono BY.size)); (try have hE4 := (BxP.new w33 (.slice none 0 0) (.slice none 0 0) 36).next hB4); (try have hE4 := hE33.next hB4); have hT4 := hT33.trans (hU4.mono hT33.size); have hs4 := hU4.size; have Hb4 := Lib.hid (Hb33.out.next hU4); have Hf4 := Lib.hid (Hf33.out.next hU4); have HC3 := Lib.hid (sixX Hb4.out Hf4.out); (try obtain ⟨z0, z1, zf0, zf1, zl⟩ := hE4.facts))))
      all_goals
        go_wp2_with fail
        go_meet
        first
          | (have hz := edC_fill (S := w12.heap.size) ho4 hd4 hq4 hE4 (by first | exact blk_lt hE33 | simp) (show w12.heap.size ≤ _ by omega); have hBx := ed_below hT4 hE4 (show w12.heap.size ≤ _ by omega) (.slice av9 fs'.length cv9) (.slice a9 rs'.length c9); exact ⟨_, g10, av9, cv9, a9, c9, bs9, rfl, rfl, hz, hD.trans (hBx.mono hD.size)⟩)
          | (have hz := edC_make (S := w12.heap.size) ho4 hd4 hq4 (by first | exact Nat.le_trans hs3 hs33 | (simp; omega)) (by first | exact hB4.size); have hBx := hT4.alloc hT4.size (.cells #[.slice av9 fs'.length cv9, .slice a9 rs'.length c9] 36); exact ⟨_, g10, av9, cv9, a9, c9, bs9, rfl, rfl, hz, hD.trans (hBx.mono hD.size)⟩)
    case rest =>
    obtain ⟨gq, g10, av9, cv9, a9, c9, bs9, rfl, rfl, HQ, hB15⟩ := hcut
    obtain ⟨w15, hw15⟩ : ∃ v, v = wc := ⟨_, rfl⟩
    subst hw15
    have hs15 := hB15.size
    have HQ := Lib.hid HQ
    have HA := Lib.hid (HA.out.below (hB15.mono (by omega)))
    have HN := Lib.hid (HN.out.below (hB15.mono (by omega)))
    have B15 := B12.trans (hB15.mono (by omega))
    obtain ⟨q0, q1, qf0, qf1, hql⟩ := HQ.out.bx.facts
    obtain ⟨r0, r1, rf0, rf1, hrl⟩ := HA.out.b0.facts
    go_wp2_with fail
    refine (eqProject_any av9 a9 a0 b0 cv9 c9 c0 d0 fs' rs' _ (HQ.out.files) (HQ.out.rules (by omega)) (HA.out.h0.more (by omega)) (HA.out.r0.more (Nat.le_refl _) (by omega)) Hrs.out.1 (by have := Hrs.out.2.1; unfold maxLen; omega) (by have := Hrs.out.2.2; unfold maxLen; omega)).mono ?_
    rintro e w16 ⟨rfl, hB16⟩
    have hs16 := hB16.size
    have HA := Lib.hid (HA.out.below (hB16.mono (by omega)))
    have HN := Lib.hid (HN.out.below (hB16.mono (by omega)))
    have B16 := B15.trans (hB16.mono (by omega))
    clear q0 q1 qf0 qf1 hql r0 r1 rf0 rf1 hrl HQ
    obtain ⟨q0, q1, qf0, qf1, hql⟩ := HN.out.bx.facts
    go_wp2_with fail
    refine (heldPX_any _ _ _ g7 fs' rs' bs7 av a4 cv c4 _ HN.out (by omega) Hrs.out.2.1 Hrl.out (ed_small' Hrs.out.2.2)).mono ?_
    rintro e w17 ⟨rfl, hB17⟩
    have B17 := B16.trans (hB17.mono (by omega))
    go_wp2_with fail
    go_ret
    exact ⟨rfl, B17⟩



end Go.Proofs.YtmmjeokmoffdpaaGreat
