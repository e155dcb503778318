/-
  The exact law FnExactFindRule, walked.
-/
import Derived.Test.YtgjanokaoiaaeaaPrS
import Derived.Test.YtgjanokaoiaaeaaFrS
import Derived.Test.YtgjanokaoiaaeaaFrI
import Derived.Test.YtgjanokaoiaaeaaMarkP
import Derived.Test.YtgjanokaoiaaeaaBkW
import Derived.Test.YtgjanokaoiaaeaaWalkPV
import Derived.Deep.RegionHeld3
namespace Go.Proofs.Ytgjanokaoiaaeaa
set_option linter.unusedVariables false
set_option linter.unusedSimpArgs false
open Go.RowKit

/-- what lies below L through the whole walk: the argument and the reference's answer, with their boxes -/
structure FrA (W : World) (L gp ge : Nat) (fs : List Fl) (rs : List Ru) (k : Int) (s : ByteArray) (ks : Fo) (a1 a2 a0 : Option Addr) (c1 c2 c0 : Nat) : Prop where
  hf : FilesAt W L a1 fs.length fs
  hr : RuAt W 0 L rs a2 rs.length
  h0 : KA W 0 L ks a0 ks.len
  bx : BxP W gp (.slice a1 fs.length c1) (.slice a2 rs.length c2) 25
  b0 : BxE W ge k s (.slice a0 ks.len c0) 37
  lp : gp < L
  le : ge < L
/-- the copy of the argument, below S -/
structure FrB (W : World) (L S g1 g2 gx : Nat) (fs : List Fl) (rs : List Ru) : Prop where
  hf : FilesAt W S (some ⟨g1, 0, none⟩) fs.length fs
  hr : RuAt W 0 S rs (some ⟨g2, 0, none⟩) rs.length
  own : OwnF W 68 g1 fs
  sk : SkR W (g2 + 1) gx rs g2 rs.length
  bx : BxP W gx (.slice (some ⟨g1, 0, none⟩) fs.length fs.length) (.slice (some ⟨g2, 0, none⟩) rs.length rs.length) 31
  l1 : L ≤ g1
  l12 : g1 < g2
  l2 : g2 < gx
  lx : gx < S
/-- the program's answer, between S and G -/
structure FrC (W : World) (S G gy g7 : Nat) (k : Int) (s : ByteArray) (ks bk : Fo) (a7 : Option Addr) (c7 : Nat) : Prop where
  hk : KA W S G ks a7 ks.len
  sep : SepA W bk g7 a7 ks.len
  nd : (blksA g7 bk).Nodup
  in_ : ∀ x ∈ blksA g7 bk, S ≤ x ∧ x < gy
  sz : bk.size = ks.size
  bx : BxE W gy k s (.slice a7 ks.len c7) 37
  ls : S ≤ gy
  ly : gy < G
section
variable {W W' : World} {L S G gp ge gx gy g1 g2 g7 c0 c1 c2 c7 : Nat} {fs : List Fl} {rs : List Ru} {k : Int} {s : ByteArray} {ks bk : Fo} {a1 a2 a0 a7 : Option Addr}
theorem FrA.below (h : FrA W L gp ge fs rs k s ks a1 a2 a0 c1 c2 c0) (hb : Below L W W') : FrA W' L gp ge fs rs k s ks a1 a2 a0 c1 c2 c0 := ⟨h.hf.below hb, h.hr.below hb, h.h0.below hb, (hb.block gp h.lp).trans h.bx, (hb.block ge h.le).trans h.b0, h.lp, h.le⟩
theorem FrB.below (h : FrB W L S g1 g2 gx fs rs) (hb : Below S W W') : FrB W' L S g1 g2 gx fs rs := by
  have hlx := h.lx
  have hl2 := h.l2
  have hl12 := h.l12
  refine ⟨h.hf.below hb, h.hr.below hb, (hb.block g1 (by omega)).trans h.own, ?_, (hb.block gx h.lx).trans h.bx, h.l1, h.l12, h.l2, h.lx⟩
  obtain ⟨⟨cs, h3, h4⟩, h5⟩ := h.sk
  have hb2 := hb.block g2 (by omega)
  refine ⟨⟨cs, hb2.trans h3, h4⟩, fun i t k s ks hg => ?_⟩
  obtain ⟨a, m, c, h6, h7⟩ := h5 i t k s ks hg
  exact ⟨a, m, c, (show W'.cell? ⟨g2, i * 4 + 3, none⟩ = _ from World.cell?_of_block hb2).trans h6, h7.below (hb.mono (by omega))⟩
theorem FrC.below (h : FrC W S G gy g7 k s ks bk a7 c7) (hb : Below G W W') : FrC W' S G gy g7 k s ks bk a7 c7 :=
  ⟨h.hk.below hb, h.sep.keep fun x hx _ => hb.block x (by have := h.in_ x hx; have := h.ly; omega), h.nd, h.in_, h.sz, (hb.block gy h.ly).trans h.bx, h.ls, h.ly⟩
/-- .. where only the copy of the argument is written to -/
theorem FrC.tch (h : FrC W S G gy g7 k s ks bk a7 c7) (hG : G ≤ W.heap.size) (hb : Tch L S W W') : FrC W' S G gy g7 k s ks bk a7 c7 := by
  have hly := h.ly
  have hls := h.ls
  refine ⟨h.hk.keep (Nat.le_refl _) (Nat.le_refl _) fun p h1 h2 => World.cell?_of_block (hb.out p.block (by omega) (.inr h1)), h.sep.keep fun x hx h1 => hb.out x h1 (.inr (h.in_ x hx).1), h.nd, h.in_, h.sz, (hb.out gy (by omega) (.inr hls)).trans h.bx, h.ls, h.ly⟩
theorem Tch.below (h : Tch L S W W') (hL : L ≤ W.heap.size) : Below L W W' := ⟨h.os, h.tape, h.output, h.size, fun g hg => h.out g (by omega) (.inl hg)⟩
theorem TchL.below {bs : List Nat} (h : TchL bs W W') (hL : S ≤ W.heap.size) (hbs : ∀ x ∈ bs, S ≤ x) : Below S W W' := ⟨h.os, h.tape, h.output, h.size, fun g hg => h.out g (by omega) fun hx => by have := hbs g hx; omega⟩
/-- the answer's operands are few and fit -/
theorem findP_fits {x : ByteArray} {found : Bool} (hrf : RuFits rs) (h : findP fs rs x = (k, s, ks, found)) : ks.Fits ∧ ks.len ≤ maxLen ∧ ks.size ≤ 1000 := by
  unfold findP at h
  split at h
  · rename_i hv
    cases hf : findB rs x with
    | none =>
      rw [hf] at h
      simp only [Prod.mk.injEq] at h
      obtain ⟨_, _, rfl, _⟩ := h
      exact ⟨trivial, by simp [Fo.len], by simp [Fo.size]⟩
    | some y =>
      obtain ⟨k', s', ks'⟩ := y
      rw [hf] at h
      simp only [Prod.mk.injEq] at h
      obtain ⟨rfl, rfl, rfl, _⟩ := h
      have hm := findB_some hf
      obtain ⟨_, _, h3⟩ := valid_good ((proj_sizes hv).2.2.2 _ hm).2.2
      have h4 := hrf _ hm
      simp only at h3 h4
      exact ⟨h4.2.2.2, h4.2.2.1, by omega⟩
  · simp only [Prod.mk.injEq] at h
    obtain ⟨_, _, rfl, _⟩ := h
    exact ⟨trivial, by simp [Fo.len], by simp [Fo.size]⟩
end

set_option maxRecDepth 100000 in
set_option maxHeartbeats 16000000 in
theorem walkFnExactFindRule (a1 a2 : Option Addr) (n1 n2 c1 c2 : Nat) (fs : List Fl) (rs : List Ru) (x : ByteArray) (w : World) (h : InP w fs rs a1 a2 n1 n2) (hx : x.size ≤ maxLen) :
    Calls Try.prog 4 #[.agg #[.slice a1 n1 c1, .slice a2 n2 c2], .string x] w fun e w' => e = .returned (.bool true) ∧ Below w.heap.size w w' := by
  obtain ⟨hf, hff, hn1, hr, hrf, hn2⟩ := h
  obtain rfl := hf.1
  obtain rfl := hr.1
  have B1 := (Below.refl w.heap.size w).alloc (Nat.le_refl _) (.cells #[.slice a1 fs.length c1, .slice a2 rs.length c2] 25)
  have hf := (hf.below B1).more B1.size
  have hr := hr.next B1
  have Hbx := Lib.hid (BxP.new w (.slice a1 fs.length c1) (.slice a2 rs.length c2) 25)
  have hxm := hx
  unfold maxLen at hxm
  by_cases hxl : (1048576 : Int) < (x.size : Int)
  case pos =>
    go_enter Try.func4, Try.ntmps4
    go_wp2_with fail
    go_ret
    exact ⟨rfl, B1⟩
  case neg =>
  by_cases hsz : (fs.length + tot fs + (rs.length + ruTot rs) : Int) ≤ 1048576
  case neg =>
    have Hz := Lib.hid (show szP 1048576 fs rs = -1 from by unfold szP; rw [if_neg hsz])
    clear hsz
    go_enter Try.func4, Try.ntmps4
    go_wp2_with fail
    refine (szProject_any a1 a2 _ _ c1 c2 fs rs 1048576 _ hf hr hff hrf hn1 hn2 (by omega) (by omega)).mono ?_
    rintro e w2 ⟨rfl, hB2⟩
    have B2 := B1.trans (hB2.mono B1.size)
    rw [Hz.out]
    go_wp2_with fail
    go_ret
    exact ⟨rfl, B2⟩
  case pos =>
  have Hz := Lib.hid (show szP 1048576 fs rs = 1048576 - (fs.length + tot fs + (rs.length + ruTot rs)) from by unfold szP; rw [if_pos hsz])
  have Hf := Lib.hid hff
  have Hr := Lib.hid hrf
  have Hn1 := Lib.hid hn1
  have Hn2 := Lib.hid hn2
  have Hx := Lib.hid hx
  have Hts := Lib.hid (show fs.length + tot fs + (rs.length + ruTot rs) ≤ 1048576 by omega)
  have Hrs := Lib.hid (show rs.length + ruTot rs ≤ 1048576 by omega)
  have hpos : ¬ (1048576 - (fs.length + tot fs + (rs.length + ruTot rs) : Int)) < 0 := by omega
  clear hsz hff hrf hn1 hn2 hx
  go_enter Try.func4, Try.ntmps4
  go_wp2_with fail
  refine (szProject_any a1 a2 _ _ c1 c2 fs rs 1048576 _ hf hr Hf.out Hr.out Hn1.out Hn2.out (by omega) (by omega)).mono ?_
  rintro e w2 ⟨rfl, hB2⟩
  have hf := (hf.below hB2).more hB2.size
  have hr := hr.next hB2
  have Hbx := Lib.hid (Hbx.out.next hB2)
  have B2 := B1.trans (hB2.mono B1.size)
  obtain ⟨p0, p1, pf0, pf1, hpl⟩ := Hbx.out.facts
  rw [Hz.out]
  go_wp2_with fail
  refine (toProject_any a1 a2 _ _ c1 c2 fs rs _ hf hr Hts.out).mono ?_
  rintro e w3 ⟨g1, g2, rfl, hx1, hx2, hB3⟩
  have hf := (hf.below hB3).more hB3.size
  have hr := hr.next hB3
  have Hbx := Lib.hid (Hbx.out.next hB3)
  have B3 := B2.trans (hB3.mono B2.size)
  clear p0 p1 pf0 pf1 hpl
  obtain ⟨⟨k, s, ks, found⟩, hres⟩ : ∃ r, findP fs rs x = r := ⟨_, rfl⟩
  have Hc4 := Lib.hid (findRS_of (fun rs a n c w hr hrf hz hn => rulesS_any rs a n c w hr hrf hz hn) _ _ _ _ fs.length rs.length fs rs x _ hx1 (hx2.more (Nat.zero_le _) (Nat.le_refl _)) Hf.out Hr.out Hn1.out Hn2.out Hrs.out)
  rw [hres] at Hc4
  dsimp only at Hc4
  go_wp2_with fail
  refine Hc4.out.mono ?_
  rintro e w4 ⟨a0, c0, rfl, hk0, hB4⟩
  have hfit := findP_fits Hr.out hres
  have Hft := Lib.hid hfit
  have hB40 := hB4.alloc hB4.size (.cells #[.int .i64 k, .string s, .slice a0 ks.len c0] 37)
  have hfw := (hf.below hB40).more hB40.size
  have hrw := hr.next hB40
  have hs4 := B3.size
  have hs5 := hB4.size
  have HA : FrA (w4.alloc (.cells #[.int .i64 k, .string s, .slice a0 ks.len c0] 37)) (w4.heap.size + 1) w.heap.size w4.heap.size fs rs k s ks a1 a2 a0 c1 c2 c0 :=
    ⟨by simpa using hfw, by simpa using hrw, (hk0.alloc (Nat.le_refl _) _).more (Nat.zero_le _) (Nat.le_succ _), Hbx.out.next hB40, BxE.new w4 k s (.slice a0 ks.len c0) 37, by have := blk_lt Hbx.out; omega, Nat.lt_succ_self _⟩
  have B4 := B3.trans (hB4.mono B3.size)
  have hL0 := B4.size
  have HA := Lib.hid HA
  have Hbx := Lib.hid (Hbx.out.next hB4)
  clear hx1 hx2 hf hr hfw hrw hk0 Hc4 hB2 hB3 hB4 hB40 hfit
  obtain ⟨p0, p1, pf0, pf1, hpl⟩ := Hbx.out.facts
  go_wp2_with fail
  generalize hv4 : w4.alloc (.cells #[.int .i64 k, .string s, .slice a0 ks.len c0] 37) = v4 at *
  have hz4 : v4.heap.size = w4.heap.size + 1 := by rw [← hv4]; simp
  have hAs : w4.heap.size + 1 ≤ v4.heap.size := by omega
  have Bv := B4.alloc B4.size (.cells #[.int .i64 k, .string s, .slice a0 ks.len c0] 37)
  rw [hv4] at Bv
  refine (toProject_sk a1 a2 _ _ c1 c2 fs rs _ (HA.out.hf.more hAs) (HA.out.hr.more (Nat.le_refl _) hAs) Hts.out).mono ?_
  rintro e w5 ⟨g3, g4, rfl, hy1, hy2, hyo, hysk, hy3, hy34, hy4, hB5⟩
  have HA := Lib.hid (HA.out.below (hB5.mono hAs))
  have B5 := Bv.trans (hB5.mono Bv.size)
  clear p0 p1 pf0 pf1 hpl Hbx
  have hA5 := hB5.size
  have hB50 := (Below.refl w5.heap.size w5).alloc (Nat.le_refl _) (.cells #[.slice (some ⟨g3, 0, none⟩) fs.length fs.length, .slice (some ⟨g4, 0, none⟩) rs.length rs.length] 31)
  go_wp2_with fail
  generalize hv5 : w5.alloc (.cells #[.slice (some ⟨g3, 0, none⟩) fs.length fs.length, .slice (some ⟨g4, 0, none⟩) rs.length rs.length] 31) = v5 at *
  have hz5 : v5.heap.size = w5.heap.size + 1 := by rw [← hv5]; simp
  have HB : FrB v5 v4.heap.size (w5.heap.size + 1) g3 g4 w5.heap.size fs rs :=
    ⟨by have := (hy1.below hB50).more hB50.size; rwa [hz5] at this, by have := (hy2.next hB50).more (Nat.zero_le _) (Nat.le_refl _); rwa [hz5] at this, (hB50.block g3 (by omega)).trans hyo, hysk.next (Nat.le_refl _) hB50, by rw [← hv5]; exact BxP.new _ _ _ _, hy3, hy34, hy4, Nat.lt_succ_self _⟩
  have HB := Lib.hid HB
  have HA := Lib.hid (HA.out.below (hB50.mono (by omega)))
  have B50 := B5.trans (hB50.mono B5.size)
  have hAs5 : w4.heap.size + 1 ≤ v5.heap.size := by omega
  have Hc7 := Lib.hid (findRI_any _ _ _ _ fs.length rs.length fs rs x _ (HB.out.hf.more (Nat.le_of_eq hz5.symm)) (HB.out.hr.more (Nat.le_refl _) (Nat.le_of_eq hz5.symm)) Hf.out Hr.out Hn1.out Hn2.out Hx.out)
  rw [hres] at Hc7
  dsimp only at Hc7
  refine Hc7.out.mono ?_
  rintro e w7 ⟨a7, c7, bk, g7, rfl, ⟨hcl7, hcm7, hck7, hcs7, hcn7, hci7, hcz7⟩, hB7⟩
  have HA := Lib.hid (HA.out.below (hB7.mono hAs5))
  have HB := Lib.hid (HB.out.below (hB7.mono (by omega)))
  have B7 := B50.trans (hB7.mono B50.size)
  have hA7 := hB7.size
  have hB70 := (Below.refl w7.heap.size w7).alloc (Nat.le_refl _) (.cells #[.int .i64 k, .string s, .slice a7 ks.len c7] 37)
  clear hy1 hy2 hyo hysk hB5 hB50 hB7 Hc7
  generalize hv7 : w7.alloc (.cells #[.int .i64 k, .string s, .slice a7 ks.len c7] 37) = v7 at *
  have hz7 : v7.heap.size = w7.heap.size + 1 := by rw [← hv7]; simp
  have HC : FrC v7 (w5.heap.size + 1) (w7.heap.size + 1) w7.heap.size g7 k s ks bk a7 c7 :=
    ⟨by have := hck7.next hB70; rwa [hz5, hz7] at this, hcs7.keep fun x _ hx => hB70.block x hx, hcn7, fun x hx => by have := hci7 x hx; rwa [hz5] at this, hcz7, by rw [← hv7]; exact BxE.new _ _ _ _ _, by omega, Nat.lt_succ_self _⟩
  have HC := Lib.hid HC
  have HA := Lib.hid (HA.out.below (hB70.mono (by omega)))
  have HB := Lib.hid (HB.out.below (hB70.mono (by omega)))
  have B70 := B7.trans (hB70.mono B7.size)
  clear hB70 hck7 hcs7 hcn7 hci7
  have q0 := HC.out.bx.c0
  have q1 := HC.out.bx.c1
  have q2 := HC.out.bx.c2
  have r0 := HA.out.b0.c0
  have r1 := HA.out.b0.c1
  have r2 := HA.out.b0.c2
  go_wp2_with fail
  refine (eqExpr_yes k s ks a7 a0 ks.len c7 c0 _ (HC.out.hk.more (Nat.zero_le _) (Nat.le_of_eq hz7.symm)) (HA.out.h0.more (Nat.le_refl _) (by omega)) Hft.out.1 Hft.out.2.1).mono ?_
  rintro e w8 ⟨rfl, hB8⟩
  have hs8 := hB8.size
  have HA := Lib.hid (HA.out.below (hB8.mono (by omega)))
  have HB := Lib.hid (HB.out.below (hB8.mono (by omega)))
  have HC := Lib.hid (HC.out.below (hB8.mono (by omega)))
  have B8 := B70.trans (hB8.mono (by omega))
  clear q0 q1 q2 r0 r1 r2
  have hff : (found == found) = true := by simp
  obtain ⟨p0, p1, pf0, pf1, hpl⟩ := HA.out.bx.facts
  obtain ⟨q0, q1, qf0, qf1, hql⟩ := HB.out.bx.facts
  go_wp2_with fail
  have hD := (Below.refl w8.heap.size w8).drew
  have hDs := hD.size
  have HA := Lib.hid (HA.out.below (hD.mono (by omega)))
  have HB := Lib.hid (HB.out.below (hD.mono (by omega)))
  have HC := Lib.hid (HC.out.below (hD.mono (by omega)))
  have BD := B8.trans (hD.mono (by omega))
  have HC0 := Lib.hid (bxP_four (And.intro HA.out.bx HB.out.bx))
  clear p0 p1 pf0 pf1 hpl q0 q1 qf0 qf1 hql
  go_region_held3 (fun w' => w'.cell? ⟨w.heap.size, 0, none⟩ = some (.slice a1 fs.length c1) ∧ w'.cell? ⟨w.heap.size, 1, none⟩ = some (.slice a2 rs.length c2) ∧ w'.cell? ⟨w5.heap.size, 0, none⟩ = some (.slice (some ⟨g3, 0, none⟩) fs.length fs.length) ∧ w'.cell? ⟨w5.heap.size, 1, none⟩ = some (.slice (some ⟨g4, 0, none⟩) rs.length rs.length)) (first | exact HC0.out | exact HC1.out | exact HC2.out)
    ((first
      | (go_at_call 8; refine (toProject_any a1 a2 _ _ c1 c2 fs rs _ (HA.out.hf.more (by omega)) (HA.out.hr.more (Nat.le_refl _) (by omega)) Hts.out).mono ?_; rintro e v1 ⟨g5, g6, rfl, hu1, hu2, hC1⟩; have hu2' := hu2.more (Nat.zero_le _) (Nat.le_refl _); have hC1s := hC1.size; have HAx := Lib.hid (HA.out.below (hC1.mono (by omega))); have HBx := Lib.hid (HB.out.below (hC1.mono (by omega))); have HCx := Lib.hid (HC.out.below (hC1.mono (by omega))); have Be := BD.trans (hC1.mono (by omega)); have HC1 := Lib.hid (bxP_four (And.intro HAx.out.bx HBx.out.bx)))
      | (go_at_call 10; refine (eqProject_any _ _ _ _ _ _ _ _ fs rs _ (HBx.out.hf.more (by omega)) (HBx.out.hr.more (Nat.le_refl _) (by omega)) hu1 hu2' Hr.out Hn1.out Hn2.out).mono ?_; rintro e v2 ⟨rfl, hC2⟩; have hC2s := hC2.size; have HAy := Lib.hid (HAx.out.below (hC2.mono (by omega))); have HBy := Lib.hid (HBx.out.below (hC2.mono (by omega))); have HCy := Lib.hid (HCx.out.below (hC2.mono (by omega))); have Bg := Be.trans (hC2.mono (by omega)); have HC2 := Lib.hid (bxP_four (And.intro HAy.out.bx HBy.out.bx)))))
  all_goals
    clear HC0 HC1 HC2 hu1 hu2 hu2' hC1 hC2 HAx HBx HCx HA HB HC
    have HA := HAy
    have HB := HBy
    have HC := HCy
    clear HAy HBy HCy
    obtain ⟨q0, q1, qf0, qf1, hql⟩ := HB.out.bx.facts
    go_wp2_with fail
    refine (markP_any g3 g4 _ _ 1 w5.heap.size fs rs v2 HB.out.own HB.out.sk HB.out.l12 HB.out.l2 (by omega) Hts.out (by omega) (by omega)).mono ?_
    rintro e w9 ⟨rfl, hT9⟩
    have hs9 := hT9.size
    have hl3 := HB.out.l1
    have hM9 := hT9.below (show g3 ≤ v2.heap.size by have := HB.out.l12; have := HB.out.l2; omega)
    have HA := Lib.hid (HA.out.below (hM9.mono (by omega)))
    have HC := Lib.hid (HC.out.tch (by omega) (hT9.more (Nat.le_refl _) (Nat.le_succ _)))
    have B9 := Bg.trans (hM9.mono (by omega))
    clear q0 q1 qf0 qf1 hql hT9 hM9 HB
    have hneg : ¬ (((1 + 2 * fs.length + ruMk rs : Nat) : Int) < 0) := by omega
    have q0 := HC.out.bx.c0
    have q1 := HC.out.bx.c1
    have q2 := HC.out.bx.c2
    have r0 := HA.out.b0.c0
    have r1 := HA.out.b0.c1
    have r2 := HA.out.b0.c2
    go_wp2_with fail
    refine (eqExpr_yes k s ks a7 a0 ks.len c7 c0 _ (HC.out.hk.more (Nat.zero_le _) (by omega)) (HA.out.h0.more (Nat.le_refl _) (by omega)) Hft.out.1 Hft.out.2.1).mono ?_
    rintro e w10 ⟨rfl, hB10⟩
    have hs10 := hB10.size
    have HA := Lib.hid (HA.out.below (hB10.mono (by omega)))
    have HC := Lib.hid (HC.out.below (hB10.mono (by omega)))
    have B10 := B9.trans (hB10.mono (by omega))
    clear q0 q1 q2 r0 r1 r2
    have q0 := HC.out.bx.c0
    have q1 := HC.out.bx.c1
    have q2 := HC.out.bx.c2
    go_wp2_with fail
    refine (markX_any k s bk a7 g7 ks.len c7 1 w10 HC.out.sep HC.out.nd (fun x hx => by have := HC.out.in_ x hx; omega) (by omega) (by have := Hft.out.2.2; have := HC.out.sz; omega) Hft.out.2.1).mono ?_
    rintro e w11 ⟨rfl, hmk, hT11⟩
    have hs11 := hT11.size
    have hci := HC.out.in_
    have hly := HC.out.ly
    have hM11 := hT11.below (show w5.heap.size + 1 ≤ w10.heap.size by omega) (fun x hx => (hci x hx).1)
    have HA := Lib.hid (HA.out.below (hM11.mono (by omega)))
    have B11 := B10.trans (hM11.mono (by omega))
    have hbx : BxE w11 w7.heap.size k s (.slice a7 ks.len c7) 37 := (hT11.out w7.heap.size (by omega) fun hx => by have := (hci _ hx).2; omega).trans HC.out.bx
    have hbz : 1 + 2 * bk.size ≤ 8388600 := by have := Hft.out.2.2; have := HC.out.sz; omega
    have Hmk := Lib.hid hmk
    have Hbq := Lib.hid hbx
    clear q0 q1 q2 hmk hT11 hM11 HC hbx
    have q0 := Hbq.out.c0
    have q1 := Hbq.out.c1
    have q2 := Hbq.out.c2
    go_wp2_with fail
    refine (heldX_any k s bk a7 g7 ks.len c7 1 _ Hmk.out (Nat.le_refl _) hbz Hft.out.2.1).mono ?_
    rintro e w12 ⟨rfl, hB12⟩
    have hs12 := hB12.size
    have HA := Lib.hid (HA.out.below (hB12.mono (by omega)))
    have Hmk := Lib.hid (Hmk.out.keep fun x _ hx => hB12.block x hx)
    have Hbq := Lib.hid (Hbq.out.next hB12)
    have B12 := B11.trans (hB12.mono (by omega))
    clear q0 q1 q2
    have hneg2 : ¬ (((1 + 2 * bk.size : Nat) : Int) < 0) := by omega
    obtain ⟨p0, p1, pf0, pf1, hpl⟩ := HA.out.bx.facts
    go_wp2_with fail
    refine (toProject_any a1 a2 _ _ c1 c2 fs rs _ (HA.out.hf.more (by omega)) (HA.out.hr.more (Nat.le_refl _) (by omega)) Hts.out).mono ?_
    rintro e w13 ⟨g8, g9, rfl, hz1, hz2, hB13⟩
    have hs13 := hB13.size
    have HA := Lib.hid (HA.out.below (hB13.mono (by omega)))
    have Hmk := Lib.hid (Hmk.out.keep fun x _ hx => hB13.block x hx)
    have Hbq := Lib.hid (Hbq.out.next hB13)
    have B13 := B12.trans (hB13.mono (by omega))
    clear p0 p1 pf0 pf1 hpl
    have Hc14 := Lib.hid (findRI_any _ _ _ _ fs.length rs.length fs rs x _ hz1 (hz2.more (Nat.zero_le _) (Nat.le_refl _)) Hf.out Hr.out Hn1.out Hn2.out Hx.out)
    rw [hres] at Hc14
    dsimp only at Hc14
    clear hz1 hz2
    go_wp2_with fail
    refine Hc14.out.mono ?_
    rintro e w14 ⟨a9, c9, bk9, g10, rfl, ⟨_, _, hck9, _, _, _, _⟩, hB14⟩
    have hs14 := hB14.size
    have HA := Lib.hid (HA.out.below (hB14.mono (by omega)))
    have Hmk := Lib.hid (Hmk.out.keep fun x _ hx => hB14.block x hx)
    have Hbq := Lib.hid (Hbq.out.next hB14)
    have B14 := B13.trans (hB14.mono (by omega))
    have hB15 := (Below.refl w14.heap.size w14).alloc (Nat.le_refl _) (.cells #[.int .i64 k, .string s, .slice a9 ks.len c9] 37)
    have Hh := Lib.hid (BxE.new w14 k s (.slice a9 ks.len c9) 37)
    have hk9 := (hck9.next hB15).more (Nat.zero_le _) (Nat.le_refl _)
    generalize hv15 : w14.alloc (.cells #[.int .i64 k, .string s, .slice a9 ks.len c9] 37) = w15 at *
    have hs15 := hB15.size
    have HA := Lib.hid (HA.out.below (hB15.mono (by omega)))
    have Hmk := Lib.hid (Hmk.out.keep fun x _ hx => hB15.block x hx)
    have Hbq := Lib.hid (Hbq.out.next hB15)
    have B15 := B14.trans (hB15.mono (by omega))
    clear Hc14 hck9
    have q0 := Hh.out.c0
    have q1 := Hh.out.c1
    have q2 := Hh.out.c2
    have r0 := HA.out.b0.c0
    have r1 := HA.out.b0.c1
    have r2 := HA.out.b0.c2
    go_wp2_with fail
    refine (eqExpr_yes k s ks a9 a0 ks.len c9 c0 _ hk9 (HA.out.h0.more (Nat.le_refl _) (by omega)) Hft.out.1 Hft.out.2.1).mono ?_
    rintro e w16 ⟨rfl, hB16⟩
    have hs16 := hB16.size
    have HA := Lib.hid (HA.out.below (hB16.mono (by omega)))
    have Hmk := Lib.hid (Hmk.out.keep fun x _ hx => hB16.block x hx)
    have Hbq := Lib.hid (Hbq.out.next hB16)
    have B16 := B15.trans (hB16.mono (by omega))
    clear q0 q1 q2 r0 r1 r2 hk9
    have q0 := Hbq.out.c0
    have q1 := Hbq.out.c1
    have q2 := Hbq.out.c2
    go_wp2_with fail
    refine (heldX_any k s bk a7 g7 ks.len c7 1 _ Hmk.out (Nat.le_refl _) hbz Hft.out.2.1).mono ?_
    rintro e w17 ⟨rfl, hB17⟩
    have B17 := B16.trans (hB17.mono (by omega))
    go_wp2_with fail
    go_ret
    exact ⟨rfl, B17⟩
end Go.Proofs.Ytgjanokaoiaaeaa
