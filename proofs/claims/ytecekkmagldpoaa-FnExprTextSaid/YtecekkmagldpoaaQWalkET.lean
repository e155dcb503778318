/-
  The law FnExprText, walked.
-/
import Derived.Test.YtecekkmagldpoaaGone
import Derived.Test.YtecekkmagldpoaaQFmt3
import Derived.Test.YtecekkmagldpoaaQFmtT
import Derived.Test.YtecekkmagldpoaaQTreeC
import Derived.Test.YtecekkmagldpoaaQDrawE6
import Derived.Test.YtecekkmagldpoaaQPxL
import Derived.Test.YtecekkmagldpoaaQRow
import Derived.Deep.RegionHeld3
import Derived.Deep.DeepCutAuto
namespace Go.Proofs.Ytecekkmagldpoaa
set_option linter.unusedVariables false
set_option linter.unusedSimpArgs false
open Go.RowKit

theorem pe_rd {w : World} {base : Nat} {f bk : Fo} {a : Option Addr} {c g : Nat} (h : CopX w base f a c bk g) : RdA w f a f.len := (h.2.2.1.pl h.2.2.2.1).rd
theorem nil_text : ∀ k s ks, validE k s ks = true → ([] : List UInt8) ≠ fm1 k s ks := fun k s ks _ e => by rw [fm1_hd] at e; cases e
theorem fmtE_list {k : Int} {s : ByteArray} {ks : Fo} (h : validE k s ks = true) : (fmtE k s ks).data.toList = fm1 k s ks := by rw [fmtE_data, if_pos h]
theorem exC_new {w : World} {k : Int} {s : ByteArray} {ks : Fo} {a : Option Addr} {c : Nat} (hk : KA w 0 w.heap.size ks a ks.len) (hr : RdA w ks a ks.len) : ExQ (w.alloc (.cells #[.int .i64 k, .string s, .slice a ks.len c] 25)) w.heap.size k s ks a ks.len c 25 :=
  ⟨⟨BxE.new w _ _ _ _, hk.next ((Below.refl _ _).alloc (Nat.le_refl _) _)⟩, hr.keep fun b hb => Below.heap_alloc w _ b hb⟩
theorem rdA_nil (w : World) : RdA w .nil none 0 := ⟨rfl, fun h => absurd h (by omega)⟩
theorem ka_nil (w : World) : KA w 0 w.heap.size .nil none 0 := ⟨rfl, fun h => absurd h (by omega)⟩

set_option maxRecDepth 100000 in
set_option maxHeartbeats 8000000 in
theorem walkFnExprText (a : Option Addr) (len cap : Nat) (zs : List Int) (b : Option Addr) (len' cap' : Nat) (zs' : List Int) (w : World) (h : IsRow .u8 w a len cap zs) (h' : IsRow .u8 w b len' cap' zs') :
    Calls Try.prog 3 #[.slice a len cap, .slice b len' cap'] w fun e w' => e = .returned (.bool true) ∧ Below w.heap.size w w' := by
  obtain ⟨hb, hn, hc⟩ := row_bytes h
  obtain ⟨hb2, hn2, hc2⟩ := row_bytes h'
  have hc' := Lib.hid hc
  have hc2' := Lib.hid hc2
  unfold maxLen at hc hc2
  by_cases hlong : 1048576 < len
  · go_enter Try.func3, Try.ntmps3
    go_wp2_with fail
    go_ret
    exact ⟨rfl, Below.refl _ _⟩
  by_cases hlong2 : 1048576 < len'
  · go_enter Try.func3, Try.ntmps3
    go_wp2_with fail
    go_ret
    exact ⟨rfl, Below.refl _ _⟩
  go_enter Try.func3, Try.ntmps3
  go_wp2_with fail
  refine (drawFormatExpr_any a len cap w hb hn hc'.out).mono ?_
  rintro e w1 ⟨k, s, ks, a1, c1, rfl, hk, hc1, hs, hf, hz, hB1⟩
  have hsl := Fo.size_len ks
  have Hf := Lib.hid (show ks.Fits from hf)
  have Hs := Lib.hid (show s.size ≤ maxLen by unfold maxLen; omega)
  have Hl := Lib.hid (show ks.len ≤ maxLen by unfold maxLen; omega)
  have Hz := Lib.hid (show ks.size ≤ 1048576 by omega)
  have Hc1 := Lib.hid hc1
  have HB2 := Lib.hid (And.intro (fun V (hV : Below w.heap.size w V) => hb2.under hV) (And.intro hn2 hc2'.out))
  have X1 := Lib.hid (exC_new (k := k) (s := s) (c := c1) (hk.1.more (Nat.zero_le _) (Nat.le_refl _)) hk.rd)
  have B1 := hB1.trans (((Below.refl w1.heap.size w1).alloc (Nat.le_refl _) (.cells #[.int .i64 k, .string s, .slice a1 ks.len c1] 25)).mono hB1.size)
  obtain ⟨Z, hZ⟩ : ∃ z, fmtE k s ks = z := ⟨_, rfl⟩
  have HZ := Lib.hid hZ
  have HZs := Lib.hid (show Z.size ≤ 1048576 by have := fmtE_small k s ks; rw [hZ] at this; omega)
  clear hb hn hc hc' hb2 hn2 hc2 hc2' h h' hlong hk hc1 hs hf hz hsl hB1 hZ
  go_upto_region 4 with (fail)
  generalize hv1 : w1.alloc (.cells #[.int .i64 k, .string s, .slice a1 ks.len c1] 25) = v1 at *
  clear hv1
  obtain ⟨c0, c1', c2⟩ := X1.out.1.three
  go_wp2_with fail
  refine (formatI_expr k s ks _ _ _ _ X1.out.1.2 Hs.out Hf.out Hl.out).mono ?_
  rintro e w2 ⟨rfl, hB2⟩
  have X2 := Lib.hid (X1.out.next hB2)
  have B2 := B1.trans (hB2.mono B1.size)
  clear c0 c1' c2 hB2
  rw [HZ.out]
  rcases Bool.eq_false_or_eq_true (validE k s ks) with hv | hv
  · have hl : Z.data.toList = fm1 k s ks := by rw [← HZ.out, fmtE_list hv]
    have Hp := Lib.hid ((parseI_any Z _ w2 rfl HZs.out).mono fun e w' h => PePost.yes h hv hl)
    have VI := Lib.hid (fun (V : World) (hV : KA V 0 V.heap.size ks a1 ks.len) => show Calls Try.prog 8 #[.agg #[.int .i64 k, .string s, .slice a1 ks.len c1]] V (fun e w' => e = .returned (.bool true) ∧ Below V.heap.size V w') from by rw [← hv]; exact validI_expr k s ks a1 ks.len c1 V hV Hs.out Hf.out Hl.out)
    have VS := Lib.hid (fun (V : World) (hV : KA V 0 V.heap.size ks a1 ks.len) => show Calls Try.prog 9 #[.agg #[.int .i64 k, .string s, .slice a1 ks.len c1]] V (fun e w' => e = .returned (.bool true) ∧ Below V.heap.size V w') from by rw [← hv]; exact validSE_any k s ks a1 ks.len c1 V hV Hs.out Hf.out Hl.out Hz.out)
    clear hl hv
    go_wp2_with fail
    refine Hp.out.mono ?_
    rintro e w3 ⟨a2, c2, bk, g2, rfl, hcx, hB3⟩
    have hr3 := pe_rd hcx
    have hk3 := hcx.2.2.1.more (Nat.zero_le _) (Nat.le_refl _)
    have Hc2 := Lib.hid hcx.1
    have hA3 := (Below.refl w3.heap.size w3).alloc (Nat.le_refl _) (.cells #[.int .i64 k, .string s, .slice a2 ks.len c2] 25)
    have P3 := Lib.hid (show PrE (w3.alloc (.cells #[.int .i64 k, .string s, .slice a2 ks.len c2] 25)) w1.heap.size w3.heap.size k s ks a1 c1 k s ks a2 c2 from ⟨(X2.out.next hB3).next hA3, exC_new hk3 hr3⟩)
    have B3 := (B2.trans (hB3.mono B2.size)).trans (hA3.mono (B2.trans (hB3.mono B2.size)).size)
    clear hcx hB3 hr3 hk3 hA3 Hp
    go_upto_region 6 with (fail)
    generalize hv3 : w3.alloc (.cells #[.int .i64 k, .string s, .slice a2 ks.len c2] 25) = v3 at *
    clear hv3
    have hD := (Below.refl v3.heap.size v3).drew
    have PD := Lib.hid (P3.out.next hD)
    have BD := B3.trans (hD.mono B3.size)
    have CD0 := and6 (And.intro PD.out.1.1.three PD.out.2.1.three)
    try simp only [Fo.len] at CD0
    have CD := Lib.hid CD0
    clear CD0
    clear hD
    have FS := Lib.hid (fun (V : World) (hV : KA V 0 V.heap.size ks a1 ks.len) => show Calls Try.prog 7 #[.agg #[.int .i64 k, .string s, .slice a1 ks.len c1]] V (fun e w' => e = .returned (.string Z) ∧ Below V.heap.size V w') from by rw [← HZ.out]; exact formatS_expr k s ks a1 ks.len c1 V hV Hs.out Hf.out Hl.out Hz.out)
    have hzz : (Z.toList != Z.toList) = false := by simp
    go_region_held3 (fun w' => w'.cell? ⟨w1.heap.size, 0, none⟩ = some (.int .i64 k) ∧ w'.cell? ⟨w1.heap.size, 1, none⟩ = some (.string s) ∧ w'.cell? ⟨w1.heap.size, 2, none⟩ = some (.slice a1 ks.len c1) ∧ w'.cell? ⟨w3.heap.size, 0, none⟩ = some (.int .i64 k) ∧ w'.cell? ⟨w3.heap.size, 1, none⟩ = some (.string s) ∧ w'.cell? ⟨w3.heap.size, 2, none⟩ = some (.slice a2 ks.len c2)) (first | (with_reducible exact CD.out) | (with_reducible exact C1.out) | (with_reducible exact C2.out) | (with_reducible exact C3.out) | (with_reducible exact C4.out) | (with_reducible exact C5.out))
      ((first
        | (go_at_call 7; refine (FS.out v3.drew PD.out.1.1.2).mono ?_; rintro e x1 ⟨rfl, hQ1⟩; have P1' := Lib.hid (PD.out.next hQ1); have Q1 := BD.trans (hQ1.mono BD.size); have C10 := and6 (And.intro P1'.out.1.1.three P1'.out.2.1.three); (try simp only [Fo.len] at C10); have C1 := Lib.hid C10)
        | (go_at_call 8; refine (VI.out x1 P1'.out.1.1.2).mono ?_; rintro e x2 ⟨rfl, hQ2⟩; have P2' := Lib.hid (P1'.out.next hQ2); have Q2 := Q1.trans (hQ2.mono Q1.size); have C20 := and6 (And.intro P2'.out.1.1.three P2'.out.2.1.three); (try simp only [Fo.len] at C20); have C2 := Lib.hid C20)
        | (go_at_call 9; refine (VS.out x3 P3'.out.1.1.2).mono ?_; rintro e x4 ⟨rfl, hQ4⟩; have P4' := Lib.hid (P3'.out.next hQ4); have Q4 := Q3.trans (hQ4.mono Q3.size); have C40 := and6 (And.intro P4'.out.1.1.three P4'.out.2.1.three); (try simp only [Fo.len] at C40); have C4 := Lib.hid C40)
        | (go_at_call 9; refine (VS.out x2 P2'.out.1.1.2).mono ?_; rintro e x3 ⟨rfl, hQ3⟩; have P3' := Lib.hid (P2'.out.next hQ3); have Q3 := Q2.trans (hQ3.mono Q2.size); have C30 := and6 (And.intro P3'.out.1.1.three P3'.out.2.1.three); (try simp only [Fo.len] at C30); have C3 := Lib.hid C30)
        | (go_at_call 10; refine (eqI_any true k k s s ks ks (by simp) a2 a1 ks.len ks.len c2 c1 x4 P4'.out.2.2 P4'.out.1.2 Hc2.out Hc1.out Hz.out ⟨Hs.out, Hl.out, Hl.out⟩).mono ?_; rintro e x5 ⟨rfl, hQ5⟩; have P5' := Lib.hid (P4'.out.next hQ5); have Q5 := Q4.trans (hQ5.mono Q4.size); have C50 := and6 (And.intro P5'.out.1.1.three P5'.out.2.1.three); (try simp only [Fo.len] at C50); have C5 := Lib.hid C50)))
    all_goals
      have HB := Q5
      clear FS VS VI hzz
      go_wp2_with fail
      refine (drawParseExpr_any b len' cap' x5 (HB2.out.1 _ HB) HB2.out.2.1 HB2.out.2.2).mono ?_
      rintro e y1 ⟨T, rfl, ht, hB1⟩
      have E1 := HB.trans (hB1.mono HB.size)
      have Ht := Lib.hid (show T.size ≤ 1048576 by omega)
      clear hB1 ht
      by_cases hy : ∃ k s ks, validE k s ks = true ∧ T.data.toList = fm1 k s ks
      · obtain ⟨k7, s7, ks7, hv7, ht7⟩ := hy
        obtain ⟨f1, f2, f3⟩ := valid_fits hv7 ht7 (by rw [Array.length_toList]; exact Ht.out)
        have H7 := Lib.hid (And.intro f1 (And.intro f2 f3))
        have H7z := Lib.hid (show ks7.size ≤ 1048576 by have := (valid_tx hv7).2.2; omega)
        have Hp := Lib.hid ((parseI_any T _ y1 rfl Ht.out).mono fun e w' h => PePost.yes h hv7 ht7)
        have HqS := Lib.hid (fun V => (parseS_any T _ V rfl Ht.out).mono fun e w' h => PsPost.yes h hv7 ht7)
        have HT7 := Lib.hid (show fmtE k7 s7 ks7 = T from ba_ext (by rw [fmtE_list hv7, ht7]))
        clear f1 f2 f3 hv7 ht7
        go_wp2_with fail
        refine Hp.out.mono ?_
        rintro e y2 ⟨a5, d5, bk5, g5, rfl, hcx, hB2⟩
        have hr2 := pe_rd hcx
        have hk2 := hcx.2.2.1.more (Nat.zero_le _) (Nat.le_refl _)
        have Hd5 := Lib.hid hcx.1
        clear hcx
        have hA2 := (Below.refl y2.heap.size y2).alloc (Nat.le_refl _) (.cells #[.int .i64 k7, .string s7, .slice a5 ks7.len d5] 25)
        have X2 := Lib.hid (show ExQ (y2.alloc (.cells #[.int .i64 k7, .string s7, .slice a5 ks7.len d5] 25)) y2.heap.size k7 s7 ks7 a5 ks7.len d5 25 from exC_new hk2 hr2)
        have E2 := (E1.trans (hB2.mono E1.size)).trans (hA2.mono (E1.trans (hB2.mono E1.size)).size)
        clear hr2 hk2 hB2 hA2 Hp
        go_upto_region 10 with (fail)
        generalize hv2 : y2.alloc (.cells #[.int .i64 k7, .string s7, .slice a5 ks7.len d5] 25) = z2 at *
        clear hv2
        go_wp2_with fail
        refine (HqS.out z2).mono ?_
        rintro e y3 ⟨a6, d6, rfl, hk6, hd6, hB3⟩
        have hr3 := hk6.rd
        have hk3 := hk6.1.more (Nat.zero_le _) (Nat.le_refl _)
        have Hd6 := Lib.hid hd6
        clear hk6 hd6
        have hA3 := (Below.refl y3.heap.size y3).alloc (Nat.le_refl _) (.cells #[.int .i64 k7, .string s7, .slice a6 ks7.len d6] 25)
        have P3 := Lib.hid (show PrE (y3.alloc (.cells #[.int .i64 k7, .string s7, .slice a6 ks7.len d6] 25)) y2.heap.size y3.heap.size k7 s7 ks7 a5 d5 k7 s7 ks7 a6 d6 from ⟨(X2.out.next hB3).next hA3, exC_new hk3 hr3⟩)
        have E3 := (E2.trans (hB3.mono E2.size)).trans (hA3.mono (E2.trans (hB3.mono E2.size)).size)
        clear hr3 hk3 hB3 hA3 HqS X2
        go_upto_region 11 with (fail)
        generalize hv3 : y3.alloc (.cells #[.int .i64 k7, .string s7, .slice a6 ks7.len d6] 25) = z3 at *
        clear hv3
        obtain ⟨c0, c1', c2'⟩ := P3.out.1.1.three
        obtain ⟨d0, d1', d2'⟩ := P3.out.2.1.three
        try simp only [Fo.len] at c2'
        try simp only [Fo.len] at d2'
        go_wp2_with fail
        refine (eqI_any true k7 k7 s7 s7 ks7 ks7 (by simp) a5 a6 ks7.len ks7.len d5 d6 z3 P3.out.1.2 P3.out.2.2 Hd5.out Hd6.out H7z.out ⟨H7.out.1, H7.out.2.2, H7.out.2.2⟩).mono ?_
        rintro e y4 ⟨rfl, hB4⟩
        have P4 := Lib.hid (P3.out.next hB4)
        have E4 := E3.trans (hB4.mono E3.size)
        clear c0 c1' c2' d0 d1' d2' hB4
        obtain ⟨c0, c1', c2'⟩ := P4.out.1.1.three
        go_wp2_with fail
        refine (formatI_expr k7 s7 ks7 _ _ _ _ P4.out.1.1.2 H7.out.1 H7.out.2.1 H7.out.2.2).mono ?_
        rintro e y5 ⟨rfl, hB5⟩
        have E5 := E4.trans (hB5.mono E4.size)
        rw [HT7.out]
        have htt : (T.toList == T.toList) = true := by simp
        clear c0 c1' c2' hB5
        go_wp2_with fail
        go_ret
        exact ⟨rfl, E5⟩
      · have Hp := Lib.hid ((parseI_any T _ y1 rfl Ht.out).mono fun e w' h => PePost.no h fun k s ks hv e => hy ⟨k, s, ks, hv, e⟩)
        have HqS := Lib.hid (fun V => (parseS_any T _ V rfl Ht.out).mono fun e w' h => PsPost.no h fun k s ks hv e => hy ⟨k, s, ks, hv, e⟩)
        clear hy
        go_wp2_with fail
        refine Hp.out.mono ?_
        rintro e y2 ⟨rfl, hB2⟩
        have hr2 := rdA_nil y2
        have hk2 := ka_nil y2
        have hA2 := (Below.refl y2.heap.size y2).alloc (Nat.le_refl _) (.cells #[.int .i64 0, .string ⟨#[]⟩, .slice none 0 0] 25)
        have X2 := Lib.hid (show ExQ (y2.alloc (.cells #[.int .i64 0, .string ⟨#[]⟩, .slice none 0 0] 25)) y2.heap.size 0 ⟨#[]⟩ .nil none 0 0 25 from exC_new hk2 hr2)
        have E2 := (E1.trans (hB2.mono E1.size)).trans (hA2.mono (E1.trans (hB2.mono E1.size)).size)
        clear hr2 hk2 hB2 hA2 Hp
        go_upto_region 10 with (fail)
        generalize hv2 : y2.alloc (.cells #[.int .i64 0, .string ⟨#[]⟩, .slice none 0 0] 25) = z2 at *
        clear hv2
        go_wp2_with fail
        refine (HqS.out z2).mono ?_
        rintro e y3 ⟨rfl, hB3⟩
        have hr3 := rdA_nil y3
        have hk3 := ka_nil y3
        have hA3 := (Below.refl y3.heap.size y3).alloc (Nat.le_refl _) (.cells #[.int .i64 0, .string ⟨#[]⟩, .slice none 0 0] 25)
        have P3 := Lib.hid (show PrE (y3.alloc (.cells #[.int .i64 0, .string ⟨#[]⟩, .slice none 0 0] 25)) y2.heap.size y3.heap.size 0 ⟨#[]⟩ .nil none 0 0 ⟨#[]⟩ .nil none 0 from ⟨(X2.out.next hB3).next hA3, exC_new hk3 hr3⟩)
        have E3 := (E2.trans (hB3.mono E2.size)).trans (hA3.mono (E2.trans (hB3.mono E2.size)).size)
        clear hr3 hk3 hB3 hA3 HqS X2
        go_upto_region 11 with (fail)
        generalize hv3 : y3.alloc (.cells #[.int .i64 0, .string ⟨#[]⟩, .slice none 0 0] 25) = z3 at *
        clear hv3
        obtain ⟨c0, c1', c2'⟩ := P3.out.1.1.three
        obtain ⟨d0, d1', d2'⟩ := P3.out.2.1.three
        try simp only [Fo.len] at c2'
        try simp only [Fo.len] at d2'
        go_wp2_with fail
        refine (eqI_any true 0 0 ⟨#[]⟩ ⟨#[]⟩ .nil .nil (by simp) none none 0 0 0 0 z3 P3.out.1.2 P3.out.2.2 (Nat.le_refl _) (Nat.le_refl _) (by decide) ⟨by decide, by decide, by decide⟩).mono ?_
        rintro e y4 ⟨rfl, hB4⟩
        have E4 := E3.trans (hB4.mono E3.size)
        clear c0 c1' c2' d0 d1' d2' hB4
        go_wp2_with fail
        go_ret
        exact ⟨rfl, E4⟩
  · have hl : Z.data.toList = [] := by rw [← HZ.out, fmtE_data, hv]; rfl
    have Hp := Lib.hid ((parseI_any Z _ w2 rfl HZs.out).mono fun e w' h => PePost.no h (by rw [hl]; exact nil_text))
    have VI := Lib.hid (fun (V : World) (hV : KA V 0 V.heap.size ks a1 ks.len) => show Calls Try.prog 8 #[.agg #[.int .i64 k, .string s, .slice a1 ks.len c1]] V (fun e w' => e = .returned (.bool false) ∧ Below V.heap.size V w') from by rw [← hv]; exact validI_expr k s ks a1 ks.len c1 V hV Hs.out Hf.out Hl.out)
    have VS := Lib.hid (fun (V : World) (hV : KA V 0 V.heap.size ks a1 ks.len) => show Calls Try.prog 9 #[.agg #[.int .i64 k, .string s, .slice a1 ks.len c1]] V (fun e w' => e = .returned (.bool false) ∧ Below V.heap.size V w') from by rw [← hv]; exact validSE_any k s ks a1 ks.len c1 V hV Hs.out Hf.out Hl.out Hz.out)
    clear hl hv
    go_wp2_with fail
    refine Hp.out.mono ?_
    rintro e w3 ⟨rfl, hB3⟩
    have hr3 := rdA_nil w3
    have hk3 := ka_nil w3
    have hA3 := (Below.refl w3.heap.size w3).alloc (Nat.le_refl _) (.cells #[.int .i64 0, .string ⟨#[]⟩, .slice none 0 0] 25)
    have P3 := Lib.hid (show PrE (w3.alloc (.cells #[.int .i64 0, .string ⟨#[]⟩, .slice none 0 0] 25)) w1.heap.size w3.heap.size k s ks a1 c1 0 ⟨#[]⟩ .nil none 0 from ⟨(X2.out.next hB3).next hA3, exC_new hk3 hr3⟩)
    have B3 := (B2.trans (hB3.mono B2.size)).trans (hA3.mono (B2.trans (hB3.mono B2.size)).size)
    clear hB3 hr3 hk3 hA3 Hp
    go_upto_region 6 with (fail)
    generalize hv3 : w3.alloc (.cells #[.int .i64 0, .string ⟨#[]⟩, .slice none 0 0] 25) = v3 at *
    clear hv3
    have hD := (Below.refl v3.heap.size v3).drew
    have PD := Lib.hid (P3.out.next hD)
    have BD := B3.trans (hD.mono B3.size)
    have CD0 := and6 (And.intro PD.out.1.1.three PD.out.2.1.three)
    try simp only [Fo.len] at CD0
    have CD := Lib.hid CD0
    clear CD0
    clear hD
    have FS := Lib.hid (fun (V : World) (hV : KA V 0 V.heap.size ks a1 ks.len) => show Calls Try.prog 7 #[.agg #[.int .i64 k, .string s, .slice a1 ks.len c1]] V (fun e w' => e = .returned (.string Z) ∧ Below V.heap.size V w') from by rw [← HZ.out]; exact formatS_expr k s ks a1 ks.len c1 V hV Hs.out Hf.out Hl.out Hz.out)
    have hzz : (Z.toList != Z.toList) = false := by simp
    have HK0 := Lib.hid (show v3.drew.cell? ⟨w1.heap.size, 0, none⟩ = some (.int .i64 k) ∧ v3.drew.cell? ⟨w1.heap.size, 1, none⟩ = some (.string s) ∧ v3.drew.cell? ⟨w1.heap.size, 2, none⟩ = some (.slice a1 ks.len c1) from PD.out.1.1.three)
    refine wp_region_held_drew (S := (fun w' => w'.cell? ⟨w1.heap.size, 0, none⟩ = some (.int .i64 k) ∧ w'.cell? ⟨w1.heap.size, 1, none⟩ = some (.string s) ∧ w'.cell? ⟨w1.heap.size, 2, none⟩ = some (.slice a1 ks.len c1))) (by kernel_rfl) HK0.out (fun hHeld => ?_)
    refine wpAnyH_take (i := 0) (oi := { dst := some 31, op := Op.move (Operand.tmp 6), type := 9, pos := "laws.go:187", after := #[], guard := none }) (v := ?v0) rfl (by kernel_rfl) (by kernel_rfl) (by kernel_rfl) (fun _ _ _ h => h) (Or.inl ⟨by rfl, ?hy0⟩) (by assumption) ?_
    case hy0 =>
      intro W hSW
      try dsimp only at hSW
      go_simp
      try with_reducible rfl
    try simp only [Act.put, List.setIfInBounds_toArray, List.set_cons_zero, List.set_cons_succ]
    refine wpAnyH_take (i := 1) (oi := { dst := some 32, op := Op.load 25 (Operand.tmp 5), type := 25, pos := "laws.go:187", after := #[], guard := none }) (v := ?v1) rfl (by kernel_rfl) (by kernel_rfl) (by kernel_rfl) (fun _ _ _ h => h) (Or.inl ⟨by rfl, ?hy1⟩) (by assumption) ?_
    case hy1 =>
      intro W hSW
      try dsimp only at hSW
      go_simp
      try with_reducible rfl
    try simp only [Act.put, List.setIfInBounds_toArray, List.set_cons_zero, List.set_cons_succ]
    refine wpAnyH_ready (rs := [2]) (by kernel_rfl) (by simp) ?_
    refine AllReadyH.cons (o := { dst := some 33, op := Op.call { callee := Callee.value (Operand.func 7), args := #[Operand.tmp 32], argTypes := #[25] }, type := 9, pos := "laws.go:187", after := #[{ on := 1, ground := Ground.data }], guard := none }) rfl (fun K hK => ?_) AllReadyH.nil
    go_simp
    refine (FS.out v3.drew PD.out.1.1.2).mono ?_
    rintro e x1 ⟨rfl, hQ1⟩
    have P1' := Lib.hid (PD.out.next hQ1)
    have Q1 := BD.trans (hQ1.mono BD.size)
    clear hHeld
    dsimp only
    refine hK.out _ _ P1'.out.1.1.three (fun hHeld => ?_)
    clear hK K
    try simp only [Act.put, List.setIfInBounds_toArray, List.set_cons_zero, List.set_cons_succ]
    refine wpAnyH_take (i := 3) (oi := { dst := some 34, op := Op.binOp BinOp.neq 9 (Operand.tmp 31) (Operand.tmp 33) 9, type := 4, pos := "laws.go:187", after := #[{ on := 0, ground := Ground.data }, { on := 2, ground := Ground.data }], guard := none }) (v := ?v3) rfl (by kernel_rfl) (by kernel_rfl) (by kernel_rfl) (fun _ _ _ h => h) (Or.inl ⟨by rfl, ?hy3⟩) (by assumption) ?_
    case hy3 =>
      intro W hSW
      try dsimp only at hSW
      go_simp
      try with_reducible rfl
    try simp only [Act.put, List.setIfInBounds_toArray, List.set_cons_zero, List.set_cons_succ]
    refine wpAnyH_take (i := 4) (oi := { dst := some 35, op := Op.move (Operand.tmp 34), type := 4, pos := "laws.go:187", after := #[{ on := 3, ground := Ground.data }, { on := 2, ground := Ground.chain }], guard := none }) (v := ?v4) rfl (by kernel_rfl) (by kernel_rfl) (by kernel_rfl) (fun _ _ _ h => h) (Or.inl ⟨by rfl, ?hy4⟩) (by assumption) ?_
    case hy4 =>
      intro W hSW
      try dsimp only at hSW
      go_simp
      try with_reducible rfl
    try simp only [Act.put, List.setIfInBounds_toArray, List.set_cons_zero, List.set_cons_succ]
    refine wpAnyH_take (i := 5) (oi := { dst := some 36, op := Op.load 25 (Operand.tmp 5), type := 25, pos := "laws.go:187", after := #[{ on := 4, ground := Ground.guard }], guard := some (4, false) }) (v := ?v5) rfl (by kernel_rfl) (by kernel_rfl) (by kernel_rfl) (fun _ _ _ h => h) (Or.inl ⟨by rfl, ?hy5⟩) (by assumption) ?_
    case hy5 =>
      intro W hSW
      try dsimp only at hSW
      go_simp
      try with_reducible rfl
    try simp only [Act.put, List.setIfInBounds_toArray, List.set_cons_zero, List.set_cons_succ]
    refine wpAnyH_take (i := 7) (oi := { dst := some 38, op := Op.load 25 (Operand.tmp 5), type := 25, pos := "laws.go:187", after := #[{ on := 4, ground := Ground.guard }], guard := some (4, false) }) (v := ?v7) rfl (by kernel_rfl) (by kernel_rfl) (by kernel_rfl) (fun _ _ _ h => h) (Or.inl ⟨by rfl, ?hy7⟩) (by assumption) ?_
    case hy7 =>
      intro W hSW
      try dsimp only at hSW
      go_simp
      try with_reducible rfl
    try simp only [Act.put, List.setIfInBounds_toArray, List.set_cons_zero, List.set_cons_succ]
    refine wpAnyH_ready (rs := [6]) (by kernel_rfl) (by simp) ?_
    refine AllReadyH.cons (o := { dst := some 37, op := Op.call { callee := Callee.value (Operand.func 8), args := #[Operand.tmp 36], argTypes := #[25] }, type := 4, pos := "laws.go:187", after := #[{ on := 5, ground := Ground.data }, { on := 4, ground := Ground.chain }, { on := 4, ground := Ground.guard }], guard := some (4, false) }) rfl (fun K hK => ?_) AllReadyH.nil
    go_simp
    refine (VI.out x1 P1'.out.1.1.2).mono ?_
    rintro e x2 ⟨rfl, hQ2⟩
    have P2' := Lib.hid (P1'.out.next hQ2)
    have Q2 := Q1.trans (hQ2.mono Q1.size)
    clear hHeld
    dsimp only
    refine hK.out _ _ P2'.out.1.1.three (fun hHeld => ?_)
    clear hK K
    try simp only [Act.put, List.setIfInBounds_toArray, List.set_cons_zero, List.set_cons_succ]
    refine wpAnyH_ready (rs := [8]) (by kernel_rfl) (by simp) ?_
    refine AllReadyH.cons (o := { dst := some 39, op := Op.call { callee := Callee.value (Operand.func 9), args := #[Operand.tmp 38], argTypes := #[25] }, type := 4, pos := "laws.go:187", after := #[{ on := 7, ground := Ground.data }, { on := 6, ground := Ground.chain }, { on := 4, ground := Ground.guard }], guard := some (4, false) }) rfl (fun K hK => ?_) AllReadyH.nil
    go_simp
    refine (VS.out x2 P2'.out.1.1.2).mono ?_
    rintro e x3 ⟨rfl, hQ3⟩
    have P3' := Lib.hid (P2'.out.next hQ3)
    have Q3 := Q2.trans (hQ3.mono Q2.size)
    clear hHeld
    dsimp only
    refine hK.out _ _ P3'.out.1.1.three (fun hHeld => ?_)
    clear hK K
    try simp only [Act.put, List.setIfInBounds_toArray, List.set_cons_zero, List.set_cons_succ]
    refine wpAnyH_take (i := 9) (oi := { dst := some 40, op := Op.binOp BinOp.neq 4 (Operand.tmp 37) (Operand.tmp 39) 4, type := 4, pos := "laws.go:187", after := #[{ on := 6, ground := Ground.data }, { on := 8, ground := Ground.data }, { on := 4, ground := Ground.guard }], guard := some (4, false) }) (v := ?v9) rfl (by kernel_rfl) (by kernel_rfl) (by kernel_rfl) (fun _ _ _ h => h) (Or.inl ⟨by rfl, ?hy9⟩) (by assumption) ?_
    case hy9 =>
      intro W hSW
      try dsimp only at hSW
      go_simp
      try with_reducible rfl
    try simp only [Act.put, List.setIfInBounds_toArray, List.set_cons_zero, List.set_cons_succ]
    refine wpAnyH_take (i := 10) (oi := { dst := some 41, op := Op.pick (Operand.tmp 35) (Operand.const (Value.bool true)) (Operand.tmp 40), type := 4, pos := "laws.go:187", after := #[{ on := 4, ground := Ground.data }, { on := 9, ground := Ground.data }], guard := none }) (v := ?v10) rfl (by kernel_rfl) (by kernel_rfl) (by kernel_rfl) (fun _ _ _ h => h) (Or.inl ⟨by rfl, ?hy10⟩) (by assumption) ?_
    case hy10 =>
      intro W hSW
      try dsimp only at hSW
      go_simp
      try with_reducible rfl
    try simp only [Act.put, List.setIfInBounds_toArray, List.set_cons_zero, List.set_cons_succ]
    refine wpAnyH_take (i := 11) (oi := { dst := some 42, op := Op.move (Operand.tmp 41), type := 4, pos := "laws.go:187", after := #[{ on := 10, ground := Ground.data }, { on := 8, ground := Ground.chain }], guard := none }) (v := ?v11) rfl (by kernel_rfl) (by kernel_rfl) (by kernel_rfl) (fun _ _ _ h => h) (Or.inl ⟨by rfl, ?hy11⟩) (by assumption) ?_
    case hy11 =>
      intro W hSW
      try dsimp only at hSW
      go_simp
      try with_reducible rfl
    try simp only [Act.put, List.setIfInBounds_toArray, List.set_cons_zero, List.set_cons_succ]
    refine wpAnyH_take (i := 12) (oi := { dst := some 43, op := Op.move (Operand.tmp 8), type := 4, pos := "laws.go:187", after := #[{ on := 11, ground := Ground.guard }], guard := some (11, false) }) (v := ?v12) rfl (by kernel_rfl) (by kernel_rfl) (by kernel_rfl) (fun _ _ _ h => h) (Or.inl ⟨by rfl, ?hy12⟩) (by assumption) ?_
    case hy12 =>
      intro W hSW
      try dsimp only at hSW
      go_simp
      try with_reducible rfl
    try simp only [Act.put, List.setIfInBounds_toArray, List.set_cons_zero, List.set_cons_succ]
    refine wpAnyH_take (i := 13) (oi := { dst := some 44, op := Op.load 25 (Operand.tmp 5), type := 25, pos := "laws.go:187", after := #[{ on := 11, ground := Ground.guard }], guard := some (11, false) }) (v := ?v13) rfl (by kernel_rfl) (by kernel_rfl) (by kernel_rfl) (fun _ _ _ h => h) (Or.inl ⟨by rfl, ?hy13⟩) (by assumption) ?_
    case hy13 =>
      intro W hSW
      try dsimp only at hSW
      go_simp
      try with_reducible rfl
    try simp only [Act.put, List.setIfInBounds_toArray, List.set_cons_zero, List.set_cons_succ]
    refine wpAnyH_ready (rs := [14]) (by kernel_rfl) (by simp) ?_
    refine AllReadyH.cons (o := { dst := some 45, op := Op.call { callee := Callee.value (Operand.func 9), args := #[Operand.tmp 44], argTypes := #[25] }, type := 4, pos := "laws.go:187", after := #[{ on := 13, ground := Ground.data }, { on := 11, ground := Ground.chain }, { on := 11, ground := Ground.guard }], guard := some (11, false) }) rfl (fun K hK => ?_) AllReadyH.nil
    go_simp
    refine (VS.out x3 P3'.out.1.1.2).mono ?_
    rintro e x4 ⟨rfl, hQ4⟩
    have P4' := Lib.hid (P3'.out.next hQ4)
    have Q4 := Q3.trans (hQ4.mono Q3.size)
    clear hHeld
    dsimp only
    refine hK.out _ _ P4'.out.1.1.three (fun hHeld => ?_)
    clear hK K
    try simp only [Act.put, List.setIfInBounds_toArray, List.set_cons_zero, List.set_cons_succ]
    refine wpAnyH_take (i := 15) (oi := { dst := some 46, op := Op.binOp BinOp.neq 4 (Operand.tmp 43) (Operand.tmp 45) 4, type := 4, pos := "laws.go:187", after := #[{ on := 12, ground := Ground.data }, { on := 14, ground := Ground.data }, { on := 11, ground := Ground.guard }], guard := some (11, false) }) (v := ?v15) rfl (by kernel_rfl) (by kernel_rfl) (by kernel_rfl) (fun _ _ _ h => h) (Or.inl ⟨by rfl, ?hy15⟩) (by assumption) ?_
    case hy15 =>
      intro W hSW
      try dsimp only at hSW
      go_simp
      try with_reducible rfl
    try simp only [Act.put, List.setIfInBounds_toArray, List.set_cons_zero, List.set_cons_succ]
    refine wpAnyH_take (i := 16) (oi := { dst := some 47, op := Op.pick (Operand.tmp 42) (Operand.const (Value.bool true)) (Operand.tmp 46), type := 4, pos := "laws.go:187", after := #[{ on := 11, ground := Ground.data }, { on := 15, ground := Ground.data }], guard := none }) (v := ?v16) rfl (by kernel_rfl) (by kernel_rfl) (by kernel_rfl) (fun _ _ _ h => h) (Or.inl ⟨by rfl, ?hy16⟩) (by assumption) ?_
    case hy16 =>
      intro W hSW
      try dsimp only at hSW
      go_simp
      try with_reducible rfl
    try simp only [Act.put, List.setIfInBounds_toArray, List.set_cons_zero, List.set_cons_succ]
    refine wpAnyH_take (i := 17) (oi := { dst := some 48, op := Op.move (Operand.tmp 47), type := 4, pos := "laws.go:187", after := #[{ on := 16, ground := Ground.data }, { on := 14, ground := Ground.chain }], guard := none }) (v := ?v17) rfl (by kernel_rfl) (by kernel_rfl) (by kernel_rfl) (fun _ _ _ h => h) (Or.inl ⟨by rfl, ?hy17⟩) (by assumption) ?_
    case hy17 =>
      intro W hSW
      try dsimp only at hSW
      go_simp
      try with_reducible rfl
    try simp only [Act.put, List.setIfInBounds_toArray, List.set_cons_zero, List.set_cons_succ]
    refine wpAnyH_take (i := 18) (oi := { dst := some 49, op := Op.move (Operand.tmp 8), type := 4, pos := "laws.go:187", after := #[{ on := 17, ground := Ground.guard }], guard := some (17, false) }) (v := ?v18) rfl (by kernel_rfl) (by kernel_rfl) (by kernel_rfl) (fun _ _ _ h => h) (Or.inl ⟨by rfl, ?hy18⟩) (by assumption) ?_
    case hy18 =>
      intro W hSW
      try dsimp only at hSW
      go_simp
      try with_reducible rfl
    try simp only [Act.put, List.setIfInBounds_toArray, List.set_cons_zero, List.set_cons_succ]
    refine wpAnyH_take (i := 19) (oi := { dst := some 50, op := Op.move (Operand.tmp 49), type := 4, pos := "laws.go:187", after := #[{ on := 18, ground := Ground.data }, { on := 17, ground := Ground.chain }, { on := 17, ground := Ground.guard }], guard := some (17, false) }) (v := ?v19) rfl (by kernel_rfl) (by kernel_rfl) (by kernel_rfl) (fun _ _ _ h => h) (Or.inl ⟨by rfl, ?hy19⟩) (by assumption) ?_
    case hy19 =>
      intro W hSW
      try dsimp only at hSW
      go_simp
      try with_reducible rfl
    try simp only [Act.put, List.setIfInBounds_toArray, List.set_cons_zero, List.set_cons_succ]
    refine wpAnyH_take (i := 20) (oi := { dst := some 51, op := Op.load 25 (Operand.tmp 7), type := 25, pos := "laws.go:187", after := #[{ on := 19, ground := Ground.guard }], guard := some (19, true) }) (v := undef) rfl (by kernel_rfl) (by kernel_rfl) (by kernel_rfl) (fun _ _ _ h => h) (Or.inr ⟨by rfl, rfl⟩) (by assumption) ?_
    try simp only [Act.put, List.setIfInBounds_toArray, List.set_cons_zero, List.set_cons_succ]
    refine wpAnyH_take (i := 21) (oi := { dst := some 52, op := Op.load 25 (Operand.tmp 5), type := 25, pos := "laws.go:187", after := #[{ on := 19, ground := Ground.guard }], guard := some (19, true) }) (v := undef) rfl (by kernel_rfl) (by kernel_rfl) (by kernel_rfl) (fun _ _ _ h => h) (Or.inr ⟨by rfl, rfl⟩) (by assumption) ?_
    try simp only [Act.put, List.setIfInBounds_toArray, List.set_cons_zero, List.set_cons_succ]
    refine wpAnyH_take (i := 22) (oi := { dst := some 53, op := Op.call { callee := Callee.value (Operand.func 10), args := #[Operand.tmp 51, Operand.tmp 52], argTypes := #[25, 25] }, type := 4, pos := "laws.go:187", after := #[{ on := 20, ground := Ground.data }, { on := 21, ground := Ground.data }, { on := 19, ground := Ground.chain }, { on := 19, ground := Ground.guard }], guard := some (19, true) }) (v := undef) rfl (by kernel_rfl) (by kernel_rfl) (by kernel_rfl) (fun _ _ _ h => h) (Or.inr ⟨by rfl, rfl⟩) (by assumption) ?_
    try simp only [Act.put, List.setIfInBounds_toArray, List.set_cons_zero, List.set_cons_succ]
    refine wpAnyH_take (i := 23) (oi := { dst := some 54, op := Op.unOp UnOp.not 4 (Operand.tmp 53), type := 4, pos := "laws.go:187", after := #[{ on := 22, ground := Ground.data }, { on := 19, ground := Ground.guard }], guard := some (19, true) }) (v := undef) rfl (by kernel_rfl) (by kernel_rfl) (by kernel_rfl) (fun _ _ _ h => h) (Or.inr ⟨by rfl, rfl⟩) (by assumption) ?_
    try simp only [Act.put, List.setIfInBounds_toArray, List.set_cons_zero, List.set_cons_succ]
    refine wpAnyH_take (i := 24) (oi := { dst := some 55, op := Op.pick (Operand.tmp 50) (Operand.tmp 54) (Operand.const (Value.bool false)), type := 4, pos := "laws.go:187", after := #[{ on := 19, ground := Ground.data }, { on := 23, ground := Ground.data }, { on := 17, ground := Ground.guard }], guard := some (17, false) }) (v := ?v24) rfl (by kernel_rfl) (by kernel_rfl) (by kernel_rfl) (fun _ _ _ h => h) (Or.inl ⟨by rfl, ?hy24⟩) (by assumption) ?_
    case hy24 =>
      intro W hSW
      try dsimp only at hSW
      go_simp
      try with_reducible rfl
    try simp only [Act.put, List.setIfInBounds_toArray, List.set_cons_zero, List.set_cons_succ]
    refine wpAnyH_take (i := 25) (oi := { dst := some 56, op := Op.pick (Operand.tmp 48) (Operand.const (Value.bool true)) (Operand.tmp 55), type := 4, pos := "laws.go:187", after := #[{ on := 17, ground := Ground.data }, { on := 24, ground := Ground.data }], guard := none }) (v := ?v25) rfl (by kernel_rfl) (by kernel_rfl) (by kernel_rfl) (fun _ _ _ h => h) (Or.inl ⟨by rfl, ?hy25⟩) (by assumption) ?_
    case hy25 =>
      intro W hSW
      try dsimp only at hSW
      go_simp
      try with_reducible rfl
    try simp only [Act.put, List.setIfInBounds_toArray, List.set_cons_zero, List.set_cons_succ]
    refine wpAnyH_done (by kernel_rfl) ?_ _
    all_goals
      have HB := Q4
      clear FS VS VI hzz
      go_wp2_with fail
      refine (drawParseExpr_any b len' cap' x4 (HB2.out.1 _ HB) HB2.out.2.1 HB2.out.2.2).mono ?_
      rintro e y1 ⟨T, rfl, ht, hB1⟩
      have E1 := HB.trans (hB1.mono HB.size)
      have Ht := Lib.hid (show T.size ≤ 1048576 by omega)
      clear hB1 ht
      by_cases hy : ∃ k s ks, validE k s ks = true ∧ T.data.toList = fm1 k s ks
      · obtain ⟨k7, s7, ks7, hv7, ht7⟩ := hy
        obtain ⟨f1, f2, f3⟩ := valid_fits hv7 ht7 (by rw [Array.length_toList]; exact Ht.out)
        have H7 := Lib.hid (And.intro f1 (And.intro f2 f3))
        have H7z := Lib.hid (show ks7.size ≤ 1048576 by have := (valid_tx hv7).2.2; omega)
        have Hp := Lib.hid ((parseI_any T _ y1 rfl Ht.out).mono fun e w' h => PePost.yes h hv7 ht7)
        have HqS := Lib.hid (fun V => (parseS_any T _ V rfl Ht.out).mono fun e w' h => PsPost.yes h hv7 ht7)
        have HT7 := Lib.hid (show fmtE k7 s7 ks7 = T from ba_ext (by rw [fmtE_list hv7, ht7]))
        clear f1 f2 f3 hv7 ht7
        go_wp2_with fail
        refine Hp.out.mono ?_
        rintro e y2 ⟨a5, d5, bk5, g5, rfl, hcx, hB2⟩
        have hr2 := pe_rd hcx
        have hk2 := hcx.2.2.1.more (Nat.zero_le _) (Nat.le_refl _)
        have Hd5 := Lib.hid hcx.1
        clear hcx
        have hA2 := (Below.refl y2.heap.size y2).alloc (Nat.le_refl _) (.cells #[.int .i64 k7, .string s7, .slice a5 ks7.len d5] 25)
        have X2 := Lib.hid (show ExQ (y2.alloc (.cells #[.int .i64 k7, .string s7, .slice a5 ks7.len d5] 25)) y2.heap.size k7 s7 ks7 a5 ks7.len d5 25 from exC_new hk2 hr2)
        have E2 := (E1.trans (hB2.mono E1.size)).trans (hA2.mono (E1.trans (hB2.mono E1.size)).size)
        clear hr2 hk2 hB2 hA2 Hp
        go_upto_region 10 with (fail)
        generalize hv2 : y2.alloc (.cells #[.int .i64 k7, .string s7, .slice a5 ks7.len d5] 25) = z2 at *
        clear hv2
        go_wp2_with fail
        refine (HqS.out z2).mono ?_
        rintro e y3 ⟨a6, d6, rfl, hk6, hd6, hB3⟩
        have hr3 := hk6.rd
        have hk3 := hk6.1.more (Nat.zero_le _) (Nat.le_refl _)
        have Hd6 := Lib.hid hd6
        clear hk6 hd6
        have hA3 := (Below.refl y3.heap.size y3).alloc (Nat.le_refl _) (.cells #[.int .i64 k7, .string s7, .slice a6 ks7.len d6] 25)
        have P3 := Lib.hid (show PrE (y3.alloc (.cells #[.int .i64 k7, .string s7, .slice a6 ks7.len d6] 25)) y2.heap.size y3.heap.size k7 s7 ks7 a5 d5 k7 s7 ks7 a6 d6 from ⟨(X2.out.next hB3).next hA3, exC_new hk3 hr3⟩)
        have E3 := (E2.trans (hB3.mono E2.size)).trans (hA3.mono (E2.trans (hB3.mono E2.size)).size)
        clear hr3 hk3 hB3 hA3 HqS X2
        go_upto_region 11 with (fail)
        generalize hv3 : y3.alloc (.cells #[.int .i64 k7, .string s7, .slice a6 ks7.len d6] 25) = z3 at *
        clear hv3
        obtain ⟨c0, c1', c2'⟩ := P3.out.1.1.three
        obtain ⟨d0, d1', d2'⟩ := P3.out.2.1.three
        try simp only [Fo.len] at c2'
        try simp only [Fo.len] at d2'
        go_wp2_with fail
        refine (eqI_any true k7 k7 s7 s7 ks7 ks7 (by simp) a5 a6 ks7.len ks7.len d5 d6 z3 P3.out.1.2 P3.out.2.2 Hd5.out Hd6.out H7z.out ⟨H7.out.1, H7.out.2.2, H7.out.2.2⟩).mono ?_
        rintro e y4 ⟨rfl, hB4⟩
        have P4 := Lib.hid (P3.out.next hB4)
        have E4 := E3.trans (hB4.mono E3.size)
        clear c0 c1' c2' d0 d1' d2' hB4
        obtain ⟨c0, c1', c2'⟩ := P4.out.1.1.three
        go_wp2_with fail
        refine (formatI_expr k7 s7 ks7 _ _ _ _ P4.out.1.1.2 H7.out.1 H7.out.2.1 H7.out.2.2).mono ?_
        rintro e y5 ⟨rfl, hB5⟩
        have E5 := E4.trans (hB5.mono E4.size)
        rw [HT7.out]
        have htt : (T.toList == T.toList) = true := by simp
        clear c0 c1' c2' hB5
        go_wp2_with fail
        go_ret
        exact ⟨rfl, E5⟩
      · have Hp := Lib.hid ((parseI_any T _ y1 rfl Ht.out).mono fun e w' h => PePost.no h fun k s ks hv e => hy ⟨k, s, ks, hv, e⟩)
        have HqS := Lib.hid (fun V => (parseS_any T _ V rfl Ht.out).mono fun e w' h => PsPost.no h fun k s ks hv e => hy ⟨k, s, ks, hv, e⟩)
        clear hy
        go_wp2_with fail
        refine Hp.out.mono ?_
        rintro e y2 ⟨rfl, hB2⟩
        have hr2 := rdA_nil y2
        have hk2 := ka_nil y2
        have hA2 := (Below.refl y2.heap.size y2).alloc (Nat.le_refl _) (.cells #[.int .i64 0, .string ⟨#[]⟩, .slice none 0 0] 25)
        have X2 := Lib.hid (show ExQ (y2.alloc (.cells #[.int .i64 0, .string ⟨#[]⟩, .slice none 0 0] 25)) y2.heap.size 0 ⟨#[]⟩ .nil none 0 0 25 from exC_new hk2 hr2)
        have E2 := (E1.trans (hB2.mono E1.size)).trans (hA2.mono (E1.trans (hB2.mono E1.size)).size)
        clear hr2 hk2 hB2 hA2 Hp
        go_upto_region 10 with (fail)
        generalize hv2 : y2.alloc (.cells #[.int .i64 0, .string ⟨#[]⟩, .slice none 0 0] 25) = z2 at *
        clear hv2
        go_wp2_with fail
        refine (HqS.out z2).mono ?_
        rintro e y3 ⟨rfl, hB3⟩
        have hr3 := rdA_nil y3
        have hk3 := ka_nil y3
        have hA3 := (Below.refl y3.heap.size y3).alloc (Nat.le_refl _) (.cells #[.int .i64 0, .string ⟨#[]⟩, .slice none 0 0] 25)
        have P3 := Lib.hid (show PrE (y3.alloc (.cells #[.int .i64 0, .string ⟨#[]⟩, .slice none 0 0] 25)) y2.heap.size y3.heap.size 0 ⟨#[]⟩ .nil none 0 0 ⟨#[]⟩ .nil none 0 from ⟨(X2.out.next hB3).next hA3, exC_new hk3 hr3⟩)
        have E3 := (E2.trans (hB3.mono E2.size)).trans (hA3.mono (E2.trans (hB3.mono E2.size)).size)
        clear hr3 hk3 hB3 hA3 HqS X2
        go_upto_region 11 with (fail)
        generalize hv3 : y3.alloc (.cells #[.int .i64 0, .string ⟨#[]⟩, .slice none 0 0] 25) = z3 at *
        clear hv3
        obtain ⟨c0, c1', c2'⟩ := P3.out.1.1.three
        obtain ⟨d0, d1', d2'⟩ := P3.out.2.1.three
        try simp only [Fo.len] at c2'
        try simp only [Fo.len] at d2'
        go_wp2_with fail
        refine (eqI_any true 0 0 ⟨#[]⟩ ⟨#[]⟩ .nil .nil (by simp) none none 0 0 0 0 z3 P3.out.1.2 P3.out.2.2 (Nat.le_refl _) (Nat.le_refl _) (by decide) ⟨by decide, by decide, by decide⟩).mono ?_
        rintro e y4 ⟨rfl, hB4⟩
        have E4 := E3.trans (hB4.mono E3.size)
        clear c0 c1' c2' d0 d1' d2' hB4
        go_wp2_with fail
        go_ret
        exact ⟨rfl, E4⟩
end Go.Proofs.Ytecekkmagldpoaa
