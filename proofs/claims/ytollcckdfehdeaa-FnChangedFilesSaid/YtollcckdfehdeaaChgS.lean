/-
  The reference's ChangedFiles.
-/
import Derived.Test.YtollcckdfehdeaaChgR
import Derived.Test.YtollcckdfehdeaaListB
import Derived.Laws.StructEq
namespace Go.Proofs.Ytollcckdfehdeaa
set_option linter.unusedVariables false
set_option linter.unusedSimpArgs false
open Go.RowKit

theorem chg_any (a b : Option Addr) (c d : Nat) (fs gs : List Fl) (w : World) (hsa : SlOk a fs.length c) (hsb : SlOk b gs.length d)
    (hf : FilesAt w w.heap.size a fs.length fs) (hg : FilesAt w w.heap.size b gs.length gs) (hfit : Fits fs) (hfit2 : Fits gs) (hn : fs.length ≤ maxLen) (hm : gs.length ≤ maxLen) :
    Calls Try.prog 7 #[.slice a fs.length c, .slice b gs.length d] w (StrsR (chgR fs gs) w) :=
  callsIn_wide.1 (chg_in a b c d fs gs w hsa hsb hf hg hfit hfit2 hn hm)

def SRel (fs gs : List Fl) (w : World) (o i k : Value) (wr : World) : Prop :=
  ∃ (x y : Nat) (ss : List ByteArray), x ≤ fs.length ∧ y ≤ gs.length ∧ i = .int .i64 x ∧ k = .int .i64 y ∧ chgs (allP fs gs 0 0) = ss ++ chgs (allP fs gs x y) ∧ ss.length ≤ x + y ∧ OwnsS wr w.heap.size o ss ∧ Below w.heap.size w wr
theorem srel_next {fs gs : List Fl} {w wr : World} {o i k : Value} {x y x' y' : Nat} {ss zs : List ByteArray} (hx : x ≤ fs.length) (hy : y ≤ gs.length) (hor : x < fs.length ∨ y < gs.length)
    (hss : chgs (allP fs gs 0 0) = ss ++ chgs (allP fs gs x y)) (hl : ss.length ≤ x + y) (hw : chg (lAt fs gs x y, rAt fs gs x y) = zs ∧ iNext fs gs x y = x' ∧ jNext fs gs x y = y') (hz : zs.length ≤ 1)
    (hi : i = .int .i64 x') (hk : k = .int .i64 y') (ho : OwnsS wr w.heap.size o (ss ++ zs)) (hB : Below w.heap.size w wr) : SRel fs gs w o i k wr := by
  obtain ⟨rfl, rfl, rfl⟩ := hw
  have hm := next_more fs gs x y
  obtain ⟨h1, h2⟩ := next_le hx hy hor
  exact ⟨_, _, _, h1, h2, hi, hk, by rw [hss, allP_step hx hy hor, chgs_cons, List.append_assoc], by rw [List.length_append]; omega, ho, hB⟩
theorem strs_below {w w' : World} {B : Nat} {v : Value} {ss : List ByteArray} (h : OwnsS w B v ss) (hb : Below w.heap.size w w') : OwnsS w' B v ss := by
  unfold OwnsS World.ownsRow at h ⊢
  refine ⟨h.1, ?_⟩
  rcases h.2 with h2 | ⟨g, cap, cur, rfl, h3, h4, h5⟩
  · exact .inl h2
  · exact .inr ⟨g, cap, cur, rfl, h3, (hb.block g (blk_lt h4)).trans h4, h5⟩
theorem strs_made (w : World) : OwnsS (w.alloc (.cells #[] 9)) w.heap.size (.slice (some ⟨w.heap.size, 0, none⟩) 0 0) [] := World.ownsRow_made w _ _ (Nat.le_refl _) (by simp [maxLen]) rfl
theorem strs_at {w : World} {B k : Nat} {v : Value} {xs : List Value} (h : w.ownsRow B 9 1 v k xs) : ∀ j, v.ownBlock = some j → B ≤ j := by
  rcases h.2 with ⟨rfl, _⟩ | ⟨g, cap, cur, rfl, hb, _, _⟩
  · intro j e; simp [Value.ownBlock] at e
  · intro j e
    obtain rfl : g = j := by simpa [Value.ownBlock] using e
    exact hb
theorem OwnsS.grew {w : World} {B : Nat} {v : Value} {ss : List ByteArray} {p : ByteArray} (h : w.ownsRow B 9 1 v (ss.length + 1) (ss.map .string ++ [.string p])) : OwnsS w B v (ss ++ [p]) := by
  unfold OwnsS; simpa using h

set_option maxRecDepth 100000 in
set_option maxHeartbeats 8000000 in
theorem schg_any (a b : Option Addr) (c d : Nat) (fs gs : List Fl) (w : World) 
    (hf : FilesAt w w.heap.size a fs.length fs) (hg : FilesAt w w.heap.size b gs.length gs) (hfit : Fits fs) (hfit2 : Fits gs) (hn : fs.length ≤ maxLen) (hm : gs.length ≤ maxLen) :
    Calls Try.prog 9 #[.slice a fs.length c, .slice b gs.length d] w (StrsR (chgR fs gs) w) := by
  have hfit1 := Lib.hid hfit
  have hfit3 := Lib.hid hfit2
  have hn1 := Lib.hid hn
  have hm1 := Lib.hid hm
  have hf1 := Lib.hid hf
  have hg1 := Lib.hid hg
  clear hfit hfit2 hn hm hf hg
  obtain ⟨i0, hi, hz0, hz1, hz2⟩ := info_parts infoStr
  cases hv1 : validB fs with
  | false =>
    have Hv1 := Lib.hid hv1
    have HR := Lib.hid (chgR_not1 (gs := gs) hv1)
    clear hv1
    go_enter Try.func9, Try.ntmps9
    go_wp2_with (go_at_call 29; refine (validS_any _ _ _ _ _ (hf1.out.in1 _) hfit1.out hn1.out).mono ?_; rintro e w1 ⟨rfl, hB1⟩; rw [Hv1.out])
    go_ret
    refine ⟨_, rfl, ?_, ((Below.refl _ w).alloc (Nat.le_refl _) _).trans (hB1.mono (by simp))⟩
    rw [HR.out]
    exact strs_below (strs_made w) hB1
  | true =>
    cases hv2 : validB gs with
    | false =>
      have Hv1 := Lib.hid hv1
      have Hv2 := Lib.hid hv2
      have HR := Lib.hid (chgR_not2 (fs := fs) hv2)
      clear hv1 hv2
      go_enter Try.func9, Try.ntmps9
      go_wp2_with fail
      refine (validS_any _ _ _ _ _ (hf1.out.in1 _) hfit1.out hn1.out).mono ?_
      rintro e w1 ⟨rfl, hB1⟩
      rw [Hv1.out]
      have B1 : Below w.heap.size w w1 := ((Below.refl _ w).alloc (Nat.le_refl _) _).trans (hB1.mono (by simp))
      go_wp2_with fail
      refine (validS_any _ _ _ _ _ ((hg1.out.below B1).more B1.size) hfit3.out hm1.out).mono ?_
      rintro e w2 ⟨rfl, hB2⟩
      rw [Hv2.out]
      go_wp2_with fail
      go_ret
      refine ⟨_, rfl, ?_, B1.trans (hB2.mono B1.size)⟩
      rw [HR.out]
      exact strs_below (strs_below (strs_made w) hB1) hB2
    | true =>
      have Hv1 := Lib.hid hv1
      have Hv2 := Lib.hid hv2
      have HR := Lib.hid (chgR_yes hv1 hv2)
      have hl1 := valid_length hv1
      have hl2 := valid_length hv2
      clear hv1 hv2
      go_enter Try.func9, Try.ntmps9
      go_wp2_with fail
      refine (validS_any _ _ _ _ _ (hf1.out.in1 _) hfit1.out hn1.out).mono ?_
      rintro e w1 ⟨rfl, hB1⟩
      rw [Hv1.out]
      have B1 : Below w.heap.size w w1 := ((Below.refl _ w).alloc (Nat.le_refl _) _).trans (hB1.mono (by simp))
      go_wp2_with fail
      refine (validS_any _ _ _ _ _ ((hg1.out.below B1).more B1.size) hfit3.out hm1.out).mono ?_
      rintro e w2 ⟨rfl, hB2⟩
      rw [Hv2.out]
      have B2 := B1.trans (hB2.mono B1.size)
      have hown0 := strs_below (strs_below (strs_made w) hB1) hB2
      go_wp2_with fail
      go_loopw [5, 6, 7] (fun o i k wr => SRel fs gs w o i k wr) (fun o i k _ => fs.length + gs.length - ((intOf i).toNat + (intOf k).toNat))
      case atStart => exact ⟨0, 0, [], Nat.zero_le _, Nat.zero_le _, rfl, rfl, rfl, Nat.zero_le _, hown0, B2⟩
      case round =>
        obtain ⟨x, y, ss, hx, hy, rfl, rfl, hss, hssl, hown, hB⟩ := hrel
        have Hown := Lib.hid hown
        have Hss := Lib.hid hss
        have hbs := hB.size
        have hf' := hf1.out.below hB
        have hg' := hg1.out.below hB
        clear hown hss hown0 B1 B2 hB1 hB2
        by_cases hxl : x < fs.length
        · obtain ⟨b1, o1, p, t, rfl, hb1, hgx, hx1, hx2⟩ := hf'.get hxl
          have Hp := Lib.hid (valid_path Hv1.out hgx)
          have Hgx := Lib.hid hgx
          have hd1 : ((x : Int) == (fs.length : Int)) = false := by rw [beq_eq_false_iff_ne]; omega
          have hx0 : (0 : Int) ≤ (x : Int) := by omega
          have hx3 : (x : Int) < (fs.length : Int) := by omega
          clear hgx
          by_cases hyl : y < gs.length
          · obtain ⟨b2, o2, q, u, rfl, hb2, hgy, hy1, hy2⟩ := hg'.get hyl
            have Hq := Lib.hid (valid_path Hv2.out hgy)
            have Hgy := Lib.hid hgy
            have hd2 : ((y : Int) == (gs.length : Int)) = false := by rw [beq_eq_false_iff_ne]; omega
            have hy0 : (0 : Int) ≤ (y : Int) := by omega
            have hy3 : (y : Int) < (gs.length : Int) := by omega
            clear hgy
            rcases (show p = q ∨ sLess p q = true ∨ sLess q p = true by by_cases h1 : p = q; exact .inl h1; cases h2 : sLess p q; exact .inr (.inr (sLess_total h2 h1)); exact .inr (.inl rfl)) with heq | hlt | hgt
            · subst heq
              have hk1 : Op.bytesLess p.toList p.toList = false := by cases h : sLess p p; exact h; exact absurd rfl (sLess_ne h)
              have Hway0 := Lib.hid (way_both Hgx.out Hgy.out Hp.out)
              by_cases htu : t = u
              · subst htu
                have hd3 : (t.toList == t.toList) = true := by simp
                have Hway := Lib.hid (by simpa using Hway0.out : chg (lAt fs gs x y, rAt fs gs x y) = [] ∧ iNext fs gs x y = x + 1 ∧ jNext fs gs x y = y + 1)
                go_wp2_with fail
                go_quiet (fail)
                have HownN := Lib.hid (strs_below Hown.out (below_drewN (Below.refl _ wr) nq))
                have hBN := below_drewN hB nq
                have hbsN : w.heap.size ≤ (wr.drewN nq).heap.size := hbs
                have hx1N : (wr.drewN nq).cell? ⟨b1, o1 + x * 2, none⟩ = some (.string p) := hx1
                have hx2N : (wr.drewN nq).cell? ⟨b1, o1 + x * 2 + 1, none⟩ = some (.string t) := hx2
                have hy1N : (wr.drewN nq).cell? ⟨b2, o2 + y * 2, none⟩ = some (.string p) := hy1
                have hy2N : (wr.drewN nq).cell? ⟨b2, o2 + y * 2 + 1, none⟩ = some (.string t) := hy2
                try clear hf'
                try clear hg'
                clear Hown hB hbs hx1 hx2 hy1 hy2
                generalize wr.drewN nq = wr at HownN hBN hbsN hx1N hx2N hy1N hy2N ⊢
                have Hown := HownN
                clear HownN
                have hB := hBN
                clear hBN
                have hbs := hbsN
                clear hbsN
                have hx1 := hx1N
                clear hx1N
                have hx2 := hx2N
                clear hx2N
                have hy1 := hy1N
                clear hy1N
                have hy2 := hy2N
                clear hy2N
                go_wp2_with fail
                go_quiet (fail)
                have HownN := Lib.hid (strs_below Hown.out (below_drewN (Below.refl _ wr) nq))
                have hBN := below_drewN hB nq
                have hbsN : w.heap.size ≤ (wr.drewN nq).heap.size := hbs
                have hx1N : (wr.drewN nq).cell? ⟨b1, o1 + x * 2, none⟩ = some (.string p) := hx1
                have hx2N : (wr.drewN nq).cell? ⟨b1, o1 + x * 2 + 1, none⟩ = some (.string t) := hx2
                have hy1N : (wr.drewN nq).cell? ⟨b2, o2 + y * 2, none⟩ = some (.string p) := hy1
                have hy2N : (wr.drewN nq).cell? ⟨b2, o2 + y * 2 + 1, none⟩ = some (.string t) := hy2
                try clear hf'
                try clear hg'
                clear Hown hB hbs hx1 hx2 hy1 hy2
                generalize wr.drewN nq = wr at HownN hBN hbsN hx1N hx2N hy1N hy2N ⊢
                have Hown := HownN
                clear HownN
                have hB := hBN
                clear hBN
                have hbs := hbsN
                clear hbsN
                have hx1 := hx1N
                clear hx1N
                have hx2 := hx2N
                clear hx2N
                have hy1 := hy1N
                clear hy1N
                have hy2 := hy2N
                clear hy2N
                go_wp2_with fail
                go_quiet (fail)
                have HownN := Lib.hid (strs_below Hown.out (below_drewN (Below.refl _ wr) nq))
                have hBN := below_drewN hB nq
                have hbsN : w.heap.size ≤ (wr.drewN nq).heap.size := hbs
                have hx1N : (wr.drewN nq).cell? ⟨b1, o1 + x * 2, none⟩ = some (.string p) := hx1
                have hx2N : (wr.drewN nq).cell? ⟨b1, o1 + x * 2 + 1, none⟩ = some (.string t) := hx2
                have hy1N : (wr.drewN nq).cell? ⟨b2, o2 + y * 2, none⟩ = some (.string p) := hy1
                have hy2N : (wr.drewN nq).cell? ⟨b2, o2 + y * 2 + 1, none⟩ = some (.string t) := hy2
                try clear hf'
                try clear hg'
                clear Hown hB hbs hx1 hx2 hy1 hy2
                generalize wr.drewN nq = wr at HownN hBN hbsN hx1N hx2N hy1N hy2N ⊢
                have Hown := HownN
                clear HownN
                have hB := hBN
                clear hBN
                have hbs := hbsN
                clear hbsN
                have hx1 := hx1N
                clear hx1N
                have hx2 := hx2N
                clear hx2N
                have hy1 := hy1N
                clear hy1N
                have hy2 := hy2N
                clear hy2N
                go_wp2_with fail
                exact ⟨srel_next hx hy (by omega) Hss.out hssl Hway.out (by simp) (by go_num) (by go_num) (by simpa using Hown.out) hB, by simp [intOf]; omega⟩
              · have hd3 : (t.toList == u.toList) = false := by rw [sEq]; simpa using htu
                have Hway := Lib.hid (by have := Hway0.out; rwa [if_neg htu] at this : chg (lAt fs gs x y, rAt fs gs x y) = [p] ∧ iNext fs gs x y = x + 1 ∧ jNext fs gs x y = y + 1)
                clear htu
                go_wp2_with fail
                go_quiet (fail)
                have HownN := Lib.hid (strs_below Hown.out (below_drewN (Below.refl _ wr) nq))
                have hBN := below_drewN hB nq
                have hbsN : w.heap.size ≤ (wr.drewN nq).heap.size := hbs
                have hx1N : (wr.drewN nq).cell? ⟨b1, o1 + x * 2, none⟩ = some (.string p) := hx1
                have hx2N : (wr.drewN nq).cell? ⟨b1, o1 + x * 2 + 1, none⟩ = some (.string t) := hx2
                have hy1N : (wr.drewN nq).cell? ⟨b2, o2 + y * 2, none⟩ = some (.string p) := hy1
                have hy2N : (wr.drewN nq).cell? ⟨b2, o2 + y * 2 + 1, none⟩ = some (.string u) := hy2
                try clear hf'
                try clear hg'
                clear Hown hB hbs hx1 hx2 hy1 hy2
                generalize wr.drewN nq = wr at HownN hBN hbsN hx1N hx2N hy1N hy2N ⊢
                have Hown := HownN
                clear HownN
                have hB := hBN
                clear hBN
                have hbs := hbsN
                clear hbsN
                have hx1 := hx1N
                clear hx1N
                have hx2 := hx2N
                clear hx2N
                have hy1 := hy1N
                clear hy1N
                have hy2 := hy2N
                clear hy2N
                go_wp2_with fail
                go_quiet (fail)
                have HownN := Lib.hid (strs_below Hown.out (below_drewN (Below.refl _ wr) nq))
                have hBN := below_drewN hB nq
                have hbsN : w.heap.size ≤ (wr.drewN nq).heap.size := hbs
                have hx1N : (wr.drewN nq).cell? ⟨b1, o1 + x * 2, none⟩ = some (.string p) := hx1
                have hx2N : (wr.drewN nq).cell? ⟨b1, o1 + x * 2 + 1, none⟩ = some (.string t) := hx2
                have hy1N : (wr.drewN nq).cell? ⟨b2, o2 + y * 2, none⟩ = some (.string p) := hy1
                have hy2N : (wr.drewN nq).cell? ⟨b2, o2 + y * 2 + 1, none⟩ = some (.string u) := hy2
                try clear hf'
                try clear hg'
                clear Hown hB hbs hx1 hx2 hy1 hy2
                generalize wr.drewN nq = wr at HownN hBN hbsN hx1N hx2N hy1N hy2N ⊢
                have Hown := HownN
                clear HownN
                have hB := hBN
                clear hBN
                have hbs := hbsN
                clear hbsN
                have hx1 := hx1N
                clear hx1N
                have hx2 := hx2N
                clear hx2N
                have hy1 := hy1N
                clear hy1N
                have hy2 := hy2N
                clear hy2N
                go_wp2_with fail
                go_quiet (fail)
                have HownN := Lib.hid (strs_below Hown.out (below_drewN (Below.refl _ wr) nq))
                have hBN := below_drewN hB nq
                have hbsN : w.heap.size ≤ (wr.drewN nq).heap.size := hbs
                have hx1N : (wr.drewN nq).cell? ⟨b1, o1 + x * 2, none⟩ = some (.string p) := hx1
                have hx2N : (wr.drewN nq).cell? ⟨b1, o1 + x * 2 + 1, none⟩ = some (.string t) := hx2
                have hy1N : (wr.drewN nq).cell? ⟨b2, o2 + y * 2, none⟩ = some (.string p) := hy1
                have hy2N : (wr.drewN nq).cell? ⟨b2, o2 + y * 2 + 1, none⟩ = some (.string u) := hy2
                try clear hf'
                try clear hg'
                clear Hown hB hbs hx1 hx2 hy1 hy2
                generalize wr.drewN nq = wr at HownN hBN hbsN hx1N hx2N hy1N hy2N ⊢
                have Hown := HownN
                clear HownN
                have hB := hBN
                clear hBN
                have hbs := hbsN
                clear hbsN
                have hx1 := hx1N
                clear hx1N
                have hx2 := hx2N
                clear hx2N
                have hy1 := hy1N
                clear hy1N
                have hy2 := hy2N
                clear hy2N
                go_wp2_with (at_builtin; refine wpList_append_own _ rfl _ _ 28 rfl w.heap.size 9 i0 _ 1 16 underStrs hi hz0 hz1 hz2 rfl (by decide) _ _ _ rfl (World.ownsRow.alloc Hown.out _) ⟨wr.heap.size, 0, none⟩ 1 1 [.string p] rfl rfl (cell_one_new _ _ _) (by simp [Value.oneCell']) (by simp only [maxLen]; omega) (by omega) (by simp; omega) ?_; intro v2 w2 hown2 hgrow _)
                exact ⟨srel_next hx hy (by omega) Hss.out hssl Hway.out (by simp) (by go_num) (by go_num) (OwnsS.grew hown2) ((hB.alloc hbs _).grown hgrow (by simp; omega) (strs_at Hown.out)), by simp [intOf]; omega⟩
            · have Hway := Lib.hid (way_left (gs := gs) (j := y) Hgx.out Hp.out (.inr ⟨q, u, Hgy.out, hlt⟩))
              have hk1 : Op.bytesLess p.toList q.toList = true := hlt
              have hk2 : Op.bytesLess q.toList p.toList = false := sLess_asymm hlt
              go_wp2_with fail
              go_quiet (fail)
              have HownN := Lib.hid (strs_below Hown.out (below_drewN (Below.refl _ wr) nq))
              have hBN := below_drewN hB nq
              have hbsN : w.heap.size ≤ (wr.drewN nq).heap.size := hbs
              have hx1N : (wr.drewN nq).cell? ⟨b1, o1 + x * 2, none⟩ = some (.string p) := hx1
              have hx2N : (wr.drewN nq).cell? ⟨b1, o1 + x * 2 + 1, none⟩ = some (.string t) := hx2
              have hy1N : (wr.drewN nq).cell? ⟨b2, o2 + y * 2, none⟩ = some (.string q) := hy1
              have hy2N : (wr.drewN nq).cell? ⟨b2, o2 + y * 2 + 1, none⟩ = some (.string u) := hy2
              try clear hf'
              try clear hg'
              clear Hown hB hbs hx1 hx2 hy1 hy2
              generalize wr.drewN nq = wr at HownN hBN hbsN hx1N hx2N hy1N hy2N ⊢
              have Hown := HownN
              clear HownN
              have hB := hBN
              clear hBN
              have hbs := hbsN
              clear hbsN
              have hx1 := hx1N
              clear hx1N
              have hx2 := hx2N
              clear hx2N
              have hy1 := hy1N
              clear hy1N
              have hy2 := hy2N
              clear hy2N
              go_wp2_with (at_builtin; refine wpList_append_own _ rfl _ _ 28 rfl w.heap.size 9 i0 _ 1 16 underStrs hi hz0 hz1 hz2 rfl (by decide) _ _ _ rfl (World.ownsRow.alloc Hown.out _) ⟨wr.heap.size, 0, none⟩ 1 1 [.string p] rfl rfl (cell_one_new _ _ _) (by simp [Value.oneCell']) (by simp only [maxLen]; omega) (by omega) (by simp; omega) ?_; intro v2 w2 hown2 hgrow _)
              exact ⟨srel_next hx hy (by omega) Hss.out hssl Hway.out (by simp) (by go_num) (by go_num) (OwnsS.grew hown2) ((hB.alloc hbs _).grown hgrow (by simp; omega) (strs_at Hown.out)), by simp [intOf]; omega⟩
            · have Hway := Lib.hid (way_right (fs := fs) (i := x) Hgy.out Hq.out (.inr ⟨p, t, Hgx.out, hgt⟩))
              have hk1 : Op.bytesLess q.toList p.toList = true := hgt
              have hk2 : Op.bytesLess p.toList q.toList = false := sLess_asymm hgt
              go_wp2_with fail
              go_quiet (fail)
              have HownN := Lib.hid (strs_below Hown.out (below_drewN (Below.refl _ wr) nq))
              have hBN := below_drewN hB nq
              have hbsN : w.heap.size ≤ (wr.drewN nq).heap.size := hbs
              have hx1N : (wr.drewN nq).cell? ⟨b1, o1 + x * 2, none⟩ = some (.string p) := hx1
              have hx2N : (wr.drewN nq).cell? ⟨b1, o1 + x * 2 + 1, none⟩ = some (.string t) := hx2
              have hy1N : (wr.drewN nq).cell? ⟨b2, o2 + y * 2, none⟩ = some (.string q) := hy1
              have hy2N : (wr.drewN nq).cell? ⟨b2, o2 + y * 2 + 1, none⟩ = some (.string u) := hy2
              try clear hf'
              try clear hg'
              clear Hown hB hbs hx1 hx2 hy1 hy2
              generalize wr.drewN nq = wr at HownN hBN hbsN hx1N hx2N hy1N hy2N ⊢
              have Hown := HownN
              clear HownN
              have hB := hBN
              clear hBN
              have hbs := hbsN
              clear hbsN
              have hx1 := hx1N
              clear hx1N
              have hx2 := hx2N
              clear hx2N
              have hy1 := hy1N
              clear hy1N
              have hy2 := hy2N
              clear hy2N
              go_wp2_with fail
              go_quiet (fail)
              have HownN := Lib.hid (strs_below Hown.out (below_drewN (Below.refl _ wr) nq))
              have hBN := below_drewN hB nq
              have hbsN : w.heap.size ≤ (wr.drewN nq).heap.size := hbs
              have hx1N : (wr.drewN nq).cell? ⟨b1, o1 + x * 2, none⟩ = some (.string p) := hx1
              have hx2N : (wr.drewN nq).cell? ⟨b1, o1 + x * 2 + 1, none⟩ = some (.string t) := hx2
              have hy1N : (wr.drewN nq).cell? ⟨b2, o2 + y * 2, none⟩ = some (.string q) := hy1
              have hy2N : (wr.drewN nq).cell? ⟨b2, o2 + y * 2 + 1, none⟩ = some (.string u) := hy2
              try clear hf'
              try clear hg'
              clear Hown hB hbs hx1 hx2 hy1 hy2
              generalize wr.drewN nq = wr at HownN hBN hbsN hx1N hx2N hy1N hy2N ⊢
              have Hown := HownN
              clear HownN
              have hB := hBN
              clear hBN
              have hbs := hbsN
              clear hbsN
              have hx1 := hx1N
              clear hx1N
              have hx2 := hx2N
              clear hx2N
              have hy1 := hy1N
              clear hy1N
              have hy2 := hy2N
              clear hy2N
              go_wp2_with (at_builtin; refine wpList_append_own _ rfl _ _ 28 rfl w.heap.size 9 i0 _ 1 16 underStrs hi hz0 hz1 hz2 rfl (by decide) _ _ _ rfl (World.ownsRow.alloc Hown.out _) ⟨wr.heap.size, 0, none⟩ 1 1 [.string q] rfl rfl (cell_one_new _ _ _) (by simp [Value.oneCell']) (by simp only [maxLen]; omega) (by omega) (by simp; omega) ?_; intro v2 w2 hown2 hgrow _)
              exact ⟨srel_next hx hy (by omega) Hss.out hssl Hway.out (by simp) (by go_num) (by go_num) (OwnsS.grew hown2) ((hB.alloc hbs _).grown hgrow (by simp; omega) (strs_at Hown.out)), by simp [intOf]; omega⟩
          · obtain rfl : y = gs.length := by omega
            have HGY := Lib.hid (show gs[gs.length]? = none from List.getElem?_eq_none (Nat.le_refl _))
            have Hway := Lib.hid (way_left (gs := gs) (j := gs.length) Hgx.out Hp.out (.inl HGY.out))
            go_wp2_with fail
            go_quiet (fail)
            have HownN := Lib.hid (strs_below Hown.out (below_drewN (Below.refl _ wr) nq))
            have hBN := below_drewN hB nq
            have hbsN : w.heap.size ≤ (wr.drewN nq).heap.size := hbs
            have hx1N : (wr.drewN nq).cell? ⟨b1, o1 + x * 2, none⟩ = some (.string p) := hx1
            have hx2N : (wr.drewN nq).cell? ⟨b1, o1 + x * 2 + 1, none⟩ = some (.string t) := hx2
            try clear hf'
            try clear hg'
            clear Hown hB hbs hx1 hx2
            generalize wr.drewN nq = wr at HownN hBN hbsN hx1N hx2N ⊢
            have Hown := HownN
            clear HownN
            have hB := hBN
            clear hBN
            have hbs := hbsN
            clear hbsN
            have hx1 := hx1N
            clear hx1N
            have hx2 := hx2N
            clear hx2N
            go_wp2_with (at_builtin; refine wpList_append_own _ rfl _ _ 28 rfl w.heap.size 9 i0 _ 1 16 underStrs hi hz0 hz1 hz2 rfl (by decide) _ _ _ rfl (World.ownsRow.alloc Hown.out _) ⟨wr.heap.size, 0, none⟩ 1 1 [.string p] rfl rfl (cell_one_new _ _ _) (by simp [Value.oneCell']) (by simp only [maxLen]; omega) (by omega) (by simp; omega) ?_; intro v2 w2 hown2 hgrow _)
            exact ⟨srel_next hx hy (by omega) Hss.out hssl Hway.out (by simp) (by go_num) (by go_num) (OwnsS.grew hown2) ((hB.alloc hbs _).grown hgrow (by simp; omega) (strs_at Hown.out)), by simp [intOf]; omega⟩
        · by_cases hyl : y < gs.length
          · obtain rfl : x = fs.length := by omega
            have HFX := Lib.hid (show fs[fs.length]? = none from List.getElem?_eq_none (Nat.le_refl _))
            obtain ⟨b2, o2, q, u, rfl, hb2, hgy, hy1, hy2⟩ := hg'.get hyl
            have Hq := Lib.hid (valid_path Hv2.out hgy)
            have Hgy := Lib.hid hgy
            have hd2 : ((y : Int) == (gs.length : Int)) = false := by rw [beq_eq_false_iff_ne]; omega
            have hy0 : (0 : Int) ≤ (y : Int) := by omega
            have hy3 : (y : Int) < (gs.length : Int) := by omega
            clear hgy
            have Hway := Lib.hid (way_right (fs := fs) (i := fs.length) Hgy.out Hq.out (.inl HFX.out))
            go_wp2_with fail
            go_quiet (fail)
            have HownN := Lib.hid (strs_below Hown.out (below_drewN (Below.refl _ wr) nq))
            have hBN := below_drewN hB nq
            have hbsN : w.heap.size ≤ (wr.drewN nq).heap.size := hbs
            have hy1N : (wr.drewN nq).cell? ⟨b2, o2 + y * 2, none⟩ = some (.string q) := hy1
            have hy2N : (wr.drewN nq).cell? ⟨b2, o2 + y * 2 + 1, none⟩ = some (.string u) := hy2
            try clear hf'
            try clear hg'
            clear Hown hB hbs hy1 hy2
            generalize wr.drewN nq = wr at HownN hBN hbsN hy1N hy2N ⊢
            have Hown := HownN
            clear HownN
            have hB := hBN
            clear hBN
            have hbs := hbsN
            clear hbsN
            have hy1 := hy1N
            clear hy1N
            have hy2 := hy2N
            clear hy2N
            go_wp2_with fail
            go_quiet (fail)
            have HownN := Lib.hid (strs_below Hown.out (below_drewN (Below.refl _ wr) nq))
            have hBN := below_drewN hB nq
            have hbsN : w.heap.size ≤ (wr.drewN nq).heap.size := hbs
            have hy1N : (wr.drewN nq).cell? ⟨b2, o2 + y * 2, none⟩ = some (.string q) := hy1
            have hy2N : (wr.drewN nq).cell? ⟨b2, o2 + y * 2 + 1, none⟩ = some (.string u) := hy2
            try clear hf'
            try clear hg'
            clear Hown hB hbs hy1 hy2
            generalize wr.drewN nq = wr at HownN hBN hbsN hy1N hy2N ⊢
            have Hown := HownN
            clear HownN
            have hB := hBN
            clear hBN
            have hbs := hbsN
            clear hbsN
            have hy1 := hy1N
            clear hy1N
            have hy2 := hy2N
            clear hy2N
            go_wp2_with (at_builtin; refine wpList_append_own _ rfl _ _ 28 rfl w.heap.size 9 i0 _ 1 16 underStrs hi hz0 hz1 hz2 rfl (by decide) _ _ _ rfl (World.ownsRow.alloc Hown.out _) ⟨wr.heap.size, 0, none⟩ 1 1 [.string q] rfl rfl (cell_one_new _ _ _) (by simp [Value.oneCell']) (by simp only [maxLen]; omega) (by omega) (by simp; omega) ?_; intro v2 w2 hown2 hgrow _)
            exact ⟨srel_next hx hy (by omega) Hss.out hssl Hway.out (by simp) (by go_num) (by go_num) (OwnsS.grew hown2) ((hB.alloc hbs _).grown hgrow (by simp; omega) (strs_at Hown.out)), by simp [intOf]; omega⟩
          · obtain rfl : x = fs.length := by omega
            obtain rfl : y = gs.length := by omega
            go_wp2_with fail
            go_ret
            refine ⟨_, rfl, ?_, hB⟩
            rw [HR.out, Hss.out, allP_end]
            simpa [chgs] using Hown.out
end Go.Proofs.Ytollcckdfehdeaa
