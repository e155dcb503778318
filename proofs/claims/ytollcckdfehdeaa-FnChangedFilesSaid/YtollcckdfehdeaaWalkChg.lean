/-
  FnChangedFiles, walked.
-/
import Derived.Test.YtollcckdfehdeaaBeT
import Derived.Test.YtollcckdfehdeaaChgQ
import Derived.Test.YtollcckdfehdeaaDrawC
import Derived.Test.YtollcckdfehdeaaDrawP
import Derived.Test.YtollcckdfehdeaaChgS
namespace Go.Proofs.Ytollcckdfehdeaa
set_option linter.unusedVariables false
set_option linter.unusedSimpArgs false
open Go.RowKit

theorem FilesAt.nextD {w w' : World} {a : Option Addr} {n : Nat} {fs : List Fl} (h : FilesAt w w.heap.size a n fs) (hB : Below w.heap.size w w') : FilesAt w' w'.heap.size a n fs := (h.below hB).more hB.size
theorem SvAt.nextD {w w' : World} {a : Option Addr} {n : Nat} {ss : List ByteArray} (h : SvAt w w.heap.size a n ss) (hB : Below w.heap.size w w') : SvAt w' w'.heap.size a n ss := (h.below hB).more hB.size
theorem own_slok {w : World} {B n c : Nat} {a : Option Addr} {fs : List Fl} (h : OwnsF w B (.slice a n c) fs) : SlOk a n c := by
  unfold OwnsF World.ownsRow at h
  obtain ⟨hl, h | ⟨g, cap, cur, e, hb, hg, h1, h2, h3⟩⟩ := h
  · obtain ⟨e, h0⟩ := h; cases e; exact .inl ⟨rfl, rfl, rfl⟩
  · cases e
    refine .inr ⟨?_, _, _, rfl⟩
    omega
def StrsI (xs : List ByteArray) (w : World) (e : Ending) (w' : World) : Prop := ∃ a c, e = .returned (.slice a xs.length c) ∧ SvAt w' w'.heap.size a xs.length xs ∧ Below w.heap.size w w'
theorem StrsR.openI {xs ys : List ByteArray} {w w' : World} {e : Ending} (h : StrsR xs w e w') (he : xs = ys) : StrsI ys w e w' := by
  subst he
  obtain ⟨v, rfl, ho, hb⟩ := h
  obtain ⟨a, c, rfl, hs⟩ := ho.form
  exact ⟨a, c, rfl, hs, hb⟩
theorem chgR_le (fs gs : List Fl) : (chgR fs gs).length ≤ 24 := by
  by_cases h : validB fs = true ∧ validB gs = true
  · exact chgR_length h.1 h.2
  · unfold chgR; rw [if_neg h]; simp
/-- is this string there -/
def hasS (xs : List ByteArray) (x : ByteArray) : Bool := xs.any fun s => decide (s = x)
theorem hasS_iff {xs : List ByteArray} {x : ByteArray} : hasS xs x = true ↔ x ∈ xs := by simp [hasS, List.any_eq_true]
theorem hasS_not {xs : List ByteArray} {x : ByteArray} (h : x ∉ xs) : hasS xs x = false := Bool.eq_false_iff.2 fun e => h (hasS_iff.1 e)
theorem hasS_succ {xs : List ByteArray} {k : Nat} {s x : ByteArray} (h : xs[k]? = some s) : hasS (xs.take (k + 1)) x = (hasS (xs.take k) x || decide (s = x)) := by
  have : xs.take (k + 1) = xs.take k ++ [s] := by rw [List.take_add_one, h]; rfl
  unfold hasS
  rw [this, List.any_append]; simp

set_option maxRecDepth 100000 in
set_option maxHeartbeats 8000000 in
theorem walkFnChangedFiles (a : Option Addr) (len cap : Nat) (zs : List Int) (b : Option Addr) (len' cap' : Nat) (zs' : List Int) (w : World) (h : IsRow .u8 w a len cap zs) (h' : IsRow .u8 w b len' cap' zs') :
    Calls Try.prog 3 #[.slice a len cap, .slice b len' cap'] w fun e w' => e = .returned (.bool true) ∧ Below w.heap.size w w' := by
  obtain ⟨hb, hn, hc⟩ := row_bytes h
  obtain ⟨hb2, hn2, hc2⟩ := row_bytes h'
  have hc' := Lib.hid hc
  have hc2' := Lib.hid hc2
  unfold maxLen at hc hc2
  by_cases hlong : 1048576 < len
  · go_enter Try.func3, Try.ntmps3
    go_wp2_with fail
    go_ret
    exact ⟨rfl, Below.refl _ _⟩
  by_cases hlong2 : 1048576 < len'
  · go_enter Try.func3, Try.ntmps3
    go_wp2_with fail
    go_ret
    exact ⟨rfl, Below.refl _ _⟩
  go_enter Try.func3, Try.ntmps3
  have B0 := Below.refl w.heap.size w
  go_wp2_with fail
  refine (drawChg_any a len cap w hb hn (by simp only [maxLen]; omega)).mono ?_
  rintro e w1 ⟨a1, c1, fs, b1, d1, gs, rfl, ho1, ho2, hs1, hs2, hl1, hl2, hB1⟩
  have B1 := B0.trans (hB1.mono B0.size)
  have hf := ho1.files.2
  have hg := ho2.files.2
  have Hsa := Lib.hid (own_slok ho1)
  have Hsb := Lib.hid (own_slok ho2)
  have hby2 := hb2.under hB1
  clear ho1 ho2
  have Hfit := Lib.hid (hs1.fits (by omega))
  have Hfit2 := Lib.hid (hs2.fits (by omega))
  have Hl := Lib.hid (show fs.length ≤ maxLen by simp only [maxLen]; omega)
  have Hm := Lib.hid (show gs.length ≤ maxLen by simp only [maxLen]; omega)
  go_wp2_with fail
  refine (drawFind_any b len' cap' w1 hby2 hn2 (by simp only [maxLen]; omega)).mono ?_
  rintro e w2 ⟨a2, c2, hs, x, rfl, _, _, _, _, hB2⟩
  have hf := hf.nextD hB2
  have hg := hg.nextD hB2
  have B2 := B1.trans (hB2.mono B1.size)
  clear hby2 hb hb2
  obtain ⟨xs, HX⟩ : ∃ xs, Hid (chgR fs gs = xs) := ⟨_, rfl⟩
  have hxl : xs.length ≤ 24 := by rw [← HX.out]; exact chgR_le fs gs
  have HXm : Hid (xs.length ≤ maxLen) := Lib.hid (by simp only [maxLen]; omega)
  go_wp2_with fail
  refine ((chg_any a1 b1 c1 d1 fs gs _ Hsa.out Hsb.out hf hg Hfit.out Hfit2.out Hl.out Hm.out).mono fun e w' h => h.openI HX.out).mono ?_
  rintro e w3 ⟨a3, c3, rfl, hv, hB3⟩
  have hf := hf.nextD hB3
  have hg := hg.nextD hB3
  have B3 := B2.trans (hB3.mono B2.size)
  go_wp2_with fail
  refine ((schg_any a1 b1 c1 d1 fs gs _ hf hg Hfit.out Hfit2.out Hl.out Hm.out).mono fun e w' h => h.openI HX.out).mono ?_
  rintro e w4 ⟨a4, a4c, rfl, a4v, hB4⟩
  have hf := hf.nextD hB4
  have hg := hg.nextD hB4
  have hv := hv.nextD hB4
  have B4 := B3.trans (hB4.mono B3.size)
  go_wp2_with fail
  refine (beT_yes a3 a4 _ _ _ xs _ hv a4v HXm.out).mono ?_
  rintro e w5 ⟨rfl, hB5⟩
  have hf := hf.nextD hB5
  have hg := hg.nextD hB5
  have hv := hv.nextD hB5
  have a4v := a4v.nextD hB5
  have B5 := B4.trans (hB5.mono B4.size)
  go_wp2_with fail
  refine (validI_any a1 _ c1 fs _ hf Hfit.out Hl.out).mono ?_
  rintro e w6 ⟨rfl, hB6⟩
  have hf := hf.nextD hB6
  have hg := hg.nextD hB6
  have hv := hv.nextD hB6
  have a4v := a4v.nextD hB6
  have B6 := B5.trans (hB6.mono B5.size)
  rcases Bool.eq_false_or_eq_true (validB fs) with hv1 | hv1
  case inr =>
    rw [hv1]
    go_wp2_with fail
    refine ((schg_any a1 b1 c1 d1 fs gs _ hf hg Hfit.out Hfit2.out Hl.out Hm.out).mono fun e w' h => h.openI HX.out).mono ?_
    rintro e w7 ⟨a9, a9c, rfl, a9v, hB7⟩
    have hf := hf.nextD hB7
    have hg := hg.nextD hB7
    have hv := hv.nextD hB7
    have a4v := a4v.nextD hB7
    have B7 := B6.trans (hB7.mono B6.size)
    go_wp2_with fail
    refine (beT_yes a3 a9 _ _ _ xs _ hv a9v HXm.out).mono ?_
    rintro e w8 ⟨rfl, hB8⟩
    have hf := hf.nextD hB8
    have hg := hg.nextD hB8
    have hv := hv.nextD hB8
    have a4v := a4v.nextD hB8
    have a9v := a9v.nextD hB8
    have B8 := B7.trans (hB8.mono B7.size)
    go_wp2_with fail
    go_ret
    exact ⟨rfl, B8⟩
  case inl =>
  rw [hv1]
  go_wp2_with fail
  refine (validI_any b1 _ d1 gs _ hg Hfit2.out Hm.out).mono ?_
  rintro e w7 ⟨rfl, hB7⟩
  have hf := hf.nextD hB7
  have hg := hg.nextD hB7
  have hv := hv.nextD hB7
  have a4v := a4v.nextD hB7
  have B7 := B6.trans (hB7.mono B6.size)
  rcases Bool.eq_false_or_eq_true (validB gs) with hv2 | hv2
  case inr =>
    rw [hv2]
    go_wp2_with fail
    refine ((schg_any a1 b1 c1 d1 fs gs _ hf hg Hfit.out Hfit2.out Hl.out Hm.out).mono fun e w' h => h.openI HX.out).mono ?_
    rintro e w8 ⟨a9, a9c, rfl, a9v, hB8⟩
    have hf := hf.nextD hB8
    have hg := hg.nextD hB8
    have hv := hv.nextD hB8
    have a4v := a4v.nextD hB8
    have B8 := B7.trans (hB8.mono B7.size)
    go_wp2_with fail
    refine (beT_yes a3 a9 _ _ _ xs _ hv a9v HXm.out).mono ?_
    rintro e w9 ⟨rfl, hB9⟩
    have hf := hf.nextD hB9
    have hg := hg.nextD hB9
    have hv := hv.nextD hB9
    have a4v := a4v.nextD hB9
    have a9v := a9v.nextD hB9
    have B9 := B8.trans (hB9.mono B8.size)
    go_wp2_with fail
    go_ret
    exact ⟨rfl, B9⟩
  case inl =>
  rw [hv2]
  have Hmem : Hid (x ∈ xs ↔ findF fs x ≠ findF gs x) := Lib.hid (by rw [← HX.out]; exact mem_chgR hv1 hv2 x)
  have Hnil : Hid (xs = [] ↔ fs = gs) := Lib.hid (by rw [← HX.out]; exact chgR_nil hv1 hv2)
  have HX2 : Hid (chgR gs fs = xs) := Lib.hid (by rw [chgR_flip]; exact HX.out)
  clear hv1 hv2
  have hB7r := Below.refl w7.heap.size w7
  go_wp2_with fail
  go_loopw [10, 11] (fun o i wr => ∃ k : Nat, k ≤ xs.length ∧ i = .int .i64 k ∧ o = .bool (hasS (xs.take k) x) ∧ Below w7.heap.size w7 wr) (fun _ i _ => xs.length - (intOf i).toNat)
  case atStart => exact ⟨0, Nat.zero_le _, rfl, rfl, hB7r⟩
  case round =>
    obtain ⟨k, hk, rfl, rfl, hBr⟩ := hrel
    have hf := hf.nextD hBr
    have hg := hg.nextD hBr
    have hv := hv.nextD hBr
    have a4v := a4v.nextD hBr
    have Br := B7.trans (hBr.mono B7.size)
    by_cases hlt : k < xs.length
    · obtain ⟨b5, o5, s5, rfl, hb5, hs5, hc5⟩ := hv.get hlt
      have Hst := Lib.hid (hasS_succ (x := x) hs5)
      clear hs5
      have hk0 : (0 : Int) ≤ (k : Int) := by omega
      have hk3 : (k : Int) < (xs.length : Int) := by omega
      rcases Bool.eq_false_or_eq_true (hasS (xs.take k) x) with hd | hd
      · rw [hd] at Hst ⊢
        go_wp2_with fail
        exact ⟨⟨k + 1, by omega, by go_num, by rw [Hst.out]; rfl, hBr⟩, by simp [intOf]; omega⟩
      · rw [hd] at Hst ⊢
        have hq := sEq s5 x
        go_wp2_with fail
        exact ⟨⟨k + 1, by omega, by go_num, by rw [Hst.out]; rfl, hBr⟩, by simp [intOf]; omega⟩
    · obtain rfl : k = xs.length := by omega
      rw [List.take_length]
      generalize hS : findF fs x = sp at *
      generalize hT : findF gs x = tq at *
      obtain ⟨s, p⟩ := sp
      obtain ⟨t, q⟩ := tq
      have HS := Lib.hid hS
      have HT := Lib.hid hT
      clear hS hT
      go_wp2_with fail
      refine (findI_any a1 _ c1 fs x _ hf Hl.out).mono ?_
      rintro e w8 ⟨rfl, hB8⟩
      have hf := hf.nextD hB8
      have hg := hg.nextD hB8
      have hv := hv.nextD hB8
      have a4v := a4v.nextD hB8
      have B8 := Br.trans (hB8.mono Br.size)
      rw [HS.out]
      go_wp2_with fail
      refine (findI_any b1 _ d1 gs x _ hg Hm.out).mono ?_
      rintro e w9 ⟨rfl, hB9⟩
      have hf := hf.nextD hB9
      have hg := hg.nextD hB9
      have hv := hv.nextD hB9
      have a4v := a4v.nextD hB9
      have B9 := B8.trans (hB9.mono B8.size)
      rw [HT.out]
      by_cases hpq : p = q
      · subst hpq
        by_cases hst : s = t
        · subst hst
          have hd : hasS xs x = false := hasS_not (fun h => Hmem.out.1 h rfl)
          rw [hd]
          have hq := sEq s s
          cases p
          · go_wp2_with fail
            refine ((chg_any b1 a1 d1 c1 gs fs _ Hsb.out Hsa.out hg hf Hfit2.out Hfit.out Hm.out Hl.out).mono fun e w' h => h.openI HX2.out).mono ?_
            rintro e w10 ⟨a7, c7, rfl, hv7, hB10⟩
            have hf := hf.nextD hB10
            have hg := hg.nextD hB10
            have hv := hv.nextD hB10
            have a4v := a4v.nextD hB10
            have B10 := B9.trans (hB10.mono B9.size)
            go_wp2_with fail
            refine (beT_yes a7 a3 _ _ _ xs _ hv7 hv HXm.out).mono ?_
            rintro e w11 ⟨rfl, hB11⟩
            have hf := hf.nextD hB11
            have hg := hg.nextD hB11
            have hv := hv.nextD hB11
            have a4v := a4v.nextD hB11
            have hv7 := hv7.nextD hB11
            have B11 := B10.trans (hB11.mono B10.size)
            go_wp2_with fail
            refine (sameI_any a1 b1 _ c1 _ d1 fs gs _ hf hg Hl.out Hm.out).mono ?_
            rintro e w12 ⟨rfl, hB12⟩
            have hf := hf.nextD hB12
            have hg := hg.nextD hB12
            have hv := hv.nextD hB12
            have a4v := a4v.nextD hB12
            have hv7 := hv7.nextD hB12
            have B12 := B11.trans (hB12.mono B11.size)
            have hfin : ((xs.length : Int) == 0) = decide (fs = gs) := by
              by_cases he : fs = gs
              · have := Hnil.out.2 he; subst this; simp [he]
              · have : xs ≠ [] := fun h => he (Hnil.out.1 h)
                have : xs.length ≠ 0 := fun h => this (List.eq_nil_of_length_eq_zero h)
                rw [decide_eq_false he, beq_eq_false_iff_ne]; omega
            rw [← hfin]
            generalize ((xs.length : Int) == 0) = z
            cases z <;> (go_wp2_with fail; go_ret; exact ⟨rfl, B12⟩)
          · go_wp2_with fail
            refine ((chg_any b1 a1 d1 c1 gs fs _ Hsb.out Hsa.out hg hf Hfit2.out Hfit.out Hm.out Hl.out).mono fun e w' h => h.openI HX2.out).mono ?_
            rintro e w10 ⟨a7, c7, rfl, hv7, hB10⟩
            have hf := hf.nextD hB10
            have hg := hg.nextD hB10
            have hv := hv.nextD hB10
            have a4v := a4v.nextD hB10
            have B10 := B9.trans (hB10.mono B9.size)
            go_wp2_with fail
            refine (beT_yes a7 a3 _ _ _ xs _ hv7 hv HXm.out).mono ?_
            rintro e w11 ⟨rfl, hB11⟩
            have hf := hf.nextD hB11
            have hg := hg.nextD hB11
            have hv := hv.nextD hB11
            have a4v := a4v.nextD hB11
            have hv7 := hv7.nextD hB11
            have B11 := B10.trans (hB11.mono B10.size)
            go_wp2_with fail
            refine (sameI_any a1 b1 _ c1 _ d1 fs gs _ hf hg Hl.out Hm.out).mono ?_
            rintro e w12 ⟨rfl, hB12⟩
            have hf := hf.nextD hB12
            have hg := hg.nextD hB12
            have hv := hv.nextD hB12
            have a4v := a4v.nextD hB12
            have hv7 := hv7.nextD hB12
            have B12 := B11.trans (hB12.mono B11.size)
            have hfin : ((xs.length : Int) == 0) = decide (fs = gs) := by
              by_cases he : fs = gs
              · have := Hnil.out.2 he; subst this; simp [he]
              · have : xs ≠ [] := fun h => he (Hnil.out.1 h)
                have : xs.length ≠ 0 := fun h => this (List.eq_nil_of_length_eq_zero h)
                rw [decide_eq_false he, beq_eq_false_iff_ne]; omega
            rw [← hfin]
            generalize ((xs.length : Int) == 0) = z
            cases z <;> (go_wp2_with fail; go_ret; exact ⟨rfl, B12⟩)
        · have hd : hasS xs x = true := hasS_iff.2 (Hmem.out.2 (fun e => hst (congrArg Prod.fst e)))
          rw [hd]
          have hq : (s.toList == t.toList) = false := by rw [sEq]; simpa using hst
          cases p
          · go_wp2_with fail
            refine ((chg_any b1 a1 d1 c1 gs fs _ Hsb.out Hsa.out hg hf Hfit2.out Hfit.out Hm.out Hl.out).mono fun e w' h => h.openI HX2.out).mono ?_
            rintro e w10 ⟨a7, c7, rfl, hv7, hB10⟩
            have hf := hf.nextD hB10
            have hg := hg.nextD hB10
            have hv := hv.nextD hB10
            have a4v := a4v.nextD hB10
            have B10 := B9.trans (hB10.mono B9.size)
            go_wp2_with fail
            refine (beT_yes a7 a3 _ _ _ xs _ hv7 hv HXm.out).mono ?_
            rintro e w11 ⟨rfl, hB11⟩
            have hf := hf.nextD hB11
            have hg := hg.nextD hB11
            have hv := hv.nextD hB11
            have a4v := a4v.nextD hB11
            have hv7 := hv7.nextD hB11
            have B11 := B10.trans (hB11.mono B10.size)
            go_wp2_with fail
            refine (sameI_any a1 b1 _ c1 _ d1 fs gs _ hf hg Hl.out Hm.out).mono ?_
            rintro e w12 ⟨rfl, hB12⟩
            have hf := hf.nextD hB12
            have hg := hg.nextD hB12
            have hv := hv.nextD hB12
            have a4v := a4v.nextD hB12
            have hv7 := hv7.nextD hB12
            have B12 := B11.trans (hB12.mono B11.size)
            have hfin : ((xs.length : Int) == 0) = decide (fs = gs) := by
              by_cases he : fs = gs
              · have := Hnil.out.2 he; subst this; simp [he]
              · have : xs ≠ [] := fun h => he (Hnil.out.1 h)
                have : xs.length ≠ 0 := fun h => this (List.eq_nil_of_length_eq_zero h)
                rw [decide_eq_false he, beq_eq_false_iff_ne]; omega
            rw [← hfin]
            generalize ((xs.length : Int) == 0) = z
            cases z <;> (go_wp2_with fail; go_ret; exact ⟨rfl, B12⟩)
          · go_wp2_with fail
            refine ((chg_any b1 a1 d1 c1 gs fs _ Hsb.out Hsa.out hg hf Hfit2.out Hfit.out Hm.out Hl.out).mono fun e w' h => h.openI HX2.out).mono ?_
            rintro e w10 ⟨a7, c7, rfl, hv7, hB10⟩
            have hf := hf.nextD hB10
            have hg := hg.nextD hB10
            have hv := hv.nextD hB10
            have a4v := a4v.nextD hB10
            have B10 := B9.trans (hB10.mono B9.size)
            go_wp2_with fail
            refine (beT_yes a7 a3 _ _ _ xs _ hv7 hv HXm.out).mono ?_
            rintro e w11 ⟨rfl, hB11⟩
            have hf := hf.nextD hB11
            have hg := hg.nextD hB11
            have hv := hv.nextD hB11
            have a4v := a4v.nextD hB11
            have hv7 := hv7.nextD hB11
            have B11 := B10.trans (hB11.mono B10.size)
            go_wp2_with fail
            refine (sameI_any a1 b1 _ c1 _ d1 fs gs _ hf hg Hl.out Hm.out).mono ?_
            rintro e w12 ⟨rfl, hB12⟩
            have hf := hf.nextD hB12
            have hg := hg.nextD hB12
            have hv := hv.nextD hB12
            have a4v := a4v.nextD hB12
            have hv7 := hv7.nextD hB12
            have B12 := B11.trans (hB12.mono B11.size)
            have hfin : ((xs.length : Int) == 0) = decide (fs = gs) := by
              by_cases he : fs = gs
              · have := Hnil.out.2 he; subst this; simp [he]
              · have : xs ≠ [] := fun h => he (Hnil.out.1 h)
                have : xs.length ≠ 0 := fun h => this (List.eq_nil_of_length_eq_zero h)
                rw [decide_eq_false he, beq_eq_false_iff_ne]; omega
            rw [← hfin]
            generalize ((xs.length : Int) == 0) = z
            cases z <;> (go_wp2_with fail; go_ret; exact ⟨rfl, B12⟩)
      · have hd : hasS xs x = true := hasS_iff.2 (Hmem.out.2 (fun e => hpq (congrArg Prod.snd e)))
        rw [hd]
        cases p <;> cases q
        · exact absurd rfl hpq
        · go_wp2_with fail
          refine ((chg_any b1 a1 d1 c1 gs fs _ Hsb.out Hsa.out hg hf Hfit2.out Hfit.out Hm.out Hl.out).mono fun e w' h => h.openI HX2.out).mono ?_
          rintro e w10 ⟨a7, c7, rfl, hv7, hB10⟩
          have hf := hf.nextD hB10
          have hg := hg.nextD hB10
          have hv := hv.nextD hB10
          have a4v := a4v.nextD hB10
          have B10 := B9.trans (hB10.mono B9.size)
          go_wp2_with fail
          refine (beT_yes a7 a3 _ _ _ xs _ hv7 hv HXm.out).mono ?_
          rintro e w11 ⟨rfl, hB11⟩
          have hf := hf.nextD hB11
          have hg := hg.nextD hB11
          have hv := hv.nextD hB11
          have a4v := a4v.nextD hB11
          have hv7 := hv7.nextD hB11
          have B11 := B10.trans (hB11.mono B10.size)
          go_wp2_with fail
          refine (sameI_any a1 b1 _ c1 _ d1 fs gs _ hf hg Hl.out Hm.out).mono ?_
          rintro e w12 ⟨rfl, hB12⟩
          have hf := hf.nextD hB12
          have hg := hg.nextD hB12
          have hv := hv.nextD hB12
          have a4v := a4v.nextD hB12
          have hv7 := hv7.nextD hB12
          have B12 := B11.trans (hB12.mono B11.size)
          have hfin : ((xs.length : Int) == 0) = decide (fs = gs) := by
            by_cases he : fs = gs
            · have := Hnil.out.2 he; subst this; simp [he]
            · have : xs ≠ [] := fun h => he (Hnil.out.1 h)
              have : xs.length ≠ 0 := fun h => this (List.eq_nil_of_length_eq_zero h)
              rw [decide_eq_false he, beq_eq_false_iff_ne]; omega
          rw [← hfin]
          generalize ((xs.length : Int) == 0) = z
          cases z <;> (go_wp2_with fail; go_ret; exact ⟨rfl, B12⟩)
        · go_wp2_with fail
          refine ((chg_any b1 a1 d1 c1 gs fs _ Hsb.out Hsa.out hg hf Hfit2.out Hfit.out Hm.out Hl.out).mono fun e w' h => h.openI HX2.out).mono ?_
          rintro e w10 ⟨a7, c7, rfl, hv7, hB10⟩
          have hf := hf.nextD hB10
          have hg := hg.nextD hB10
          have hv := hv.nextD hB10
          have a4v := a4v.nextD hB10
          have B10 := B9.trans (hB10.mono B9.size)
          go_wp2_with fail
          refine (beT_yes a7 a3 _ _ _ xs _ hv7 hv HXm.out).mono ?_
          rintro e w11 ⟨rfl, hB11⟩
          have hf := hf.nextD hB11
          have hg := hg.nextD hB11
          have hv := hv.nextD hB11
          have a4v := a4v.nextD hB11
          have hv7 := hv7.nextD hB11
          have B11 := B10.trans (hB11.mono B10.size)
          go_wp2_with fail
          refine (sameI_any a1 b1 _ c1 _ d1 fs gs _ hf hg Hl.out Hm.out).mono ?_
          rintro e w12 ⟨rfl, hB12⟩
          have hf := hf.nextD hB12
          have hg := hg.nextD hB12
          have hv := hv.nextD hB12
          have a4v := a4v.nextD hB12
          have hv7 := hv7.nextD hB12
          have B12 := B11.trans (hB12.mono B11.size)
          have hfin : ((xs.length : Int) == 0) = decide (fs = gs) := by
            by_cases he : fs = gs
            · have := Hnil.out.2 he; subst this; simp [he]
            · have : xs ≠ [] := fun h => he (Hnil.out.1 h)
              have : xs.length ≠ 0 := fun h => this (List.eq_nil_of_length_eq_zero h)
              rw [decide_eq_false he, beq_eq_false_iff_ne]; omega
          rw [← hfin]
          generalize ((xs.length : Int) == 0) = z
          cases z <;> (go_wp2_with fail; go_ret; exact ⟨rfl, B12⟩)
        · exact absurd rfl hpq
end Go.Proofs.Ytollcckdfehdeaa
