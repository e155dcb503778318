/-
  The exact laws of PutFile and RemoveFile, walked.
-/
import Derived.Test.YtcjnlmnjjkojeaaPutI
import Derived.Test.YtcjnlmnjjkojeaaWalkExactDel
import Derived.Deep.RegionHeld3
namespace Go.Proofs.Ytcjnlmnjjkojeaa
set_option linter.unusedVariables false
open Go.RowKit

set_option maxRecDepth 100000 in
set_option maxHeartbeats 4000000 in
theorem walkFnExactPutFile (a : Option Addr) (n c : Nat) (fs : List Fl) (p t : ByteArray) (w : World) (h : InF w a n fs) (hp : p.size ≤ maxLen) (ht : t.size ≤ maxLen) :
    Calls Try.prog 7 #[.slice a n c, .agg #[.string p, .string t]] w fun e w' => e = .returned (.bool true) ∧ Below w.heap.size w w' := by
  obtain ⟨hf, hs, hn⟩ := h
  obtain rfl : fs.length = n := hf.1
  have Hn := Lib.hid hn
  clear hn
  have Hp := Lib.hid hp
  have Ht := Lib.hid ht
  clear hp ht
  by_cases hsz : (fs.length + tot fs : Int) ≤ 1048576
  case neg =>
    have Hsz := Lib.hid (szAll_neg hsz)
    clear hsz
    go_enter Try.func7, Try.ntmps7
    go_wp2_with fail
    refine (szFileS_any a _ c fs _ _ ((hf.alloc (Nat.le_refl _) _).more (by simp)) hs Hn.out (by omega) (by omega)).mono ?_
    rintro e w1 ⟨rfl, hB1⟩
    rw [Hsz.out]
    go_wp2_with fail
    go_ret
    exact ⟨rfl, ((Below.refl _ _).alloc (Nat.le_refl _) _).trans (hB1.mono (by simp))⟩
  case pos =>
  have Hsz := Lib.hid (szAll_pos hsz)
  have hn2 : fs.length ≤ 1048576 := by omega
  have hz0 : 0 ≤ szAll 1048576 fs := by rw [szAll_pos hsz]; omega
  have hz9 : szAll 1048576 fs ≤ 1048576 := by rw [szAll_pos hsz]; omega
  clear hsz
  by_cases hsz2 : (p.size + t.size : Int) ≤ szAll 1048576 fs
  case neg =>
    go_enter Try.func7, Try.ntmps7
    go_wp2_with fail
    refine (szFileS_any a _ c fs _ _ ((hf.alloc (Nat.le_refl _) _).more (by simp)) hs Hn.out (by omega) (by omega)).mono ?_
    rintro e w1 ⟨rfl, hB1⟩
    have hbx := Lib.hid ((BoxL.new w p t).next hB1)
    have c0 := hbx.out.c0
    have c1 := hbx.out.c1
    go_wp2_with fail
    refine (szFile_no p t _ _ Hp.out Ht.out hz0 hz9 (by omega)).mono ?_
    rintro e w2 ⟨rfl, hB2⟩
    go_wp2_with fail
    go_ret
    have B1 : Below w.heap.size w w1 := ((Below.refl _ _).alloc (Nat.le_refl _) _).trans (hB1.mono (by simp))
    exact ⟨rfl, B1.trans (hB2.mono B1.size)⟩
  case pos =>
  obtain ⟨xs, xb, HX⟩ : ∃ xs xb, Hid (putR (p, t) fs = (xs, xb)) := ⟨_, _, rfl⟩
  have hxl := putR_len HX.out
  have hxm : xs.length ≤ maxLen := by simp only [maxLen]; omega
  have hxb : (xb != xb) = false := by simp
  have HXm := Lib.hid hxm
  clear hxm
  have hfl : ∀ (_ : List Fl), True := fun _ => trivial
  clear hfl
  go_enter Try.func7, Try.ntmps7
  have hf_le := Nat.le_refl w.heap.size
  have B0 : Below w.heap.size w (w.alloc (.cells #[.string p, .string t] 40)) := (Below.refl _ _).alloc (Nat.le_refl _) _
  have hbx := Lib.hid (BoxL.new w p t)
  have hf := hf.alloc (Nat.le_refl _) (.cells #[.string p, .string t] 40)
  have hf_le : w.heap.size ≤ (w.alloc (.cells #[.string p, .string t] 40)).heap.size := by simp
  have c0 := hbx.out.c0
  have c1 := hbx.out.c1
  go_wp2_with fail
  refine (szFileS_any a _ c fs _ _ (hf.more hf_le) hs Hn.out (by omega) (by omega)).mono ?_
  rintro e w1 ⟨rfl, hB1⟩
  have hf := hf.belowD hB1 hf_le
  have hf_le := Nat.le_trans hf_le hB1.size
  clear c0 c1
  have hbx := Lib.hid (hbx.out.next hB1)
  have B1 := B0.trans (hB1.mono B0.size)
  have c0 := hbx.out.c0
  have c1 := hbx.out.c1
  go_wp2_with fail
  refine (szFile_yes p t _ _ Hp.out Ht.out hz9 hsz2).mono ?_
  rintro e w2 ⟨rfl, hB2⟩
  have hf := hf.belowD hB2 hf_le
  have hf_le := Nat.le_trans hf_le hB2.size
  clear c0 c1
  have hbx := Lib.hid (hbx.out.next hB2)
  have B2 := B1.trans (hB2.mono B1.size)
  have c0 := hbx.out.c0
  have c1 := hbx.out.c1
  go_wp2_with fail
  have hlt2 := hbx.out.lt
  go_region_held3 (fun w' => w'.cell? ⟨w.heap.size, 0, none⟩ = some (.string p) ∧ w'.cell? ⟨w.heap.size, 1, none⟩ = some (.string t)) (first | go_keep | exact ⟨hk50, hk51⟩ | exact ⟨hk40, hk41⟩ | exact ⟨hk30, hk31⟩) ((first | (go_at_call 21; refine (toFileS_any a _ c fs _ (FilesAt.drew (hf.more hf_le)) hn2).mono ?_; rintro e w3 ⟨g3, rfl, hg3, hO3, hB3⟩; have hk30 := (hB3.cell (p := ⟨w.heap.size, 0, none⟩) hlt2).trans c0; have hk31 := (hB3.cell (p := ⟨w.heap.size, 1, none⟩) hlt2).trans c1; have hlt3 := Nat.lt_of_lt_of_le hlt2 hB3.size) | (go_at_call 22; refine (toFile_any p t _).mono ?_; rintro e w4 ⟨rfl, hB4⟩; have hk40 := (hB4.cell (p := ⟨w.heap.size, 0, none⟩) hlt3).trans hk30; have hk41 := (hB4.cell (p := ⟨w.heap.size, 1, none⟩) hlt3).trans hk31; have hlt4 := Nat.lt_of_lt_of_le hlt3 hB4.size) | (go_at_call 12; refine ((putS_any _ _ _ fs p t _ (OwnsF.at_ ((hO3.owns hg3 Hn.out).belowD hB4)) hs hn2 Hp.out Ht.out).mono fun _ _ h => h.openO HX.out).mono ?_; rintro e w5 ⟨aw, cw, rfl, hOw, hB5⟩; have hk50 := (hB5.cell (p := ⟨w.heap.size, 0, none⟩) hlt4).trans hk40; have hk51 := (hB5.cell (p := ⟨w.heap.size, 1, none⟩) hlt4).trans hk41)))
  have hB3 := undrew hB3
  have hf := hf.belowD hB3 hf_le
  have hf_le := Nat.le_trans hf_le hB3.size
  clear c0 c1
  have hbx := Lib.hid (hbx.out.next hB3)
  have B3 := B2.trans (hB3.mono B2.size)
  have c0 := hbx.out.c0
  have c1 := hbx.out.c1
  clear hk30
  clear hk31
  have hf := hf.belowD hB4 hf_le
  have hf_le := Nat.le_trans hf_le hB4.size
  clear c0 c1
  have hbx := Lib.hid (hbx.out.next hB4)
  have B4 := B3.trans (hB4.mono B3.size)
  have c0 := hbx.out.c0
  have c1 := hbx.out.c1
  clear hk40
  clear hk41
  have hf := hf.belowD hB5 hf_le
  have hf_le := Nat.le_trans hf_le hB5.size
  clear c0 c1
  have hbx := Lib.hid (hbx.out.next hB5)
  have B5 := B4.trans (hB5.mono B4.size)
  have c0 := hbx.out.c0
  have c1 := hbx.out.c1
  clear hk50
  clear hk51
  have hlt9 := hbx.out.lt
  have hw := (OwnsF.at_ hOw)
  have hw_le := Nat.le_refl w5.heap.size
  clear hOw
  go_wp2_with fail
  refine (toFileS_any a _ c fs _ (hf.more hf_le) hn2).mono ?_
  rintro e w6 ⟨gx, rfl, hgx, hOx, hB6⟩
  have hf := hf.belowD hB6 hf_le
  have hf_le := Nat.le_trans hf_le hB6.size
  have hw := hw.belowD hB6 hw_le
  have hw_le := Nat.le_trans hw_le hB6.size
  clear c0 c1
  have hbx := Lib.hid (hbx.out.next hB6)
  have B6 := B5.trans (hB6.mono B5.size)
  have c0 := hbx.out.c0
  have c1 := hbx.out.c1
  have hx0 := hOx.owns (B := w5.heap.size) hgx Hn.out
  have hgxl : gx < w6.heap.size := hOx.lt
  go_wp2_with fail
  refine (toFile_any p t _).mono ?_
  rintro e w7 ⟨rfl, hB7⟩
  have hf := hf.belowD hB7 hf_le
  have hf_le := Nat.le_trans hf_le hB7.size
  have hw := hw.belowD hB7 hw_le
  have hw_le := Nat.le_trans hw_le hB7.size
  have hx0 := hx0.belowD hB7
  clear c0 c1
  have hbx := Lib.hid (hbx.out.next hB7)
  have B7 := B6.trans (hB7.mono B6.size)
  have c0 := hbx.out.c0
  have c1 := hbx.out.c1
  have hgxl : gx < w7.heap.size := Nat.lt_of_lt_of_le hgxl hB7.size
  go_wp2_with fail
  refine ((putI_any _ _ _ fs p t _ (OwnsF.at_ hx0) hs Hn.out Hp.out Ht.out).mono fun _ _ h => h.openO HX.out).mono ?_
  rintro e w8 ⟨ag, cg, rfl, hg, hB8⟩
  have hf := hf.belowD hB8 hf_le
  have hf_le := Nat.le_trans hf_le hB8.size
  have hw := hw.belowD hB8 hw_le
  have hw_le := Nat.le_trans hw_le hB8.size
  have hx0 := hx0.belowD hB8
  clear c0 c1
  have hbx := Lib.hid (hbx.out.next hB8)
  have B8 := B7.trans (hB8.mono B7.size)
  have c0 := hbx.out.c0
  have c1 := hbx.out.c1
  go_wp2_with fail
  refine (eqFileS_yes (OwnsF.at_ hg) (hw.more hw_le) HXm.out HXm.out rfl).mono ?_
  rintro e w9 ⟨rfl, hB9⟩
  have hf := hf.belowD hB9 hf_le
  have hf_le := Nat.le_trans hf_le hB9.size
  have hw := hw.belowD hB9 hw_le
  have hw_le := Nat.le_trans hw_le hB9.size
  have hx0 := hx0.belowD hB9
  have hg := hg.belowD hB9
  clear c0 c1
  have hbx := Lib.hid (hbx.out.next hB9)
  have B9 := B8.trans (hB9.mono B8.size)
  have c0 := hbx.out.c0
  have c1 := hbx.out.c1
  go_wp2_with fail
  refine (toFileS_any a _ c fs _ (hf.more hf_le) hn2).mono ?_
  rintro e w10 ⟨gy, rfl, hgy, hOy, hB10⟩
  have hf := hf.belowD hB10 hf_le
  have hf_le := Nat.le_trans hf_le hB10.size
  have hw := hw.belowD hB10 hw_le
  have hw_le := Nat.le_trans hw_le hB10.size
  have hx0 := hx0.belowD hB10
  have hg := hg.belowD hB10
  clear c0 c1
  have hbx := Lib.hid (hbx.out.next hB10)
  have B10 := B9.trans (hB10.mono B9.size)
  have c0 := hbx.out.c0
  have c1 := hbx.out.c1
  go_wp2_with fail
  refine (eqFileS_yes (OwnsF.at_ hx0) (hOy.in_ rfl) Hn.out Hn.out rfl).mono ?_
  rintro e w11 ⟨rfl, hB11⟩
  have hf := hf.belowD hB11 hf_le
  have hf_le := Nat.le_trans hf_le hB11.size
  have hw := hw.belowD hB11 hw_le
  have hw_le := Nat.le_trans hw_le hB11.size
  have hx0 := hx0.belowD hB11
  have hg := hg.belowD hB11
  clear c0 c1
  have hbx := Lib.hid (hbx.out.next hB11)
  have B11 := B10.trans (hB11.mono B10.size)
  have c0 := hbx.out.c0
  have c1 := hbx.out.c1
  clear hOy hgy
  go_wp2_with fail
  refine (markF_any _ w5.heap.size 1 fs _ hx0 hn2 (by omega) (by omega)).mono ?_
  rintro e w12 ⟨rfl, _, hG12⟩
  have hf := hf.grownD hG12 hf_le (Nat.le_trans B5.size hgx)
  have hf_le := Nat.le_trans hf_le hG12.size
  have hw := hw.grownD hG12 hw_le (hgx)
  have hw_le := Nat.le_trans hw_le hG12.size
  have hg := hg.grownD hG12 hgxl
  clear c0 c1
  have hbx := Lib.hid (hbx.out.grown hG12 (show w.heap.size ≠ gx by omega))
  have B12 := B11.grown hG12 B11.size (fun j hj => by cases hj; exact Nat.le_trans B5.size hgx)
  have c0 := hbx.out.c0
  have c1 := hbx.out.c1
  clear hx0 hOx hG12
  go_wp2_with fail
  refine (eqFileS_yes (OwnsF.at_ hg) (hw.more hw_le) HXm.out HXm.out rfl).mono ?_
  rintro e w13 ⟨rfl, hB13⟩
  have hf := hf.belowD hB13 hf_le
  have hf_le := Nat.le_trans hf_le hB13.size
  have hw := hw.belowD hB13 hw_le
  have hw_le := Nat.le_trans hw_le hB13.size
  have hg := hg.belowD hB13
  clear c0 c1
  have hbx := Lib.hid (hbx.out.next hB13)
  have B13 := B12.trans (hB13.mono B12.size)
  have c0 := hbx.out.c0
  have c1 := hbx.out.c1
  go_wp2_with fail
  refine (markO hg (by omega)).mono ?_
  rintro e w14 ⟨rfl, hm, r, hG, hr⟩
  have hf := hf.grownD hG hf_le (Nat.le_trans B7.size hr)
  have hf_le := Nat.le_trans hf_le hG.size
  have hw := hw.grownD hG hw_le (by have := hgxl; omega)
  have hw_le := Nat.le_trans hw_le hG.size
  clear c0 c1
  have hbx := Lib.hid (hbx.out.grown hG (show w.heap.size ≠ r by omega))
  have B14 := B13.grown hG B13.size (fun j hj => by cases hj; exact Nat.le_trans B7.size hr)
  have c0 := hbx.out.c0
  have c1 := hbx.out.c1
  clear hg hG
  go_wp2_with fail
  refine (heldO hm (by omega)).mono ?_
  rintro e w15 ⟨rfl, hB15⟩
  have hf := hf.belowD hB15 hf_le
  have hf_le := Nat.le_trans hf_le hB15.size
  have hw := hw.belowD hB15 hw_le
  have hw_le := Nat.le_trans hw_le hB15.size
  have hm := hm.belowD hB15
  clear c0 c1
  have hbx := Lib.hid (hbx.out.next hB15)
  have B15 := B14.trans (hB15.mono B14.size)
  have c0 := hbx.out.c0
  have c1 := hbx.out.c1
  go_wp2_with fail
  have hlt15 := hbx.out.lt
  go_region_held3 (fun w' => w'.cell? ⟨w.heap.size, 0, none⟩ = some (.string p) ∧ w'.cell? ⟨w.heap.size, 1, none⟩ = some (.string t)) (first | go_keep | exact ⟨hk180, hk181⟩ | exact ⟨hk170, hk171⟩ | exact ⟨hk160, hk161⟩) ((first | (go_at_call 21; refine (toFileS_any a _ c fs _ (FilesAt.drew (hf.more hf_le)) hn2).mono ?_; rintro e w16 ⟨g16, rfl, hg16, hO16, hB16⟩; have hk160 := (hB16.cell (p := ⟨w.heap.size, 0, none⟩) hlt15).trans c0; have hk161 := (hB16.cell (p := ⟨w.heap.size, 1, none⟩) hlt15).trans c1; have hlt16 := Nat.lt_of_lt_of_le hlt15 hB16.size) | (go_at_call 22; refine (toFile_any p t _).mono ?_; rintro e w17 ⟨rfl, hB17⟩; have hk170 := (hB17.cell (p := ⟨w.heap.size, 0, none⟩) hlt16).trans hk160; have hk171 := (hB17.cell (p := ⟨w.heap.size, 1, none⟩) hlt16).trans hk161; have hlt17 := Nat.lt_of_lt_of_le hlt16 hB17.size) | (go_at_call 11; refine ((putI_any _ _ _ fs p t _ (OwnsF.at_ ((hO16.owns hg16 Hn.out).belowD hB17)) hs Hn.out Hp.out Ht.out).mono fun _ _ h => h.openO HX.out).mono ?_; rintro e w18 ⟨ah, ch, rfl, hh, hB18⟩; have hk180 := (hB18.cell (p := ⟨w.heap.size, 0, none⟩) hlt17).trans hk170; have hk181 := (hB18.cell (p := ⟨w.heap.size, 1, none⟩) hlt17).trans hk171)))
  have hB16 := undrew hB16
  have hf := hf.belowD hB16 hf_le
  have hf_le := Nat.le_trans hf_le hB16.size
  have hw := hw.belowD hB16 hw_le
  have hw_le := Nat.le_trans hw_le hB16.size
  have hm := hm.belowD hB16
  clear c0 c1
  have hbx := Lib.hid (hbx.out.next hB16)
  have B16 := B15.trans (hB16.mono B15.size)
  have c0 := hbx.out.c0
  have c1 := hbx.out.c1
  clear hk160
  clear hk161
  have hf := hf.belowD hB17 hf_le
  have hf_le := Nat.le_trans hf_le hB17.size
  have hw := hw.belowD hB17 hw_le
  have hw_le := Nat.le_trans hw_le hB17.size
  have hm := hm.belowD hB17
  clear c0 c1
  have hbx := Lib.hid (hbx.out.next hB17)
  have B17 := B16.trans (hB17.mono B16.size)
  have c0 := hbx.out.c0
  have c1 := hbx.out.c1
  clear hk170
  clear hk171
  have hf := hf.belowD hB18 hf_le
  have hf_le := Nat.le_trans hf_le hB18.size
  have hw := hw.belowD hB18 hw_le
  have hw_le := Nat.le_trans hw_le hB18.size
  have hm := hm.belowD hB18
  clear c0 c1
  have hbx := Lib.hid (hbx.out.next hB18)
  have B18 := B17.trans (hB18.mono B17.size)
  have c0 := hbx.out.c0
  have c1 := hbx.out.c1
  clear hk180
  clear hk181
  go_wp2_with fail
  refine (eqFileS_yes (OwnsF.at_ hh) (hw.more hw_le) HXm.out HXm.out rfl).mono ?_
  rintro e w19 ⟨rfl, hB19⟩
  have hf := hf.belowD hB19 hf_le
  have hf_le := Nat.le_trans hf_le hB19.size
  have hw := hw.belowD hB19 hw_le
  have hw_le := Nat.le_trans hw_le hB19.size
  have hm := hm.belowD hB19
  clear c0 c1
  have hbx := Lib.hid (hbx.out.next hB19)
  have B19 := B18.trans (hB19.mono B18.size)
  have c0 := hbx.out.c0
  have c1 := hbx.out.c1
  go_wp2_with fail
  refine (heldO hm (by omega)).mono ?_
  rintro e w20 ⟨rfl, hB20⟩
  have hf := hf.belowD hB20 hf_le
  have hf_le := Nat.le_trans hf_le hB20.size
  have hw := hw.belowD hB20 hw_le
  have hw_le := Nat.le_trans hw_le hB20.size
  have hm := hm.belowD hB20
  clear c0 c1
  have hbx := Lib.hid (hbx.out.next hB20)
  have B20 := B19.trans (hB20.mono B19.size)
  have c0 := hbx.out.c0
  have c1 := hbx.out.c1
  go_wp2_with fail
  go_ret
  exact ⟨rfl, B20⟩
end Go.Proofs.Ytcjnlmnjjkojeaa
