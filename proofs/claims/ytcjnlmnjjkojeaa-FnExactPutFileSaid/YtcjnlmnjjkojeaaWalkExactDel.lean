/-
  The exact laws of PutFile and RemoveFile, walked.
-/
import Derived.Test.YtcjnlmnjjkojeaaPutI
import Derived.Test.YtcjnlmnjjkojeaaExactTools
import Derived.Deep.RegionHeld3
namespace Go.Proofs.Ytcjnlmnjjkojeaa
set_option linter.unusedVariables false
open Go.RowKit

/-- what a function leaves that hands back a list of its own and a bool -/
def ListO (xs : List Fl) (xb : Bool) (w : World) (e : Ending) (w' : World) : Prop :=
  ∃ a c, e = .returned (.tuple #[.slice a xs.length c, .bool xb]) ∧ OwnsF w' w.heap.size (.slice a xs.length c) xs ∧ Below w.heap.size w w'
theorem putR_len {f : Fl} {fs xs : List Fl} {xb : Bool} (h : putR f fs = (xs, xb)) : xs.length ≤ 12 := by
  unfold putR at h
  split at h
  · rename_i h2; cases h; exact valid_length h2.2
  · cases h; simp
theorem delR_len {x : ByteArray} {fs xs : List Fl} {xb : Bool} (h : delR x fs = (xs, xb)) : xs.length ≤ 12 := by
  unfold delR at h
  split at h
  · rename_i h2; cases h; exact Nat.le_trans (List.length_filter_le _ _) (valid_length h2.1)
  · cases h; simp
theorem undrew {w w' : World} (h : Below w.drew.heap.size w.drew w') : Below w.heap.size w w' := ⟨h.os, h.tape, h.output, h.size, h.block⟩
theorem ListB.openO {r : List Fl × Bool} {xs : List Fl} {xb : Bool} {w : World} {e : Ending} {w' : World} (h : ListB r w e w') (hr : r = (xs, xb)) : ListO xs xb w e w' := by
  subst hr
  obtain ⟨v, rfl, ho, hb⟩ := h
  obtain ⟨a, c, rfl, hf⟩ := ho.form
  exact ⟨a, c, rfl, ho, hb⟩

set_option maxRecDepth 100000 in
set_option maxHeartbeats 4000000 in
theorem walkFnExactRemoveFile (a : Option Addr) (n c : Nat) (fs : List Fl) (x : ByteArray) (w : World) (h : InF w a n fs) (hx : x.size ≤ maxLen) :
    Calls Try.prog 8 #[.slice a n c, .string x] w fun e w' => e = .returned (.bool true) ∧ Below w.heap.size w w' := by
  obtain ⟨hf, hs, hn⟩ := h
  obtain rfl : fs.length = n := hf.1
  have Hn := Lib.hid hn
  clear hn
  have Hx := Lib.hid hx
  unfold maxLen at hx
  by_cases hxs : 1048576 < x.size
  · go_enter Try.func8, Try.ntmps8
    go_wp2_with fail
    go_ret
    exact ⟨rfl, Below.refl _ _⟩
  by_cases hsz : (fs.length + tot fs : Int) ≤ 1048576
  case neg =>
    have Hsz := Lib.hid (szAll_neg hsz)
    clear hsz
    go_enter Try.func8, Try.ntmps8
    go_wp2_with fail
    refine (szFileS_any a _ c fs _ _ hf hs Hn.out (by omega) (by omega)).mono ?_
    rintro e w1 ⟨rfl, hB1⟩
    rw [Hsz.out]
    go_wp2_with fail
    go_ret
    exact ⟨rfl, hB1⟩
  case pos =>
  have Hsz := Lib.hid (szAll_pos hsz)
  have hn2 : fs.length ≤ 1048576 := by omega
  have hz0 : 0 ≤ szAll 1048576 fs := by rw [szAll_pos hsz]; omega
  have hz9 : szAll 1048576 fs ≤ 1048576 := by rw [szAll_pos hsz]; omega
  clear hsz
  obtain ⟨xs, xb, HX⟩ : ∃ xs xb, Hid (delR x fs = (xs, xb)) := ⟨_, _, rfl⟩
  have hxl := delR_len HX.out
  have hxm : xs.length ≤ maxLen := by simp only [maxLen]; omega
  have hxb : (xb != xb) = false := by simp
  have HXm := Lib.hid hxm
  clear hxm
  have hfl : ∀ (_ : List Fl), True := fun _ => trivial
  clear hfl
  go_enter Try.func8, Try.ntmps8
  have hf_le := Nat.le_refl w.heap.size
  have B0 := Below.refl w.heap.size w
  go_wp2_with fail
  refine (szFileS_any a _ c fs _ _ (hf.more hf_le) hs Hn.out (by omega) (by omega)).mono ?_
  rintro e w1 ⟨rfl, hB1⟩
  have hf := hf.belowD hB1 hf_le
  have hf_le := Nat.le_trans hf_le hB1.size
  have B1 := B0.trans (hB1.mono B0.size)
  go_wp2_with fail
  refine (toFileS_any a _ c fs _ (hf.more hf_le) hn2).mono ?_
  rintro e w2 ⟨ga, rfl, hga, hOa, hB2⟩
  have hf := hf.belowD hB2 hf_le
  have hf_le := Nat.le_trans hf_le hB2.size
  have B2 := B1.trans (hB2.mono B1.size)
  have ha := (hOa.owns hga Hn.out).belowD (Below.refl _ _)
  go_wp2_with fail
  refine ((delS_any _ _ _ fs x _ (OwnsF.at_ ha) hs hn2).mono fun _ _ h => h.openO HX.out).mono ?_
  rintro e w3 ⟨aw, cw, rfl, hOw, hB3⟩
  have hf := hf.belowD hB3 hf_le
  have hf_le := Nat.le_trans hf_le hB3.size
  have ha := ha.belowD hB3
  have B3 := B2.trans (hB3.mono B2.size)
  have hw := (OwnsF.at_ hOw)
  have hw_le := Nat.le_refl w3.heap.size
  clear ha hOa hOw hga
  go_wp2_with fail
  refine (toFileS_any a _ c fs _ (hf.more hf_le) hn2).mono ?_
  rintro e w4 ⟨gx, rfl, hgx, hOx, hB4⟩
  have hf := hf.belowD hB4 hf_le
  have hf_le := Nat.le_trans hf_le hB4.size
  have hw := hw.belowD hB4 hw_le
  have hw_le := Nat.le_trans hw_le hB4.size
  have B4 := B3.trans (hB4.mono B3.size)
  have hx0 := hOx.owns (B := w3.heap.size) hgx Hn.out
  have hgxl : gx < w4.heap.size := hOx.lt
  go_wp2_with fail
  refine ((delI_any _ _ _ fs x _ (OwnsF.at_ hx0) hs Hn.out Hx.out).mono fun _ _ h => h.openO HX.out).mono ?_
  rintro e w5 ⟨ag, cg, rfl, hg, hB5⟩
  have hf := hf.belowD hB5 hf_le
  have hf_le := Nat.le_trans hf_le hB5.size
  have hw := hw.belowD hB5 hw_le
  have hw_le := Nat.le_trans hw_le hB5.size
  have hx0 := hx0.belowD hB5
  have B5 := B4.trans (hB5.mono B4.size)
  go_wp2_with fail
  refine (eqFileS_yes (OwnsF.at_ hg) (hw.more hw_le) HXm.out HXm.out rfl).mono ?_
  rintro e w6 ⟨rfl, hB6⟩
  have hf := hf.belowD hB6 hf_le
  have hf_le := Nat.le_trans hf_le hB6.size
  have hw := hw.belowD hB6 hw_le
  have hw_le := Nat.le_trans hw_le hB6.size
  have hx0 := hx0.belowD hB6
  have hg := hg.belowD hB6
  have B6 := B5.trans (hB6.mono B5.size)
  go_wp2_with fail
  refine (toFileS_any a _ c fs _ (hf.more hf_le) hn2).mono ?_
  rintro e w7 ⟨gy, rfl, hgy, hOy, hB7⟩
  have hf := hf.belowD hB7 hf_le
  have hf_le := Nat.le_trans hf_le hB7.size
  have hw := hw.belowD hB7 hw_le
  have hw_le := Nat.le_trans hw_le hB7.size
  have hx0 := hx0.belowD hB7
  have hg := hg.belowD hB7
  have B7 := B6.trans (hB7.mono B6.size)
  go_wp2_with fail
  refine (eqFileS_yes (OwnsF.at_ hx0) (hOy.in_ rfl) Hn.out Hn.out rfl).mono ?_
  rintro e w8 ⟨rfl, hB8⟩
  have hf := hf.belowD hB8 hf_le
  have hf_le := Nat.le_trans hf_le hB8.size
  have hw := hw.belowD hB8 hw_le
  have hw_le := Nat.le_trans hw_le hB8.size
  have hx0 := hx0.belowD hB8
  have hg := hg.belowD hB8
  have B8 := B7.trans (hB8.mono B7.size)
  clear hOy hgy
  go_wp2_with fail
  refine (markF_any _ w3.heap.size 1 fs _ hx0 hn2 (by omega) (by omega)).mono ?_
  rintro e w9 ⟨rfl, _, hG9⟩
  have hf := hf.grownD hG9 hf_le (Nat.le_trans B3.size hgx)
  have hf_le := Nat.le_trans hf_le hG9.size
  have hw := hw.grownD hG9 hw_le (hgx)
  have hw_le := Nat.le_trans hw_le hG9.size
  have hg := hg.grownD hG9 hgxl
  have B9 := B8.grown hG9 B8.size (fun j hj => by cases hj; exact Nat.le_trans B3.size hgx)
  clear hx0 hOx hG9
  go_wp2_with fail
  refine (eqFileS_yes (OwnsF.at_ hg) (hw.more hw_le) HXm.out HXm.out rfl).mono ?_
  rintro e w10 ⟨rfl, hB10⟩
  have hf := hf.belowD hB10 hf_le
  have hf_le := Nat.le_trans hf_le hB10.size
  have hw := hw.belowD hB10 hw_le
  have hw_le := Nat.le_trans hw_le hB10.size
  have hg := hg.belowD hB10
  have B10 := B9.trans (hB10.mono B9.size)
  go_wp2_with fail
  refine (markO hg (by omega)).mono ?_
  rintro e w11 ⟨rfl, hm, r, hG, hr⟩
  have hf := hf.grownD hG hf_le (Nat.le_trans B4.size hr)
  have hf_le := Nat.le_trans hf_le hG.size
  have hw := hw.grownD hG hw_le (by have := hgxl; omega)
  have hw_le := Nat.le_trans hw_le hG.size
  have B11 := B10.grown hG B10.size (fun j hj => by cases hj; exact Nat.le_trans B4.size hr)
  clear hg hG
  go_wp2_with fail
  refine (heldO hm (by omega)).mono ?_
  rintro e w12 ⟨rfl, hB12⟩
  have hf := hf.belowD hB12 hf_le
  have hf_le := Nat.le_trans hf_le hB12.size
  have hw := hw.belowD hB12 hw_le
  have hw_le := Nat.le_trans hw_le hB12.size
  have hm := hm.belowD hB12
  have B12 := B11.trans (hB12.mono B11.size)
  go_wp2_with fail
  refine (toFileS_any a _ c fs _ (hf.more hf_le) hn2).mono ?_
  rintro e w13 ⟨gz, rfl, hgz, hOz, hB13⟩
  have hf := hf.belowD hB13 hf_le
  have hf_le := Nat.le_trans hf_le hB13.size
  have hw := hw.belowD hB13 hw_le
  have hw_le := Nat.le_trans hw_le hB13.size
  have hm := hm.belowD hB13
  have B13 := B12.trans (hB13.mono B12.size)
  have hz := hOz.owns hgz Hn.out
  go_wp2_with fail
  refine ((delI_any _ _ _ fs x _ (OwnsF.at_ hz) hs Hn.out Hx.out).mono fun _ _ h => h.openO HX.out).mono ?_
  rintro e w14 ⟨ah, ch, rfl, hh, hB14⟩
  have hf := hf.belowD hB14 hf_le
  have hf_le := Nat.le_trans hf_le hB14.size
  have hw := hw.belowD hB14 hw_le
  have hw_le := Nat.le_trans hw_le hB14.size
  have hm := hm.belowD hB14
  have hz := hz.belowD hB14
  have B14 := B13.trans (hB14.mono B13.size)
  go_wp2_with fail
  refine (eqFileS_yes (OwnsF.at_ hh) (hw.more hw_le) HXm.out HXm.out rfl).mono ?_
  rintro e w15 ⟨rfl, hB15⟩
  have hf := hf.belowD hB15 hf_le
  have hf_le := Nat.le_trans hf_le hB15.size
  have hw := hw.belowD hB15 hw_le
  have hw_le := Nat.le_trans hw_le hB15.size
  have hm := hm.belowD hB15
  have hz := hz.belowD hB15
  have B15 := B14.trans (hB15.mono B14.size)
  go_wp2_with fail
  refine (heldO hm (by omega)).mono ?_
  rintro e w16 ⟨rfl, hB16⟩
  have hf := hf.belowD hB16 hf_le
  have hf_le := Nat.le_trans hf_le hB16.size
  have hw := hw.belowD hB16 hw_le
  have hw_le := Nat.le_trans hw_le hB16.size
  have hm := hm.belowD hB16
  have hz := hz.belowD hB16
  have B16 := B15.trans (hB16.mono B15.size)
  go_wp2_with fail
  go_ret
  exact ⟨rfl, B16⟩
end Go.Proofs.Ytcjnlmnjjkojeaa
