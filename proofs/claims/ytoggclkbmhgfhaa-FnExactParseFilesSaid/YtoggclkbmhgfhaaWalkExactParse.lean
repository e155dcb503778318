/-
  The exact law of ParseFiles, walked.
-/
import Derived.Test.YtoggclkbmhgfhaaParseP
import Derived.Test.YtoggclkbmhgfhaaExactTools
namespace Go.Proofs.Ytoggclkbmhgfhaa
set_option linter.unusedVariables false
open Go.RowKit

theorem parseR_len {s : List UInt8} {xs : List Fl} {xb : Bool} (h : parseR s = (xs, xb)) : xs.length ≤ 12 := by
  cases xb with
  | true => exact valid_length (parseR_true h).1
  | false => rw [parseR_nil h]; simp

set_option maxRecDepth 100000 in
set_option maxHeartbeats 4000000 in
theorem walkFnExactParseFiles (s : ByteArray) (w : World) (hs : s.size ≤ maxLen) :
    Calls Try.prog 4 #[.string s] w fun e w' => e = .returned (.bool true) ∧ Below w.heap.size w w' := by
  unfold maxLen at hs
  by_cases hlong : 1048576 < s.size
  · go_enter Try.func4, Try.ntmps4
    go_wp2_with fail
    go_ret
    exact ⟨rfl, Below.refl _ _⟩
  obtain ⟨xs, xb, HX⟩ : ∃ xs xb, Hid (parseR s.data.toList = (xs, xb)) := ⟨_, _, rfl⟩
  have hxl := parseR_len HX.out
  have hxm : xs.length ≤ maxLen := by simp only [maxLen]; omega
  have hxb : (xb != xb) = false := by simp
  have HXm := Lib.hid hxm
  have hs2 : s.size ≤ 1048576 := by omega
  clear hxm hs
  go_enter Try.func4, Try.ntmps4
  have B0 := Below.refl w.heap.size w
  go_wp2_with fail
  refine ((parseS_any s _ hs2).mono fun _ _ h => h.openO HX.out).mono ?_
  rintro e w1 ⟨aw, cw, rfl, hOw, hB1⟩
  have B1 := B0.trans (hB1.mono B0.size)
  have hw := (OwnsF.at_ hOw)
  have hw_le := Nat.le_refl w1.heap.size
  clear hOw
  go_wp2_with fail
  refine ((parseI_any s _ hs2).mono fun _ _ h => h.openO HX.out).mono ?_
  rintro e w2 ⟨ag, cg, rfl, hg, hB2⟩
  have hw := hw.belowD hB2 hw_le
  have hw_le := Nat.le_trans hw_le hB2.size
  have B2 := B1.trans (hB2.mono B1.size)
  go_wp2_with fail
  refine (eqFileS_yes (OwnsF.at_ hg) (hw.more hw_le) HXm.out HXm.out rfl).mono ?_
  rintro e w3 ⟨rfl, hB3⟩
  have hw := hw.belowD hB3 hw_le
  have hw_le := Nat.le_trans hw_le hB3.size
  have hg := hg.belowD hB3
  have B3 := B2.trans (hB3.mono B2.size)
  go_wp2_with fail
  refine (markO hg (by omega)).mono ?_
  rintro e w4 ⟨rfl, hm, r, hG, hr⟩
  have hw := hw.grownD hG hw_le hr
  have hw_le := Nat.le_trans hw_le hG.size
  have B4 := B3.grown hG B3.size (fun j hj => by cases hj; exact Nat.le_trans B1.size hr)
  clear hg hG
  go_wp2_with fail
  refine (heldO hm (by omega)).mono ?_
  rintro e w5 ⟨rfl, hB5⟩
  have hw := hw.belowD hB5 hw_le
  have hw_le := Nat.le_trans hw_le hB5.size
  have hm := hm.belowD hB5
  have B5 := B4.trans (hB5.mono B4.size)
  go_wp2_with fail
  refine ((parseI_any s _ hs2).mono fun _ _ h => h.openO HX.out).mono ?_
  rintro e w6 ⟨ah, ch, rfl, hh, hB6⟩
  have hw := hw.belowD hB6 hw_le
  have hw_le := Nat.le_trans hw_le hB6.size
  have hm := hm.belowD hB6
  have B6 := B5.trans (hB6.mono B5.size)
  go_wp2_with fail
  refine (eqFileS_yes (OwnsF.at_ hh) (hw.more hw_le) HXm.out HXm.out rfl).mono ?_
  rintro e w7 ⟨rfl, hB7⟩
  have hw := hw.belowD hB7 hw_le
  have hw_le := Nat.le_trans hw_le hB7.size
  have hm := hm.belowD hB7
  have B7 := B6.trans (hB7.mono B6.size)
  go_wp2_with fail
  refine (heldO hm (by omega)).mono ?_
  rintro e w8 ⟨rfl, hB8⟩
  have hw := hw.belowD hB8 hw_le
  have hw_le := Nat.le_trans hw_le hB8.size
  have hm := hm.belowD hB8
  have B8 := B7.trans (hB8.mono B7.size)
  go_wp2_with fail
  go_ret
  exact ⟨rfl, B8⟩
end Go.Proofs.Ytoggclkbmhgfhaa
