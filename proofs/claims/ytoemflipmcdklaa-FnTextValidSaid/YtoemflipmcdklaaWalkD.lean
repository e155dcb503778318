/-
  The laws on drawn strings, walked.
-/
import Derived.Test.YtoemflipmcdklaaStr
import Derived.Test.YtoemflipmcdklaaDraw
import Derived.Test.YtoemflipmcdklaaOpen
namespace Go.Proofs.Ytoemflipmcdklaa
open Go.RowKit

theorem row_bytes {w : World} {a : Option Addr} {len cap : Nat} {zs : List Int} (h : IsRow .u8 w a len cap zs) : BytesAt w w.heap.size a len ∧ len ≤ cap ∧ cap ≤ maxLen := by
  rcases h with ⟨rfl, rfl, rfl, rfl⟩ | ⟨x, rfl, hl, hm, hz, hcell, hwz⟩
  · exact ⟨fun h => absurd h (by omega), Nat.le_refl _, by unfold maxLen; omega⟩
  · refine ⟨fun h => ?_, hl, hm⟩
    obtain ⟨b, off, spot⟩ := x
    have hc0 := hcell 0 (by omega)
    have hspot : spot = none := by simpa [Addr.add] using World.cell?_spot hc0
    subst hspot
    refine ⟨b, off, rfl, World.block_lt_of_cell? w ⟨b, off, none⟩ (by simpa [Addr.add] using hc0), fun i hi => ?_⟩
    have hc := hcell i (by omega)
    have hw := hwz (zs.getD i 0) (by rw [List.getD_eq_getElem?_getD, List.getElem?_eq_getElem (by omega)]; simp)
    rw [add_none] at hc
    have hx : 0 ≤ zs.getD i 0 ∧ zs.getD i 0 ≤ 255 := by simpa [Lit.wf, IntKind.min, IntKind.max, IntKind.signed, IntKind.bits] using hw
    exact ⟨_, hx.1, hx.2, hc⟩

set_option maxHeartbeats 800000 in
theorem walkFnPathValid (a : Option Addr) (len cap : Nat) (zs : List Int) (w : World) (h : IsRow .u8 w a len cap zs) :
    Calls Try.prog 5 #[.slice a len cap] w fun e w' => e = .returned (.bool true) ∧ Below w.heap.size w w' := by
  obtain ⟨hb, hn, hc⟩ := row_bytes h
  have hc' := hc
  unfold maxLen at hc
  by_cases hlong : 1048576 < len
  · go_enter Try.func5, Try.ntmps5
    go_wp2_with fail
    go_ret
    exact ⟨rfl, Below.refl _ _⟩
  go_enter Try.func5, Try.ntmps5
  go_wp2_with fail
  refine (drawPath_any a len cap w hb hn hc').mono ?_
  rintro e w1 ⟨⟨s, rfl, hs⟩, hB⟩
  go_wp2_with fail
  refine (pathI_any s _ (by unfold maxLen; omega)).mono ?_
  rintro e w2 ⟨rfl, rfl⟩
  go_wp2_with fail
  refine (pathS_any s _ (by unfold maxLen; omega)).mono ?_
  rintro e w2 ⟨rfl, rfl⟩
  cases hp : pathB s with
  | false =>
    have Hp := Lib.hid hp; clear hp
    go_wp2_with fail
    refine (pathS_any s _ (by unfold maxLen; omega)).mono ?_
    rintro e w2 ⟨rfl, rfl⟩
    rw [Hp.out]
    go_wp2_with fail
    go_ret
    exact ⟨rfl, hB⟩
  | true =>
    have Hp := Lib.hid hp; clear hp
    have hs1 : 1 ≤ s.size := ((pathB_iff s).1 Hp.out).1
    go_wp2_with fail
    refine (pathI_is _ _ (by rw [snoc_size]; unfold maxLen; omega) (path_q Hp.out)).mono ?_
    rintro e w2 ⟨rfl, rfl⟩
    go_wp2_with fail
    refine (pathI_is _ _ (by simp; unfold maxLen; omega) (path_tail Hp.out)).mono ?_
    rintro e w2 ⟨rfl, rfl⟩
    go_wp2_with fail
    refine (textI_is _ _ (by unfold maxLen; omega) (path_text Hp.out)).mono ?_
    rintro e w2 ⟨rfl, rfl⟩
    go_wp2_with fail
    refine (pathI_is _ _ (by rw [snoc_size]; unfold maxLen; omega) (path_blank s)).mono ?_
    rintro e w2 ⟨rfl, rfl⟩
    go_wp2_with fail
    go_ret
    exact ⟨rfl, hB⟩

set_option maxHeartbeats 800000 in
theorem walkFnTextValid (a : Option Addr) (len cap : Nat) (zs : List Int) (a' : Option Addr) (len' cap' : Nat) (zs' : List Int) (w : World) (h : IsRow .u8 w a len cap zs) (h' : IsRow .u8 w a' len' cap' zs') :
    Calls Try.prog 6 #[.slice a len cap, .slice a' len' cap'] w fun e w' => e = .returned (.bool true) ∧ Below w.heap.size w w' := by
  obtain ⟨hb, hn, hc⟩ := row_bytes h
  obtain ⟨hb', hn', hc'⟩ := row_bytes h'
  have hcm := hc
  have hcm' := hc'
  unfold maxLen at hc hc'
  by_cases hlong : 1048576 < len
  · go_enter Try.func6, Try.ntmps6
    go_wp2_with fail
    go_ret
    exact ⟨rfl, Below.refl _ _⟩
  by_cases hlong' : 1048576 < len'
  · go_enter Try.func6, Try.ntmps6
    go_wp2_with fail
    go_ret
    exact ⟨rfl, Below.refl _ _⟩
  go_enter Try.func6, Try.ntmps6
  go_wp2_with fail
  refine (drawText_any a len cap w hb hn hcm).mono ?_
  rintro e w1 ⟨⟨s, rfl, hs⟩, hB1⟩
  have hb2 : BytesAt w1 w1.heap.size a' len' := by
    have h0 := hb'.keep fun i hi => hB1.cell (p := i) hi
    exact fun hn => by obtain ⟨b, off, ha, hbb, hz⟩ := h0 hn; exact ⟨b, off, ha, by have := hB1.size; omega, hz⟩
  go_wp2_with fail
  refine (drawText_any a' len' cap' w1 hb2 hn' hcm').mono ?_
  rintro e w2 ⟨⟨t, rfl, ht⟩, hB2⟩
  have hB := hB1.trans (hB2.mono hB1.size)
  have hm1 : s.size ≤ maxLen := by unfold maxLen; omega
  have hm2 : t.size ≤ maxLen := by unfold maxLen; omega
  go_wp2_with fail
  refine (textI_any s _ hm1).mono ?_
  rintro e w3 ⟨rfl, rfl⟩
  go_wp2_with fail
  refine (textI_any t _ hm2).mono ?_
  rintro e w3 ⟨rfl, rfl⟩
  go_wp2_with fail
  refine (textS_any s _ hm1).mono ?_
  rintro e w3 ⟨rfl, rfl⟩
  go_wp2_with fail
  refine (textS_any t _ hm2).mono ?_
  rintro e w3 ⟨rfl, rfl⟩
  cases hp : textB s with
  | false =>
    have Hp := Lib.hid hp; clear hp
    go_wp2_with fail
    refine (textS_is s _ hm1 Hp.out).mono ?_
    rintro e w3 ⟨rfl, rfl⟩
    go_wp2_with fail
    refine (textS_any t _ hm2).mono ?_
    rintro e w3 ⟨rfl, rfl⟩
    go_wp2_with fail
    go_ret
    exact ⟨rfl, hB⟩
  | true =>
    have Hp := Lib.hid hp; clear hp
    cases hq : textB t with
    | false =>
      have Hq := Lib.hid hq; clear hq
      go_wp2_with fail
      refine (textS_is s _ hm1 Hp.out).mono ?_
      rintro e w3 ⟨rfl, rfl⟩
      go_wp2_with fail
      refine (textS_is t _ hm2 Hq.out).mono ?_
      rintro e w3 ⟨rfl, rfl⟩
      go_wp2_with fail
      go_ret
      exact ⟨rfl, hB⟩
    | true =>
      have Hq := Lib.hid hq; clear hq
      go_wp2_with fail
      refine (textI_is (s.extract (s.size / 2) s.size) _ (by simp; unfold maxLen; omega) (text_tail Hp.out _)).mono ?_
      rintro e w3 ⟨rfl, rfl⟩
      go_wp2_with fail
      refine (textI_is (s ++ t) _ (by rw [ByteArray.size_append]; unfold maxLen; omega) (text_append Hp.out Hq.out)).mono ?_
      rintro e w3 ⟨rfl, rfl⟩
      go_wp2_with fail
      go_ret
      exact ⟨rfl, hB⟩
end Go.Proofs.Ytoemflipmcdklaa
