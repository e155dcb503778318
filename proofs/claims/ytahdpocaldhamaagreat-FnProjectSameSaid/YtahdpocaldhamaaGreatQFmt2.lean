/-
  The program's methods 'write' of nodes with several operands; FormatExpr.
-/
import Derived.Test.YtahdpocaldhamaaGreatQFmt
namespace Go.Proofs.YtahdpocaldhamaaGreat
set_option linter.unusedVariables false
open Go.RowKit

theorem Wrote.sz {B b : Nat} {l : List UInt8} {w w' : World} (h : Wrote B b l w w') : w.heap.size ≤ w'.heap.size := h.below.size
theorem slots_wrote {w w' : World} {L D B b : Nat} {l : List UInt8} {o : Option Addr} {os : List Value} (h : SlotsAt w L D o os) (hw : Wrote B b l w w') (hD : D ≤ B) : SlotsAt w' L D o os :=
  h.keep (Nat.le_refl _) (Nat.le_refl _) fun p _ h2 => hw.below.cell (by omega)
theorem Fo.drop_size_le : ∀ (f : Fo) (j : Nat), (f.drop j).size ≤ f.size
  | .nil, 0 => Nat.le_refl _
  | .nil, _ + 1 => Nat.le_refl _
  | .node k s ks r, 0 => Nat.le_refl _
  | .node k s ks r, j + 1 => by have := drop_size_le r j; simp only [drop, size]; omega
/-- a value whose method 'write' adds m, from any later state of the builder on -/
def Later (w : World) (v : Value) (B b N : Nat) (m : List UInt8) : Prop := ∀ (l : List UInt8) (w' : World), Wrote B b l w w' → l.length + N ≤ 100000 → WrS w' v B b l m

set_option maxRecDepth 100000 in
set_option maxHeartbeats 1000000 in
theorem write_join (ks : Fo) (os : List Value) (oa : Option Addr) (oc L D B b : Nat) (l : List UInt8) (w : World) (hb : b < w.heap.size) (hBb : B ≤ b) (hD : D ≤ B) (h : Bld B b l w) (hos : os.length = ks.len) (hl4 : ks.len ≤ 4) (hg : good ks = true) (hsl : SlotsAt w L D oa os)
    (hlen : l.length + 63 * (ks.size + 1) ≤ 100000) (hsub : ∀ j k s ks', ks.get j = some (k, s, ks') → ∃ v, os[j]? = some v ∧ (∃ t x, v = .iface t x) ∧ Later w v B b (63 * (ks'.size + 1)) (fm1 k s ks')) :
    Calls Tryz.prog 136 #[.agg #[.slice oa ks.len oc], .pointer (some ⟨b, 0, none⟩)] w fun e w' => e = .returned (.tuple #[]) ∧ Wrote B b (l ++ fm1 3 .empty ks) w w' := by
  have H0 := Lib.hid (h.alloc (.cells #[.slice oa ks.len oc] 144))
  have Hsub := Lib.hid hsub
  have Hg := Lib.hid hg
  have Hsl := Lib.hid hsl
  have Hos := Lib.hid hos
  have hsz1 : 0 < ks.size + 1 := by omega
  clear h hsub hg hsl hos
  go_enter Tryz.func136, Tryz.ntmps136
  go_wp2_with fail
  refine (writeByte_any B b l 40 _ H0.out (by omega) (by simp; omega)).mono ?_
  rintro e w2 ⟨rfl, hW2⟩
  have hx2 := hW2.cell (heap_alloc_new w _) (by decide) (by omega)
  have hc2 : w2.cell? ⟨w.heap.size, 0, none⟩ = some (.slice oa ks.len oc) := by rw [cell_of_row _ _ _ _ _ _ hx2]; rfl
  have hz2 := hW2.below.size
  simp only [World.size_alloc] at hz2
  have hW0 := hW2.pre (by omega)
  have HW0 := Lib.hid hW0
  clear hx2 hW2 hW0
  go_wp2_with fail
  go_loopw [11] (fun i wr => ∃ (j : Nat) (lj : List UInt8), j ≤ ks.len ∧ i = .int .i64 j ∧ lj ++ fmS (ks.drop j) [] = (l ++ [40]) ++ fmS ks [] ∧ lj.length + 63 * (ks.drop j).size + 1 ≤ 100000 ∧ w2.heap.size ≤ wr.heap.size ∧ Wrote B b lj w wr) (fun i _ => ks.len - (intOf i).toNat)
  case atStart => exact ⟨0, l ++ [40], Nat.zero_le _, rfl, by rw [Fo.drop_zero], by rw [Fo.drop_zero]; simp; omega, Nat.le_refl _, HW0.out⟩
  case round =>
    obtain ⟨j, lj, hj, rfl, htx, hln, hzr, hWr⟩ := hrel
    have Htx := Lib.hid htx
    have HWr := Lib.hid hWr
    clear htx hWr
    by_cases hlt : j < ks.len
    · obtain ⟨⟨k', s', ks'⟩, hgt⟩ := Fo.get_some hlt
      obtain ⟨v, hv, ⟨t, x, rfl⟩, hlat⟩ := Hsub.out j k' s' ks' hgt
      have hgg := good_get Hg.out hgt
      have hdr := Fo.drop_get hgt
      have hfl := fm1_len hgg.1 hgg.2
      have hsz : (ks.drop j).size = ks'.size + (ks.drop (j + 1)).size + 1 := by rw [hdr]; rfl
      obtain ⟨pb, po, rfl, _, hpD, hcell⟩ := slots_wrote Hsl.out HWr.out hD (by have := Hos.out; omega)
      have hcj := hcell j _ hv
      have htx2 : (lj ++ fm1 k' s' ks') ++ fmS (ks.drop (j + 1)) [] = (l ++ [40]) ++ fmS ks [] := by rw [← Htx.out, hdr, fmS_node]; simp
      obtain ⟨T, X, F, he, hm, hcf, hcall⟩ := hlat lj wr HWr.out (by omega)
      cases he
      have Hcall := Lib.hid hcall
      have Htx2 := Lib.hid htx2
      have hln2 : (lj ++ fm1 k' s' ks').length + 63 * (ks.drop (j + 1)).size + 1 ≤ 100000 := by rw [List.length_append]; omega
      have Hln2 := Lib.hid hln2
      clear hcell hv hlat hgt hdr hcall htx2 hln2
      go_wp2_with fail
      refine Hcall.out.mono ?_
      rintro e w3 ⟨rfl, hW3⟩
      have HW3 := Lib.hid (And.intro (HWr.out.then hW3) (Nat.le_trans hzr hW3.sz))
      clear hW3
      go_wp2_with fail
      go_roundw
      case rel => exact ⟨j + 1, _, by omega, by go_num, Htx2.out, Hln2.out, HW3.out.2, HW3.out.1⟩
      case measure => simp [intOf]; omega
    · have e0 : ks.drop j = .nil := Fo.drop_all (by omega)
      have htx3 : lj = (l ++ [40]) ++ fmS ks [] := by rw [← Htx.out, e0]; simp [fmS]
      have hbr : b < wr.heap.size := by omega
      have Htx3 := Lib.hid htx3
      have hlj : lj.length + 1 ≤ 100000 := by omega
      clear htx3
      go_wp2_with fail
      refine (writeByte_any B b lj 41 _ HWr.out.is (by omega) (by omega)).mono ?_
      rintro e w4 ⟨rfl, hW4⟩
      have HW4 := Lib.hid ((HWr.out.then hW4).to (show lj ++ [41] = l ++ fm1 3 .empty ks by rw [Htx3.out]; unfold fm1; simp))
      clear hW4
      go_wp2_with fail
      go_end0
      exact ⟨rfl, HW4.out⟩

set_option maxRecDepth 100000 in
set_option maxHeartbeats 2000000 in
theorem write_same (v0 v1 v2 v3 : Value) (B b N0 N1 N2 N3 : Nat) (l m0 m1 m2 m3 l' : List UInt8) (w : World) (hb : b < w.heap.size) (hBb : B ≤ b) (h : Bld B b l w)
    (hif0 : ∃ t x, v0 = .iface t x) (hif1 : ∃ t x, v1 = .iface t x) (hif2 : ∃ t x, v2 = .iface t x) (hif3 : ∃ t x, v3 = .iface t x)
    (h0 : Later w v0 B b N0 m0) (h1 : Later w v1 B b N1 m1) (h2 : Later w v2 B b N2 m2) (h3 : Later w v3 B b N3 m3) (hm0 : m0.length ≤ N0) (hm1 : m1.length ≤ N1) (hm2 : m2.length ≤ N2) (hm3 : m3.length ≤ N3)
    (hlen : l.length + 5 + N0 + N1 + N2 + N3 ≤ 100000) (hl' : ((((((((l ++ [91]) ++ m0) ++ [61]) ++ m1) ++ [63]) ++ m2) ++ [58]) ++ m3) ++ [93] = l') :
    Calls Tryz.prog 141 #[.agg #[v0, v1, v2, v3], .pointer (some ⟨b, 0, none⟩)] w fun e w' => e = .returned (.tuple #[]) ∧ Wrote B b l' w w' := by
  obtain ⟨t0, x0, rfl⟩ := hif0
  obtain ⟨t1, x1, rfl⟩ := hif1
  obtain ⟨t2, x2, rfl⟩ := hif2
  obtain ⟨t3, x3, rfl⟩ := hif3
  have H0 := Lib.hid (h.alloc (.cells #[.iface t0 x0, .iface t1 x1, .iface t2 x2, .iface t3 x3] 146))
  have Hall := Lib.hid (And.intro h0 (And.intro h1 (And.intro h2 h3)))
  have Hl := Lib.hid hl'
  have hbx0 := heap_alloc_new w (.cells #[.iface t0 x0, .iface t1 x1, .iface t2 x2, .iface t3 x3] 146)
  clear h h0 h1 h2 h3 hl'
  go_enter Tryz.func141, Tryz.ntmps141
  go_wp2_with fail
  refine (writeByte_any B b _ 91 _ H0.out (by first | omega | (simp only [List.length_append, List.length_cons, List.length_nil]; omega)) (by simp; omega)).mono ?_
  rintro e w2 ⟨rfl, hW2⟩
  have hbx := hW2.cell hbx0 (by decide) (by omega)
  have hz := hW2.below.size
  simp only [World.size_alloc] at hz
  have HW := Lib.hid (hW2.pre (by omega))
  have Hbx := Lib.hid hbx
  clear hW2 hbx0 hbx
  have hc0 : w2.cell? ⟨w.heap.size, 0, none⟩ = some (.iface t0 x0) := by rw [cell_of_row _ _ _ _ _ _ Hbx.out]; rfl
  obtain ⟨T0, X0, F0, he0, hd0, hcf0, hcall0⟩ := Hall.out.1 _ w2 HW.out (by first | omega | (simp only [List.length_append, List.length_cons, List.length_nil]; omega))
  cases he0
  have Hcall0 := Lib.hid hcall0
  clear hcall0
  go_wp2_with fail
  refine Hcall0.out.mono ?_
  rintro e w3 ⟨rfl, hW3⟩
  have hbx := hW3.cell Hbx.out (by decide) (by omega)
  have hz := Nat.le_trans hz hW3.sz
  have HW := Lib.hid (HW.out.then hW3)
  have Hbx := Lib.hid hbx
  clear hW3 hbx hc0 hd0 hcf0
  go_wp2_with fail
  refine (writeByte_any B b _ 61 _ HW.out.is (by first | omega | (simp only [List.length_append, List.length_cons, List.length_nil]; omega)) (by omega)).mono ?_
  rintro e w4 ⟨rfl, hW4⟩
  have hbx := hW4.cell Hbx.out (by decide) (by omega)
  have hz := Nat.le_trans hz hW4.sz
  have HW := Lib.hid (HW.out.then hW4)
  have Hbx := Lib.hid hbx
  clear hW4 hbx
  have hc1 : w4.cell? ⟨w.heap.size, 1, none⟩ = some (.iface t1 x1) := by rw [cell_of_row _ _ _ _ _ _ Hbx.out]; rfl
  obtain ⟨T1, X1, F1, he1, hd1, hcf1, hcall1⟩ := Hall.out.2.1 _ w4 HW.out (by first | omega | (simp only [List.length_append, List.length_cons, List.length_nil]; omega))
  cases he1
  have Hcall1 := Lib.hid hcall1
  clear hcall1
  go_wp2_with fail
  refine Hcall1.out.mono ?_
  rintro e w5 ⟨rfl, hW5⟩
  have hbx := hW5.cell Hbx.out (by decide) (by omega)
  have hz := Nat.le_trans hz hW5.sz
  have HW := Lib.hid (HW.out.then hW5)
  have Hbx := Lib.hid hbx
  clear hW5 hbx hc1 hd1 hcf1
  go_wp2_with fail
  refine (writeByte_any B b _ 63 _ HW.out.is (by first | omega | (simp only [List.length_append, List.length_cons, List.length_nil]; omega)) (by omega)).mono ?_
  rintro e w6 ⟨rfl, hW6⟩
  have hbx := hW6.cell Hbx.out (by decide) (by omega)
  have hz := Nat.le_trans hz hW6.sz
  have HW := Lib.hid (HW.out.then hW6)
  have Hbx := Lib.hid hbx
  clear hW6 hbx
  have hc2 : w6.cell? ⟨w.heap.size, 2, none⟩ = some (.iface t2 x2) := by rw [cell_of_row _ _ _ _ _ _ Hbx.out]; rfl
  obtain ⟨T2, X2, F2, he2, hd2, hcf2, hcall2⟩ := Hall.out.2.2.1 _ w6 HW.out (by first | omega | (simp only [List.length_append, List.length_cons, List.length_nil]; omega))
  cases he2
  have Hcall2 := Lib.hid hcall2
  clear hcall2
  go_wp2_with fail
  refine Hcall2.out.mono ?_
  rintro e w7 ⟨rfl, hW7⟩
  have hbx := hW7.cell Hbx.out (by decide) (by omega)
  have hz := Nat.le_trans hz hW7.sz
  have HW := Lib.hid (HW.out.then hW7)
  have Hbx := Lib.hid hbx
  clear hW7 hbx hc2 hd2 hcf2
  go_wp2_with fail
  refine (writeByte_any B b _ 58 _ HW.out.is (by first | omega | (simp only [List.length_append, List.length_cons, List.length_nil]; omega)) (by omega)).mono ?_
  rintro e w8 ⟨rfl, hW8⟩
  have hbx := hW8.cell Hbx.out (by decide) (by omega)
  have hz := Nat.le_trans hz hW8.sz
  have HW := Lib.hid (HW.out.then hW8)
  have Hbx := Lib.hid hbx
  clear hW8 hbx
  have hc3 : w8.cell? ⟨w.heap.size, 3, none⟩ = some (.iface t3 x3) := by rw [cell_of_row _ _ _ _ _ _ Hbx.out]; rfl
  obtain ⟨T3, X3, F3, he3, hd3, hcf3, hcall3⟩ := Hall.out.2.2.2 _ w8 HW.out (by first | omega | (simp only [List.length_append, List.length_cons, List.length_nil]; omega))
  cases he3
  have Hcall3 := Lib.hid hcall3
  clear hcall3
  go_wp2_with fail
  refine Hcall3.out.mono ?_
  rintro e w9 ⟨rfl, hW9⟩
  have hbx := hW9.cell Hbx.out (by decide) (by omega)
  have hz := Nat.le_trans hz hW9.sz
  have HW := Lib.hid (HW.out.then hW9)
  have Hbx := Lib.hid hbx
  clear hW9 hbx hc3 hd3 hcf3
  go_wp2_with fail
  refine (writeByte_any B b _ 93 _ HW.out.is (by first | omega | (simp only [List.length_append, List.length_cons, List.length_nil]; omega)) (by omega)).mono ?_
  rintro e w10 ⟨rfl, hW10⟩
  have hbx := hW10.cell Hbx.out (by decide) (by omega)
  have hz := Nat.le_trans hz hW10.sz
  have HW := Lib.hid (HW.out.then hW10)
  have Hbx := Lib.hid hbx
  clear hW10 hbx
  have HW5 := Lib.hid (HW.out.to Hl.out)
  go_wp2_with fail
  go_end0
  exact ⟨rfl, HW5.out⟩
end Go.Proofs.YtahdpocaldhamaaGreat
