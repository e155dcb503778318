/-
  The program's FormatProject.
-/
import Derived.Test.YtahdpocaldhamaaGreatGtwo
import Derived.Test.YtahdpocaldhamaaGreatQPrI
import Derived.Test.YtahdpocaldhamaaGreatGone
import Derived.Test.YtahdpocaldhamaaGreatQFmt3
namespace Go.Proofs.YtahdpocaldhamaaGreat
set_option linter.unusedVariables false
set_option linter.unusedSimpArgs false
open Go.RowKit

/-- between two rounds of FormatProject: the builder holds the lines so far -/
def FmI (w1 : World) (pre : List UInt8) (g : Nat → List UInt8) (n : Nat) (i : Value) (wr : World) : Prop := ∃ j : Nat, j ≤ n ∧ i = .int .i64 j ∧ Bld w1.heap.size w1.heap.size (pre ++ g j) wr ∧ Below w1.heap.size w1 wr

set_option maxRecDepth 100000 in
set_option maxHeartbeats 2000000 in
theorem fmtPI_any (a1 a2 : Option Addr) (n1 n2 c1 c2 : Nat) (fs : List Fl) (rs : List Ru) (w : World) (hf : FilesAt w w.heap.size a1 n1 fs) (hr : RuAt w 0 w.heap.size rs a2 n2) (hs : Fits fs) (hrf : RuFits rs) (hn1 : n1 ≤ maxLen) (hn2 : n2 ≤ maxLen) :
    Calls Tryz.prog 9 #[.agg #[.slice a1 n1 c1, .slice a2 n2 c2]] w fun e w' => e = .returned (.string (fmtP fs rs)) ∧ Below w.heap.size w w' := by
  have hB0 := (Below.refl w.heap.size w).alloc (Nat.le_refl _) (.cells #[.slice a1 n1 c1, .slice a2 n2 c2] 26)
  go_enter Tryz.func9, Tryz.ntmps9
  go_wp2_with fail
  refine (projI_any a1 a2 n1 n2 c1 c2 fs rs _ ((hf.below hB0).more hB0.size) (hr.next hB0) hs hrf hn1 hn2).mono ?_
  rintro e w1 ⟨rfl, hB1⟩
  have B1 := hB0.trans (hB1.mono hB0.size)
  rcases Bool.eq_false_or_eq_true (projB fs rs) with hv | hv
  case inr =>
    rw [hv]
    go_wp2_with fail
    go_ret
    exact ⟨by unfold fmtP; rw [hv]; rfl, B1⟩
  rw [hv]
  have hbl0 := Bld.new w1
  have hP1 := (BxP.new w (.slice a1 n1 c1) (.slice a2 n2 c2) 26).next hB1
  go_wp2_with fail
  refine (writeLineW_any [⟨#[112, 114, 111, 106, 101, 99, 116]⟩] (w1.heap.size + 1) 0 1 w1.heap.size w1.heap.size [] _ (fun j x hx => ?_) (by simp) (by simp) (by simp) (hbl0.alloc (.cells #[.string ⟨#[112, 114, 111, 106, 101, 99, 116]⟩] 9)) (Nat.le_refl _) (by decide)).mono ?_
  · obtain ⟨hj, rfl⟩ : j = 0 ∧ x = ⟨#[112, 114, 111, 106, 101, 99, 116]⟩ := by
      cases j with
      | zero => simpa using hx.symm
      | succ j => simp at hx
    subst hj
    simp [go_sem]
  rintro e w2 ⟨rfl, hW2⟩
  have hW2' : Wrote w1.heap.size w1.heap.size [112, 114, 111, 106, 101, 99, 116, 10] _ w2 := hW2
  have B12 : Below w1.heap.size w1 w2 := (((Below.refl w1.heap.size w1).alloc (Nat.le_refl _) (.cells #[.pointer none, .slice none 0 0] 61)).alloc (by simp) (.cells #[.string ⟨#[112, 114, 111, 106, 101, 99, 116]⟩] 9)).trans hW2'.below
  have hbl2 := hW2'.is
  clear hW2 hW2' hbl0
  obtain ⟨p0, p1, pf0, pf1, hpl⟩ := (hP1.next B12).facts
  obtain ⟨hfl, hrl, hls, hlr⟩ := proj_sizes hv
  have hfn := hf.1
  have hrn := hr.1
  go_wp2_with fail
  go_loopw [17] (fun i wr => FmI w1 [112, 114, 111, 106, 101, 99, 116, 10] (fun j => (fs.take j).flatMap lineS) n1 i wr) (fun i _ => n1 - (intOf i).toNat)
  case atStart => exact ⟨0, Nat.zero_le _, rfl, hbl2, B12⟩
  case round =>
    obtain ⟨j, hj, rfl, hbl, hB⟩ := hrel
    have Bw := B1.trans (hB.mono B1.size)
    have hsw := hB.size
    by_cases hlt : j < n1
    · obtain ⟨b, off, p, t, rfl, hb, hg, hc1, hc2⟩ := (hf.below Bw).get hlt
      have hjj : (j : Int) < (n1 : Int) := by omega
      have hj0 : (0 : Int) ≤ (j : Int) := by omega
      have hbw : b < wr.heap.size := by have := Bw.size; omega
      have hll := hls _ (List.mem_of_getElem? hg)
      have hacc : ((fs.take j).flatMap lineS).length ≤ 80 * 12 := by
        have := flat_len lineS 80 (fs.take j) fun x hx => hls x (List.mem_of_mem_take hx)
        simp only [List.length_take] at this
        have h2 : 80 * min j fs.length ≤ 80 * 12 := Nat.mul_le_mul_left _ (by omega)
        omega
      have hstep := flat_take lineS hg
      have hV := heap_alloc_new (wr.alloc (.cells #[.string p, .string t] 64)) (.cells #[.string ⟨#[115, 111, 117, 114, 99, 101]⟩, .string p, .string t] 9)
      rw [World.size_alloc] at hV
      have BV := ((Below.refl wr.heap.size wr).alloc (Nat.le_refl _) (.cells #[.string p, .string t] 64)).alloc (by simp) (.cells #[.string ⟨#[115, 111, 117, 114, 99, 101]⟩, .string p, .string t] 9)
      have hllen : p.size + t.size + 9 ≤ 80 := by
        simp only [lineS, List.length_append, Array.length_toList, List.length_cons, List.length_nil] at hll
        have h1 : p.data.size = p.size := rfl
        have h2 : t.data.size = t.size := rfl
        omega
      have hlenb : ([112, 114, 111, 106, 101, 99, 116, 10] ++ (fs.take j).flatMap lineS : List UInt8).length ≤ 1000 := by
        simp only [List.length_append, List.length_cons, List.length_nil]
        omega
      have Hst := Lib.hid hstep
      clear hstep hg
      go_wp2_with fail
      refine (wl3 ⟨#[115, 111, 117, 114, 99, 101]⟩ p t (wr.heap.size + 1) w1.heap.size w1.heap.size _ _ hV ((hbl.alloc _).alloc _) (Nat.le_refl _) (by show _ + (6 + p.size + t.size) + 10 ≤ _; omega)).mono ?_
      rintro e w3 ⟨rfl, hW3⟩
      have hbl3 := hW3.is
      have hB3 := hW3.below
      have B13 := hB.trans (((BV.mono hsw).trans hB3))
      go_wp2_with fail
      refine ⟨⟨j + 1, by omega, by go_num, ?_, B13⟩, by simp [intOf]; omega⟩
      show Bld _ _ (_ ++ (fs.take (j + 1)).flatMap lineS) _
      rw [Hst.out, ← List.append_assoc]
      exact hbl3
    · have hjn : ¬ (j : Int) < (n1 : Int) := by omega
      have hall : (fs.take j).flatMap lineS = fs.flatMap lineS := by rw [List.take_of_length_le (by omega)]
      have hbl' : Bld w1.heap.size w1.heap.size ([112, 114, 111, 106, 101, 99, 116, 10] ++ fs.flatMap lineS) wr := hall ▸ hbl
      have hfll : (fs.flatMap lineS).length ≤ 80 * 12 := by
        have := flat_len lineS 80 fs hls
        have h2 : 80 * fs.length ≤ 80 * 12 := Nat.mul_le_mul_left _ hfl
        omega
      clear hall hbl
      obtain ⟨q0, q1, qf0, qf1, hql⟩ := (hP1.next hB).facts
      go_wp2_with fail
      go_loopw [32] (fun i wr => FmI w1 ([112, 114, 111, 106, 101, 99, 116, 10] ++ fs.flatMap lineS) (fun j => (rs.take j).flatMap lineR) n2 i wr) (fun i _ => n2 - (intOf i).toNat)
      case atStart => exact ⟨0, Nat.zero_le _, rfl, by simpa using hbl', hB⟩
      case round =>
        obtain ⟨i, hi, rfl, hbl, hB⟩ := hrel
        have Bw := B1.trans (hB.mono B1.size)
        have hsw := hB.size
        by_cases hlt : i < n2
        · obtain ⟨b, off, t, k, s, ks, a', n', c', rfl, _, hb, hg, hc0, hc1, hc2, hc3, hcap, hks⟩ := (hr.next Bw).get hlt
          have hii : (i : Int) < (n2 : Int) := by omega
          have hi0 : (0 : Int) ≤ (i : Int) := by omega
          have hkn := hks.1
          have hfit := hrf.get hg
          obtain ⟨hll, htl, hve⟩ := hlr _ (List.mem_of_getElem? hg)
          have hacc : ((rs.take i).flatMap lineR).length ≤ 1300 * 10 := by
            have := flat_len lineR 1300 (rs.take i) fun x hx => (hlr x (List.mem_of_mem_take hx)).1
            simp only [List.length_take] at this
            have h2 : 1300 * min i rs.length ≤ 1300 * 10 := Nat.mul_le_mul_left _ (by omega)
            omega
          have hstep := flat_take lineR hg
          have hfe := fmtE_len hve
          have hfe2 : (fmtE k s ks).size ≤ 1260 := by have h5 : (fmtE k s ks).data.toList.length = (fmtE k s ks).size := by rw [Array.length_toList]; rfl
                                                      rw [← h5]; exact hfe
          have Hst := Lib.hid hstep
          have hk1 := (hks.alloc (Nat.le_refl _) (.cells #[.string t, .int .i64 k, .string s, .slice a' n' c'] 57)).more (Nat.le_refl 0) (show _ ≤ (wr.alloc (.cells #[.string t, .int .i64 k, .string s, .slice a' n' c'] 57)).heap.size by simp)
          have hR1 := BxR.new wr t k s (.slice a' n' c') 57
          have BV := (Below.refl wr.heap.size wr).alloc (Nat.le_refl _) (.cells #[.string t, .int .i64 k, .string s, .slice a' n' c'] 57)
          have hblV := hbl.alloc (.cells #[.string t, .int .i64 k, .string s, .slice a' n' c'] 57)
          clear hstep hg
          go_wp2_with fail
          have hDr := (Below.refl (wr.alloc (.cells #[.string t, .int .i64 k, .string s, .slice a' n' c'] 57)).heap.size (wr.alloc (.cells #[.string t, .int .i64 k, .string s, .slice a' n' c'] 57))).drew
          have hkD := hk1.next hDr
          have hRD := hR1.next hDr
          have hblD : Bld w1.heap.size w1.heap.size ([112, 114, 111, 106, 101, 99, 116, 10] ++ fs.flatMap lineS ++ (rs.take i).flatMap lineR) _ := hblV.next hDr
          have BD := BV.trans (hDr.mono BV.size)
          have HC0 := Lib.hid (bxR_four hRD)
          have hblt := hbl.lt
          have hlenb : ([112, 114, 111, 106, 101, 99, 116, 10] ++ fs.flatMap lineS ++ (rs.take i).flatMap lineR : List UInt8).length ≤ 20000 := by
            simp only [List.length_append, List.length_cons, List.length_nil]
            omega
          go_region_held3 (fun w' => w'.cell? ⟨wr.heap.size, 0, none⟩ = some (.string t) ∧ w'.cell? ⟨wr.heap.size, 1, none⟩ = some (.int .i64 k) ∧ w'.cell? ⟨wr.heap.size, 2, none⟩ = some (.string s) ∧ w'.cell? ⟨wr.heap.size, 3, none⟩ = some (.slice a' n' c')) (first | exact HC0.out | exact HC1.out | exact HC2.out | exact HC3.out)
            ((first
              | (go_at_call 32; refine (formatI_expr k s ks a' n' c' _ hkD hfit.2.1 hfit.2.2.2 (by rw [← hkn]; exact hfit.2.2.1)).mono ?_; rintro e v1 ⟨rfl, hC1⟩; have hR2 := hRD.next hC1; have HC1 := Lib.hid (bxR_four hR2); have hR3 := hR2.alloc (.cells #[.string ⟨#[114, 117, 108, 101]⟩, .string t, .string (fmtE k s ks)] 9); have HC2 := Lib.hid (bxR_four hR3); have hblv := (hblD.next hC1).alloc (.cells #[.string ⟨#[114, 117, 108, 101]⟩, .string t, .string (fmtE k s ks)] 9); have BV1 := (BD.trans (hC1.mono BD.size)).alloc (BD.trans (hC1.mono BD.size)).size (.cells #[.string ⟨#[114, 117, 108, 101]⟩, .string t, .string (fmtE k s ks)] 9))
              | (go_at_call 31; refine (wl3 ⟨#[114, 117, 108, 101]⟩ t (fmtE k s ks) v1.heap.size w1.heap.size w1.heap.size _ _ (heap_alloc_new v1 _) hblv (Nat.le_refl _) (by show _ + (4 + t.size + (fmtE k s ks).size) + 10 ≤ _; omega)).mono ?_; rintro e v2 ⟨rfl, hW2⟩; have HC3 := Lib.hid (bxR_four (hW2.cell hR3 (by decide) (by omega))))))
          all_goals
            have B2' := hB.trans (((BV1.mono hsw).trans hW2.below))
            go_wp2_with fail
            refine ⟨⟨i + 1, by omega, by go_num, ?_, B2'⟩, by simp [intOf]; omega⟩
            show Bld _ _ (_ ++ (rs.take (i + 1)).flatMap lineR) _
            rw [Hst.out, ← List.append_assoc]
            exact hW2.is
        · have hin : ¬ (i : Int) < (n2 : Int) := by omega
          have hall : (rs.take i).flatMap lineR = rs.flatMap lineR := by rw [List.take_of_length_le (by omega)]
          have hblz : Bld w1.heap.size w1.heap.size ([112, 114, 111, 106, 101, 99, 116, 10] ++ fs.flatMap lineS ++ rs.flatMap lineR) wr := hall ▸ hbl
          clear hbl hall
          go_wp2_with fail
          refine (builderString_any _ _ _ _ hblz hsw).mono ?_
          rintro e v3 ⟨rfl, hB3⟩
          have B3 := Bw.trans (hB3.mono B1.size)
          go_wp2_with fail
          go_ret
          refine ⟨?_, B3⟩
          unfold fmtP
          rw [if_pos hv]
          unfold linesP
          simp only [List.append_assoc]
          rfl
end Go.Proofs.YtahdpocaldhamaaGreat
