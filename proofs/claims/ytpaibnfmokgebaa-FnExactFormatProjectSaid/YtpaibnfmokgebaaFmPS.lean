/-
  The reference's FormatProject.
-/
import Derived.Test.YtpaibnfmokgebaaFmP
import Derived.Test.YtpaibnfmokgebaaPrV
import Derived.Test.YtpaibnfmokgebaaFmtT
import Derived.Laws.Concat
namespace Go.Proofs.Ytpaibnfmokgebaa
set_option linter.unusedVariables false
set_option linter.unusedSimpArgs false
open Go.RowKit

/-- between two rounds of FormatProject: the text so far -/
def FsI (w1 : World) (pre : List UInt8) (g : Nat → List UInt8) (n : Nat) (v i : Value) (wr : World) : Prop := ∃ (j : Nat) (out : ByteArray), j ≤ n ∧ i = .int .i64 j ∧ v = .string out ∧ out.data.toList = pre ++ g j ∧ Below w1.heap.size w1 wr

set_option maxRecDepth 100000 in
set_option maxHeartbeats 2000000 in
theorem fmtPS_of (hR : RulesC) (a1 a2 : Option Addr) (n1 n2 c1 c2 : Nat) (fs : List Fl) (rs : List Ru) (w : World) (hf : FilesAt w w.heap.size a1 n1 fs) (hr : RuAt w 0 w.heap.size rs a2 n2) (hs : Fits fs) (hrf : RuFits rs) (hn1 : n1 ≤ maxLen) (hn2 : n2 ≤ maxLen) (hz : rs.length + ruTot rs ≤ 1048576) :
    Calls Try.prog 11 #[.agg #[.slice a1 n1 c1, .slice a2 n2 c2]] w fun e w' => e = .returned (.string (fmtP fs rs)) ∧ Below w.heap.size w w' := by
  have hB0 := (Below.refl w.heap.size w).alloc (Nat.le_refl _) (.cells #[.slice a1 n1 c1, .slice a2 n2 c2] 42)
  go_enter Try.func11, Try.ntmps11
  go_wp2_with fail
  refine (projS_of hR a1 a2 n1 n2 c1 c2 fs rs _ ((hf.below hB0).more hB0.size) (hr.next hB0) hs hrf hn1 hn2 hz).mono ?_
  rintro e w1 ⟨rfl, hB1⟩
  have B1 := hB0.trans (hB1.mono hB0.size)
  have hP1 := (BxP.new w (.slice a1 n1 c1) (.slice a2 n2 c2) 42).next hB1
  obtain ⟨p0, p1, pf0, pf1, hpl⟩ := hP1.facts
  rcases Bool.eq_false_or_eq_true (projB fs rs) with hv | hv
  case inr =>
    rw [hv]
    go_wp2_with fail
    go_ret
    exact ⟨by unfold fmtP; rw [hv]; rfl, B1⟩
  rw [hv]
  obtain ⟨hfl, hrl, hls, hlr⟩ := proj_sizes hv
  have hfn := hf.1
  have hrn := hr.1
  have hPRE : ([112, 114, 111, 106, 101, 99, 116, 10] : List UInt8).length = 8 := rfl
  go_wp2_with fail
  go_loopw [3, 4] (fun v i wr => FsI w1 [112, 114, 111, 106, 101, 99, 116, 10] (fun j => (fs.take j).flatMap lineS) n1 v i wr) (fun _ i _ => n1 - (intOf i).toNat)
  case atStart => exact ⟨0, _, Nat.zero_le _, rfl, rfl, rfl, Below.refl _ _⟩
  case round =>
    obtain ⟨j, o, hj, rfl, rfl, ho, hB⟩ := hrel
    have Bw := B1.trans (hB.mono B1.size)
    obtain ⟨q0, q1, qf0, qf1, hql⟩ := (hP1.next hB).facts
    clear p0 p1 pf0 pf1 hpl
    have Ho := Lib.hid ho
    have hol : o.size = 8 + ((fs.take j).flatMap lineS).length := by
      have h1 : o.data.toList.length = o.size := by rw [Array.length_toList]; rfl
      rw [← h1, ho, List.length_append]; rfl
    clear ho
    have hacc : ((fs.take j).flatMap lineS).length ≤ 80 * 12 := by
      have := flat_len lineS 80 (fs.take j) fun x hx => hls x (List.mem_of_mem_take hx)
      simp only [List.length_take] at this
      have h2 : 80 * min j fs.length ≤ 80 * 12 := Nat.mul_le_mul_left _ (by omega)
      omega
    by_cases hlt : j < n1
    · obtain ⟨b, off, p, t, rfl, hb, hg, hc1, hc2⟩ := (hf.below Bw).get hlt
      have hjj : (j : Int) < (n1 : Int) := by omega
      have hj0 : (0 : Int) ≤ (j : Int) := by omega
      have hll := hls _ (List.mem_of_getElem? hg)
      have hllen : p.size + t.size + 9 ≤ 80 := by
        simp only [lineS, List.length_append, Array.length_toList, List.length_cons, List.length_nil] at hll
        have h1 : p.data.size = p.size := rfl
        have h2 : t.data.size = t.size := rfl
        omega
      have Hst := Lib.hid (flat_take lineS hg)
      have z0 : ({ data := #[115, 111, 117, 114, 99, 101, 32] } : ByteArray).size = 7 := rfl
      have z1 : ({ data := #[32] } : ByteArray).size = 1 := rfl
      have z2 : ({ data := #[10] } : ByteArray).size = 1 := rfl
      have e1 := fun W => run_string_add_sum (P := Try.prog) W o { data := #[115, 111, 117, 114, 99, 101, 32] } (by omega)
      have e2 := fun W => run_string_add_sum (P := Try.prog) W (o ++ { data := #[115, 111, 117, 114, 99, 101, 32] }) p (by simp only [ByteArray.size_append]; omega)
      have e3 := fun W => run_string_add_sum (P := Try.prog) W (o ++ { data := #[115, 111, 117, 114, 99, 101, 32] } ++ p) { data := #[32] } (by simp only [ByteArray.size_append]; omega)
      have e4 := fun W => run_string_add_sum (P := Try.prog) W (o ++ { data := #[115, 111, 117, 114, 99, 101, 32] } ++ p ++ { data := #[32] }) t (by simp only [ByteArray.size_append]; omega)
      have e5 := fun W => run_string_add_sum (P := Try.prog) W (o ++ { data := #[115, 111, 117, 114, 99, 101, 32] } ++ p ++ { data := #[32] } ++ t) { data := #[10] } (by simp only [ByteArray.size_append]; omega)
      clear hol z0 z1 z2 hg hacc hll hllen
      go_wp2_with fail
      go_quiet (fail)
      go_wp2_with fail
      go_roundw
      case rel => exact ⟨j + 1, _, by omega, by go_num, rfl, by show _ = _ ++ (fs.take (j + 1)).flatMap lineS; rw [Hst.out, ← List.append_assoc, ← Ho.out]; simp [lineS], below_drewN hB _⟩
      case measure => simp [intOf]; omega
    · have hjn : ¬ (j : Int) < (n1 : Int) := by omega
      have hall : (fs.take j).flatMap lineS = fs.flatMap lineS := by rw [List.take_of_length_le (by omega)]
      rw [hall] at hacc
      have Ho2 := Lib.hid (show o.data.toList = [112, 114, 111, 106, 101, 99, 116, 10] ++ fs.flatMap lineS from by rw [← hall]; exact Ho.out)
      clear hall Ho hol
      go_wp2_with fail
      go_loopw [3, 5] (fun v i wr => FsI w1 ([112, 114, 111, 106, 101, 99, 116, 10] ++ fs.flatMap lineS) (fun j => (rs.take j).flatMap lineR) n2 v i wr) (fun _ i _ => n2 - (intOf i).toNat)
      case atStart => exact ⟨0, _, Nat.zero_le _, rfl, rfl, by rw [Ho2.out]; simp, hB⟩
      case round =>
        obtain ⟨i, o2, hi, rfl, rfl, ho, hB2⟩ := hrel
        have Bw2 := B1.trans (hB2.mono B1.size)
        clear hB hql q0 q1 qf0 qf1
        obtain ⟨r0, r1, rf0, rf1, hrl2⟩ := (hP1.next hB2).facts
        have Ho := Lib.hid ho
        have hol : o2.size = 8 + (fs.flatMap lineS).length + ((rs.take i).flatMap lineR).length := by
          have h1 : o2.data.toList.length = o2.size := by rw [Array.length_toList]; rfl
          rw [← h1, ho, List.length_append, List.length_append]; rfl
        clear ho
        have hacc2 : ((rs.take i).flatMap lineR).length ≤ 1300 * 10 := by
          have := flat_len lineR 1300 (rs.take i) fun x hx => (hlr x (List.mem_of_mem_take hx)).1
          simp only [List.length_take] at this
          have h2 : 1300 * min i rs.length ≤ 1300 * 10 := Nat.mul_le_mul_left _ (by omega)
          omega
        by_cases hlt2 : i < n2
        · obtain ⟨b, off, t, k, s, ks, a', n', c', rfl, _, hb, hg, hc0, hc1, hc2, hc3, hcap, hks⟩ := (hr.next Bw2).get hlt2
          have hii : (i : Int) < (n2 : Int) := by omega
          have hi0 : (0 : Int) ≤ (i : Int) := by omega
          obtain ⟨hll, htl, hve⟩ : (lineR (t, k, s, ks)).length ≤ 1300 ∧ t.size ≤ 8 ∧ validE k s ks = true := hlr _ (List.mem_of_getElem? hg)
          have hfe : (fmtE k s ks).data.toList.length ≤ 1260 := fmtE_len hve
          obtain ⟨hg1, hg2, hg3⟩ : nodeB k s ks.len = true ∧ good ks = true ∧ _ := valid_good hve
          have hft : fmtE k s ks = ⟨(fm1 k s ks).toArray⟩ := by unfold fmtE; rw [if_pos hve]
          have hfe2 : (⟨(fm1 k s ks).toArray⟩ : ByteArray).size ≤ 1260 := by
            rw [hft] at hfe
            have h5 : (⟨(fm1 k s ks).toArray⟩ : ByteArray).data.toList.length = (⟨(fm1 k s ks).toArray⟩ : ByteArray).size := by rw [Array.length_toList]; rfl
            rw [← h5]; exact hfe
          have Hst := Lib.hid (flat_take lineR hg)
          have Hft := Lib.hid hft
          have hDr := (Below.refl wr.heap.size wr).drew
          have hkD := hks.next hDr
          have Hcall := Lib.hid (fun W (hk : KA W 0 W.heap.size ks a' n') => lf_all ks.size k s ks (Nat.le_refl _) a' n' c' W hk hg1 hg2 (by omega))
          have HC0 := Lib.hid (show (wr.drew).cell? ⟨w.heap.size, 0, none⟩ = some (.slice a1 n1 c1) ∧ (wr.drew).cell? ⟨w.heap.size, 1, none⟩ = some (.slice (some ⟨b, off, none⟩) n2 c2) ∧ (wr.drew).cell? ⟨b, off + i * 4, none⟩ = some (.string t) ∧ (wr.drew).cell? ⟨b, off + i * 4 + 1, none⟩ = some (.int .i64 k) ∧ (wr.drew).cell? ⟨b, off + i * 4 + 2, none⟩ = some (.string s) ∧ (wr.drew).cell? ⟨b, off + i * 4 + 3, none⟩ = some (.slice a' n' c') from ⟨r0, r1, hc0, hc1, hc2, hc3⟩)
          have hkeep := Lib.hid (fun W (hW : Below wr.drew.heap.size wr.drew W) => show W.cell? ⟨w.heap.size, 0, none⟩ = some (.slice a1 n1 c1) ∧ W.cell? ⟨w.heap.size, 1, none⟩ = some (.slice (some ⟨b, off, none⟩) n2 c2) ∧ W.cell? ⟨b, off + i * 4, none⟩ = some (.string t) ∧ W.cell? ⟨b, off + i * 4 + 1, none⟩ = some (.int .i64 k) ∧ W.cell? ⟨b, off + i * 4 + 2, none⟩ = some (.string s) ∧ W.cell? ⟨b, off + i * 4 + 3, none⟩ = some (.slice a' n' c') from ⟨(hW.cell (p := ⟨w.heap.size, 0, none⟩) hrl2).trans r0, (hW.cell (p := ⟨w.heap.size, 1, none⟩) hrl2).trans r1, (hW.cell (p := ⟨b, off + i * 4, none⟩) hb).trans hc0, (hW.cell (p := ⟨b, off + i * 4 + 1, none⟩) hb).trans hc1, (hW.cell (p := ⟨b, off + i * 4 + 2, none⟩) hb).trans hc2, (hW.cell (p := ⟨b, off + i * 4 + 3, none⟩) hb).trans hc3⟩)
          have z0 : ({ data := #[114, 117, 108, 101, 32] } : ByteArray).size = 5 := rfl
          have z1 : ({ data := #[32] } : ByteArray).size = 1 := rfl
          have z2 : ({ data := #[10] } : ByteArray).size = 1 := rfl
          generalize hyy : (⟨(fm1 k s ks).toArray⟩ : ByteArray) = y at *
          have Hyy := Lib.hid hyy
          clear hyy
          have e1 := fun W => run_string_add_sum (P := Try.prog) W o2 { data := #[114, 117, 108, 101, 32] } (by omega)
          have e2 := fun W => run_string_add_sum (P := Try.prog) W (o2 ++ { data := #[114, 117, 108, 101, 32] }) t (by simp only [ByteArray.size_append]; omega)
          have e3 := fun W => run_string_add_sum (P := Try.prog) W (o2 ++ { data := #[114, 117, 108, 101, 32] } ++ t) { data := #[32] } (by simp only [ByteArray.size_append]; omega)
          have e4 := fun W => run_string_add_sum (P := Try.prog) W (o2 ++ { data := #[114, 117, 108, 101, 32] } ++ t ++ { data := #[32] }) y (by simp only [ByteArray.size_append]; omega)
          have e5 := fun W => run_string_add_sum (P := Try.prog) W (o2 ++ { data := #[114, 117, 108, 101, 32] } ++ t ++ { data := #[32] } ++ y) { data := #[10] } (by simp only [ByteArray.size_append]; omega)
          clear hol z0 z1 z2 hg hacc2 hll hve hfe hft hfe2 hc0 hc1 hc2 hc3
          go_wp2_with fail
          go_region_held3 (fun w' => w'.cell? ⟨w.heap.size, 0, none⟩ = some (.slice a1 n1 c1) ∧ w'.cell? ⟨w.heap.size, 1, none⟩ = some (.slice (some ⟨b, off, none⟩) n2 c2) ∧ w'.cell? ⟨b, off + i * 4, none⟩ = some (.string t) ∧ w'.cell? ⟨b, off + i * 4 + 1, none⟩ = some (.int .i64 k) ∧ w'.cell? ⟨b, off + i * 4 + 2, none⟩ = some (.string s) ∧ w'.cell? ⟨b, off + i * 4 + 3, none⟩ = some (.slice a' n' c')) (first | exact HC0.out | exact HC1.out)
            ((first
              | (go_at_call 17; refine (Hcall.out _ hkD).mono ?_; rintro e v1 ⟨rfl, hC1⟩; have HC1 := Lib.hid (hkeep.out _ hC1); have B3 := hDr.trans (hC1.mono hDr.size))))
          all_goals
            go_wp2_with fail
            refine ⟨⟨i + 1, _, by omega, by go_num, rfl, ?_, hB2.trans (B3.mono hB2.size)⟩, by simp [intOf]; omega⟩
            show _ = _ ++ (rs.take (i + 1)).flatMap lineR
            rw [Hst.out, ← List.append_assoc, ← Ho.out]
            simp [lineR, Hft.out, ← Hyy.out]
        · have hin : ¬ (i : Int) < (n2 : Int) := by omega
          have hall : (rs.take i).flatMap lineR = rs.flatMap lineR := by rw [List.take_of_length_le (by omega)]
          have Ho3 := Lib.hid (show o2.data.toList = [112, 114, 111, 106, 101, 99, 116, 10] ++ fs.flatMap lineS ++ rs.flatMap lineR from by rw [← hall]; exact Ho.out)
          clear hall hol
          go_wp2_with fail
          go_ret
          refine ⟨?_, Bw2⟩
          refine ret_str (byt ?_)
          unfold fmtP
          rw [if_pos hv, Ho3.out]
          unfold linesP
          simp
end Go.Proofs.Ytpaibnfmokgebaa
