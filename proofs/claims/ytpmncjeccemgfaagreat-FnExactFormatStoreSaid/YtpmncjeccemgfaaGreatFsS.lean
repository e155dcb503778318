/-
  The reference's FormatStore.
-/
import Derived.Test.YtpmncjeccemgfaaGreatFsI
import Derived.Test.YtpmncjeccemgfaaGreatStS
import Derived.Test.YtpmncjeccemgfaaGreatEnBx
import Derived.Laws.Concat
import Derived.Deep.DeepCutAuto
import Derived.Deep.QuietTactic
import Derived.BigQuiet
import Derived.IntWalk
namespace Go.Proofs.YtpmncjeccemgfaaGreat
set_option linter.unusedVariables false
set_option linter.unusedSimpArgs false
open Go.RowKit

/-- between two rounds of FormatStore -/
def FsO (w1 : World) (es : List En) (n : Nat) (v i : Value) (wr : World) : Prop := ∃ (j : Nat) (out : ByteArray), j ≤ n ∧ i = .int .i64 j ∧ v = .string out ∧ out.data.toList = (es.take j).flatMap textE ∧ Below w1.heap.size w1 wr
/-- between two of its reads' rounds -/
def FsR (V : World) (pre : List UInt8) (fs : List Fl) (n : Nat) (v i : Value) (wr : World) : Prop := ∃ (j : Nat) (out : ByteArray), j ≤ n ∧ i = .int .i64 j ∧ v = .string out ∧ out.data.toList = pre ++ (fs.take j).flatMap lineRd ∧ Below V.heap.size V wr

set_option maxRecDepth 100000 in
set_option maxHeartbeats 8000000 in
theorem fmtSS_any (pb : ByteArray → Bool) (hpb : ∀ s, IsP s.data.toList (pb s)) (es : List En) (a : Option Addr) (n c : Nat) (w : World) (hf : EnAt w 0 w.heap.size es a n) (hfit : EnFits es) (hn : n ≤ maxLen) (hz : es.length + enTot es ≤ 1048576) :
    Calls Tryz.prog 5 #[.slice a n c] w fun e w' => e = .returned (.string (fmtSt pb es)) ∧ Below w.heap.size w w' := by
  have hbz : ∀ x ∈ es, x.2.1.size ≤ 1048576 := by
    intro x hx
    obtain ⟨j, hj⟩ := List.mem_iff_getElem?.1 hx
    have := enTot_get hj
    simp only [enSz] at this
    omega
  have hts := textS_len es
  have hlen := Lib.hid hf.1
  unfold maxLen at hn
  go_enter Tryz.func5, Tryz.ntmps5
  go_wp2_with fail
  refine (storeS_any pb hpb es a n c w hf hfit (by unfold maxLen; omega) hbz).mono ?_
  rintro e w1 ⟨rfl, B1⟩
  rcases Bool.eq_false_or_eq_true (stB pb es) with hv | hv
  case inr =>
    rw [hv]
    go_wp2_with fail
    go_ret
    exact ⟨by unfold fmtSt; rw [hv]; rfl, B1⟩
  rw [hv]
  have Hv := Lib.hid hv
  clear hpb hbz hv
  go_wp2_with fail
  go_loopw [3, 4] (fun v i wr => FsO w1 es n v i wr) (fun _ i _ => n - (intOf i).toNat)
  case atStart => exact ⟨0, _, Nat.zero_le _, rfl, rfl, rfl, Below.refl _ _⟩
  case round =>
    obtain ⟨j, o, hj, rfl, rfl, ho, hB⟩ := hrel
    have Bw := B1.trans (hB.mono B1.size)
    have Ho := Lib.hid ho
    have hol : o.size ≤ 16 * (es.length + enTot es) := by
      have h1 := flatE_le textE es j
      rw [← blen o, ho]
      omega
    clear ho
    by_cases hlt : j < n
    · obtain ⟨b, off, t, s, fs, x, a', n', c', rfl, _, hb, hg, hc0, hc1, hc2, hc3, hcap, hks⟩ := (hf.next Bw).get hlt
      have hjj : (j : Int) < (n : Int) := by omega
      have hj0 : (0 : Int) ≤ (j : Int) := by omega
      have hkl := hks.1
      subst hkl
      have hsz := enTot_get hg
      simp only [enSz] at hsz
      have Hst := Lib.hid (flatE_take textE hg)
      have hrl := reads_len fs
      have hAl := (Below.refl wr.heap.size wr).alloc (Nat.le_refl _) (.cells #[.string t, .string s, .slice a' fs.length c', .string x] 36)
      have hbx := BxN.new wr t s (.slice a' fs.length c') x 36
      have hkV := (hks.files.below hAl).more hAl.size
      have BV := hB.trans (hAl.mono hB.size)
      have hlc : fs.length ≤ c' := hcap
      clear hg hks
      have z0 : ({ data := #[101, 110, 116, 114, 121, 32] } : ByteArray).size = 6 := rfl
      have z1 : ({ data := #[32] } : ByteArray).size = 1 := rfl
      have z2 : ({ data := #[10] } : ByteArray).size = 1 := rfl
      have e1 := fun W => run_string_add_sum (P := Tryz.prog) W o { data := #[101, 110, 116, 114, 121, 32] } (by omega)
      have e2 := fun W => run_string_add_sum (P := Tryz.prog) W (o ++ { data := #[101, 110, 116, 114, 121, 32] }) t (by simp only [ByteArray.size_append]; omega)
      have e3 := fun W => run_string_add_sum (P := Tryz.prog) W (o ++ { data := #[101, 110, 116, 114, 121, 32] } ++ t) { data := #[32] } (by simp only [ByteArray.size_append]; omega)
      have e4 := fun W => run_string_add_sum (P := Tryz.prog) W (o ++ { data := #[101, 110, 116, 114, 121, 32] } ++ t ++ { data := #[32] }) s (by simp only [ByteArray.size_append]; omega)
      have e5 := fun W => run_string_add_sum (P := Tryz.prog) W (o ++ { data := #[101, 110, 116, 114, 121, 32] } ++ t ++ { data := #[32] } ++ s) { data := #[10] } (by simp only [ByteArray.size_append]; omega)
      obtain ⟨o2, ho2⟩ : ∃ o2, o ++ { data := #[101, 110, 116, 114, 121, 32] } ++ t ++ { data := #[32] } ++ s ++ { data := #[10] } = o2 := ⟨_, rfl⟩
      have hol2 : o2.size = o.size + t.size + s.size + 8 := by rw [← ho2]; simp only [ByteArray.size_append]; omega
      have Ho2 := Lib.hid (show o2.data.toList = (es.take j).flatMap textE ++ lineE t s by rw [← ho2, ← Ho.out]; simp [lineE])
      rw [ho2] at e5
      go_upto_region 8 with (fail)
      generalize wr.alloc (.cells #[.string t, .string s, .slice a' fs.length c', .string x] 36) = V at *
      obtain ⟨x0, x1, x2, x3, xf0, xf1, xf2, xf3, xl⟩ := hbx.facts
      have Hbx := Lib.hid hbx
      have HBV := Lib.hid BV
      have HkV := Lib.hid hkV
      clear hbx BV hkV hAl
      go_wp2_with fail
      clear z0 z1 z2 e1 e2 e3 e4 e5
      go_loopw [3, 6] (fun v i wr => FsR V ((es.take j).flatMap textE ++ lineE t s) fs fs.length v i wr) (fun _ i _ => fs.length - (intOf i).toNat)
      case atStart => exact ⟨0, _, Nat.zero_le _, rfl, rfl, by rw [Ho2.out]; simp, Below.refl _ _⟩
      case round =>
        obtain ⟨i, p3, hi, rfl, rfl, ho3, hB3⟩ := hrel
        have Ho3 := Lib.hid ho3
        have hol3 : p3.size ≤ o2.size + 8 * (fs.length + tot fs) := by
          have h1 := flatE_le lineRd fs i
          have h2 := congrArg List.length Ho2.out
          rw [blen] at h2
          rw [← blen p3, ho3, List.length_append]
          omega
        clear ho3 x0 x1 x2 x3 xf0 xf1 xf2 xf3
        obtain ⟨x0, x1, x2, x3, xf0, xf1, xf2, xf3, xl3⟩ := (Hbx.out.next hB3).facts
        have B3 := HBV.out.trans (hB3.mono HBV.out.size)
        have BF := B1.trans (B3.mono B1.size)
        by_cases hlt3 : i < fs.length
        · obtain ⟨b3, off3, p, q, rfl, hb3, hg3, hd0, hd1⟩ := (HkV.out.below hB3).get hlt3
          have hii : (i : Int) < (fs.length : Int) := by omega
          have hi0 : (0 : Int) ≤ (i : Int) := by omega
          have hsz3 := tot_get hg3
          have Hst3 := Lib.hid (flatE_take lineRd hg3)
          clear hg3
          have z0 : ({ data := #[114, 101, 97, 100, 32] } : ByteArray).size = 5 := rfl
          have z1 : ({ data := #[32] } : ByteArray).size = 1 := rfl
          have z2 : ({ data := #[10] } : ByteArray).size = 1 := rfl
          have e1 := fun W => run_string_add_sum (P := Tryz.prog) W p3 { data := #[114, 101, 97, 100, 32] } (by omega)
          have e2 := fun W => run_string_add_sum (P := Tryz.prog) W (p3 ++ { data := #[114, 101, 97, 100, 32] }) p (by simp only [ByteArray.size_append]; omega)
          have e3 := fun W => run_string_add_sum (P := Tryz.prog) W (p3 ++ { data := #[114, 101, 97, 100, 32] } ++ p) { data := #[32] } (by simp only [ByteArray.size_append]; omega)
          have e4 := fun W => run_string_add_sum (P := Tryz.prog) W (p3 ++ { data := #[114, 101, 97, 100, 32] } ++ p ++ { data := #[32] }) q (by simp only [ByteArray.size_append]; omega)
          have e5 := fun W => run_string_add_sum (P := Tryz.prog) W (p3 ++ { data := #[114, 101, 97, 100, 32] } ++ p ++ { data := #[32] } ++ q) { data := #[10] } (by simp only [ByteArray.size_append]; omega)
          clear z0 z1 z2 hol3 hsz3
          go_wp2_with fail
          go_quiet (fail)
          go_wp2_with fail
          go_roundw
          case rel => exact ⟨i + 1, _, by omega, by go_num, rfl, by rw [Hst3.out, ← List.append_assoc, ← Ho3.out]; simp [lineRd], below_drewN hB3 _⟩
          case measure => simp [intOf]; omega
        · have hin : ¬ (i : Int) < (fs.length : Int) := by omega
          have hall : (fs.take i).flatMap lineRd = fs.flatMap lineRd := by rw [List.take_of_length_le (by omega)]
          have z0 : ({ data := #[116, 101, 120, 116, 32] } : ByteArray).size = 5 := rfl
          have z2 : ({ data := #[10] } : ByteArray).size = 1 := rfl
          have e1 := fun W => run_string_add_sum (P := Tryz.prog) W p3 { data := #[116, 101, 120, 116, 32] } (by omega)
          have e2 := fun W => run_string_add_sum (P := Tryz.prog) W (p3 ++ { data := #[116, 101, 120, 116, 32] }) x (by simp only [ByteArray.size_append]; omega)
          have e3 := fun W => run_string_add_sum (P := Tryz.prog) W (p3 ++ { data := #[116, 101, 120, 116, 32] } ++ x) { data := #[10] } (by simp only [ByteArray.size_append]; omega)
          have Hend := Lib.hid (show (p3 ++ { data := #[116, 101, 120, 116, 32] } ++ x ++ { data := #[10] } : ByteArray).data.toList = (es.take (j + 1)).flatMap textE by
            rw [Hst.out]
            simp only [textE]
            rw [← hall, ← List.append_assoc, ← List.append_assoc, ← Ho3.out]
            simp [lineX])
          clear z0 z2 hol3
          go_wp2_with fail
          go_roundw
          case rel => exact ⟨j + 1, _, by omega, by go_num, rfl, Hend.out, B3⟩
          case measure => simp [intOf]; omega
    · have hjn : ¬ (j : Int) < (n : Int) := by omega
      have hall : (es.take j).flatMap textE = es.flatMap textE := by rw [List.take_of_length_le (by have := hlen.out; omega)]
      have Ho2 := Lib.hid (show o.data.toList = es.flatMap textE from by rw [← hall]; exact Ho.out)
      clear hall
      go_wp2_with fail
      go_ret
      refine ⟨ret_str (byt ?_), Bw⟩
      unfold fmtSt
      rw [if_pos Hv.out, Ho2.out]
end Go.Proofs.YtpmncjeccemgfaaGreat
