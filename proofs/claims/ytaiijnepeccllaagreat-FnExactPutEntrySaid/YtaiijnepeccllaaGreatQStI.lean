/-
  The program's StoreValid.
-/
import Derived.Test.YtaiijnepeccllaaGreatQStM
import Derived.Deep.DeepCutAuto
import Derived.Deep.QuietTactic
import Derived.BigQuiet
import Derived.IntWalk
namespace Go.Proofs.YtaiijnepeccllaaGreat
set_option linter.unusedVariables false
set_option linter.unusedSimpArgs false
open Go.RowKit

set_option maxRecDepth 100000 in
set_option maxHeartbeats 4000000 in
theorem storeI_any (pb : ByteArray → Bool) (hpb : ∀ s, IsP s.data.toList (pb s)) (es : List En) (a : Option Addr) (n c : Nat) (w : World) (hf : EnAt w 0 w.heap.size es a n) (hfit : EnFits es) (hn : n ≤ maxLen) (hbz : ∀ x ∈ es, x.2.1.size ≤ 1048576) :
    Calls Tryz.prog 24 #[.slice a n c] w fun e w' => e = .returned (.bool (stB pb es)) ∧ Below w.heap.size w w' := by
  unfold maxLen at hn
  have hlen := Lib.hid hf.1
  have Hpb := Lib.hid hpb
  have Hbz := Lib.hid hbz
  clear hpb hbz
  by_cases h20 : n ≤ 20
  case neg =>
    have h21 : (20 : Int) < (n : Int) := by omega
    go_enter Tryz.func24, Tryz.ntmps24
    go_wp2_with fail
    go_ret
    exact ⟨ret_bool (by unfold stB; rw [hlen.out, decide_eq_false h20, Bool.and_false]), Below.refl _ _⟩
  have h21 : ¬ (20 : Int) < (n : Int) := by omega
  go_enter Tryz.func24, Tryz.ntmps24
  go_wp2_with fail
  go_loopw [10] (fun i wr => ∃ j : Nat, j ≤ n ∧ i = .int .i64 j ∧ (List.range j).all (stOk pb es) = true ∧ Below w.heap.size w wr) (fun i _ => n - (intOf i).toNat)
  case atStart => exact ⟨0, Nat.zero_le _, rfl, rfl, Below.refl _ _⟩
  case round =>
    obtain ⟨j, hj, rfl, hok, hB⟩ := hrel
    have Hok := Lib.hid hok
    clear hok
    by_cases hlt : j < n
    · obtain ⟨b, off, t, s, fs, x, a', n', c', rfl, _, hb, hg, hc0, hc1, hc2, hc3, hcap, hks⟩ := (hf.below hB).get hlt
      have hxf := hfit.get hg
      have hsz := Hbz.out _ (List.mem_of_getElem? hg)
      simp only at hsz
      have hkl := hks.1
      subst hkl
      have Hg := Lib.hid hg
      have Hx := Lib.hid (And.intro hxf hcap)
      have Hks := Lib.hid hks
      have hwb := hB.size
      have hbw : b < wr.heap.size := by omega
      have hAl := (Below.refl wr.heap.size wr).alloc (Nat.le_refl _) (.cells #[.string t, .string s, .slice a' fs.length c', .string x] 26)
      have hbx := BxN.new wr t s (.slice a' fs.length c') x 26
      have hBl := hB.trans (hAl.mono hB.size)
      clear hxf hcap hks hg
      cases j with
      | zero =>
        have Hasc := Lib.hid (show ascE es 0 = true from rfl)
        have hd : decide ((0 : Int) < 0) = false := rfl
        rw [Nat.zero_mul, Nat.add_zero] at hc0 hc1 hc2 hc3
        go_upto_region 6 with (fail)
        generalize wr.alloc (.cells #[.string t, .string s, .slice a' fs.length c', .string x] 26) = V at *
        have Hbx := Lib.hid hbx
        obtain ⟨x0, x1, x2, x3, xf0, xf1, xf2, xf3, xl⟩ := hbx.facts
        have HBl := Lib.hid hBl
        have HAl := Lib.hid hAl
        clear hAl hBl hbx
        go_wp2_with fail
        go_quiet (fail)
        go_wp2_with fail
        have hBn : Below w.heap.size w (V.drewN nq) := below_drewN HBl.out nq
        have hbn : BxN (V.drewN nq) wr.heap.size t s (.slice a' fs.length c') x 26 := Hbx.out
        have hAn : Below wr.heap.size wr (V.drewN nq) := below_drewN HAl.out nq
        refine (entryI_any t s fs x a' fs.length c' (pb s) (V.drewN nq) (((Hks.out.more (Nat.zero_le _) hwb).files.below hAn).more hAn.size) Hx.out.1 hsz Hx.out.2 (Hpb.out s)).mono ?_
        rintro e w2 ⟨rfl, hB2⟩
        have hB3 := hBn.trans (hB2.mono hBn.size)
        obtain ⟨r, hr⟩ : ∃ r, enB (pb s) (t, s, fs, x) = r := ⟨_, rfl⟩
        have Hr := Lib.hid hr
        rw [hr]
        clear hr
        cases r with
        | false =>
          go_wp2_with fail
          go_ret
          exact ⟨ret_bool (stB_false hlen.out hlt (by rw [stOk_eq Hg.out Hasc.out, Hr.out]; rfl)).symm, hB3⟩
        | true =>
          go_wp2_with fail
          go_roundw
          case rel => exact ⟨0 + 1, by omega, by go_num, enAll_step Hok.out (by rw [stOk_eq Hg.out Hasc.out, Hr.out]; rfl), hB3⟩
          case measure => simp [intOf]; omega
      | succ j =>
        obtain ⟨b2, off2, t2, s2, fs2, x2', a2', n2', c2', he, _, _, hq, hq0, _⟩ := (hf.below hB).get (j := j) (by omega)
        simp only [Option.some.injEq, Addr.mk.injEq, and_true] at he
        obtain ⟨rfl, rfl⟩ := he
        have hp0 : (0 : Int) < ((j + 1 : Nat) : Int) := by omega
        have hasc := ascE_succ hq Hg.out
        simp only at hasc
        have hq0 := (hAl.cell (p := ⟨b, off + j * 4, none⟩) hbw).trans hq0
        clear hq
        go_upto_region 6 with (fail)
        generalize wr.alloc (.cells #[.string t, .string s, .slice a' fs.length c', .string x] 26) = V at *
        have Hbx := Lib.hid hbx
        obtain ⟨x0, x1, x2, x3, xf0, xf1, xf2, xf3, xl⟩ := hbx.facts
        have HBl := Lib.hid hBl
        have HAl := Lib.hid hAl
        clear hAl hBl hbx
        cases hl : Op.bytesLess t2.toList t.toList with
        | false =>
          have Hasc := Lib.hid (hasc.trans hl)
          clear hasc
          go_wp2_with fail
          go_quiet (fail)
          go_wp2_with fail
          go_ret
          exact ⟨ret_bool (stB_false hlen.out hlt (by rw [stOk_eq Hg.out Hasc.out, Bool.false_and])).symm, below_drewN HBl.out _⟩
        | true =>
          have Hasc := Lib.hid (hasc.trans hl)
          clear hasc
          go_wp2_with fail
          go_quiet (fail)
          go_wp2_with fail
          have hBn : Below w.heap.size w (V.drewN nq) := below_drewN HBl.out nq
          have hbn : BxN (V.drewN nq) wr.heap.size t s (.slice a' fs.length c') x 26 := Hbx.out
          have hAn : Below wr.heap.size wr (V.drewN nq) := below_drewN HAl.out nq
          refine (entryI_any t s fs x a' fs.length c' (pb s) (V.drewN nq) (((Hks.out.more (Nat.zero_le _) hwb).files.below hAn).more hAn.size) Hx.out.1 hsz Hx.out.2 (Hpb.out s)).mono ?_
          rintro e w2 ⟨rfl, hB2⟩
          have hB3 := hBn.trans (hB2.mono hBn.size)
          obtain ⟨r, hr⟩ : ∃ r, enB (pb s) (t, s, fs, x) = r := ⟨_, rfl⟩
          have Hr := Lib.hid hr
          rw [hr]
          clear hr
          cases r with
          | false =>
            go_wp2_with fail
            go_ret
            exact ⟨ret_bool (stB_false hlen.out hlt (by rw [stOk_eq Hg.out Hasc.out, Hr.out]; rfl)).symm, hB3⟩
          | true =>
            go_wp2_with fail
            go_roundw
            case rel => exact ⟨(j + 1) + 1, by omega, by go_num, enAll_step Hok.out (by rw [stOk_eq Hg.out Hasc.out, Hr.out]; rfl), hB3⟩
            case measure => simp [intOf]; omega
    · have e : j = n := by omega
      subst e
      go_wp2_with fail
      go_ret
      exact ⟨ret_bool (by unfold stB; rw [hlen.out, Hok.out, Bool.true_and, decide_eq_true h20]), hB⟩
end Go.Proofs.YtaiijnepeccllaaGreat
