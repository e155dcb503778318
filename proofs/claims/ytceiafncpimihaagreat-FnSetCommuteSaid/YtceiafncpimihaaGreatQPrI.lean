/-
  The program's ProjectValid.
-/
import Derived.Test.YtceiafncpimihaaGreatGone
import Derived.Test.YtceiafncpimihaaGreatQConv
import Derived.Test.YtceiafncpimihaaGreatQFValid
import Derived.Test.YtceiafncpimihaaGreatQStr
import Derived.Deep.RegionHeld3
namespace Go.Proofs.YtceiafncpimihaaGreat
set_option linter.unusedVariables false
set_option linter.unusedSimpArgs false
open Go.RowKit

/-- a rule's tests, as the program makes them -/
def okP (fs : List Fl) (rs : List Ru) (j : Nat) : Bool := (ascAt rs j && bodyAt rs j) && freeAt fs rs j
theorem okP_eq {fs : List Fl} {rs : List Ru} {j : Nat} {t s : ByteArray} {k : Int} {ks : Fo} {x : Bool} (hg : rs[j]? = some (t, k, s, ks)) (ha : ascAt rs j = x) : okP fs rs j = ((x && (pathB t && validE k s ks)) && !(findF fs t).2) := by
  unfold okP bodyAt freeAt
  rw [ha, ruGet_of hg]
/-- between two rounds of ProjectValid -/
def PrIn (fs : List Fl) (rs : List Ru) (n : Nat) (w : World) (i : Value) (wr : World) : Prop := ∃ j : Nat, j ≤ n ∧ i = .int .i64 j ∧ allTo (okP fs rs) j = true ∧ Below w.heap.size w wr

set_option maxRecDepth 100000 in
set_option maxHeartbeats 2000000 in
theorem projI_any (a1 a2 : Option Addr) (n1 n2 c1 c2 : Nat) (fs : List Fl) (rs : List Ru) (w : World) (hf : FilesAt w w.heap.size a1 n1 fs) (hr : RuAt w 0 w.heap.size rs a2 n2) (hs : Fits fs) (hrf : RuFits rs) (hn1 : n1 ≤ maxLen) (hn2 : n2 ≤ maxLen) :
    Calls Tryz.prog 13 #[.agg #[.slice a1 n1 c1, .slice a2 n2 c2]] w fun e w' => e = .returned (.bool (projB fs rs)) ∧ Below w.heap.size w w' := by
  rw [projB_each, show (fun j => (ascAt rs j && bodyAt rs j) && freeAt fs rs j) = okP fs rs from rfl]
  have hB0 := (Below.refl w.heap.size w).alloc (Nat.le_refl _) (.cells #[.slice a1 n1 c1, .slice a2 n2 c2] 26)
  have hbx := heap_alloc_new w (.cells #[.slice a1 n1 c1, .slice a2 n2 c2] 26)
  have hf0 := (hf.below hB0).more hB0.size
  have hr0 := hr.next hB0
  go_enter Tryz.func13, Tryz.ntmps13
  go_wp2_with fail
  refine (validI_any a1 n1 c1 fs _ hf0 hs hn1).mono ?_
  rintro e w1 ⟨rfl, hB1⟩
  have B1 := hB0.trans (hB1.mono hB0.size)
  have hb1 := (hB1.block w.heap.size (by simp)).trans hbx
  have p0 : w1.cell? ⟨w.heap.size, 0, none⟩ = some (.slice a1 n1 c1) := by rw [cell_of_row _ _ _ _ _ _ hb1]; rfl
  have p1 : w1.cell? ⟨w.heap.size, 1, none⟩ = some (.slice a2 n2 c2) := by rw [cell_of_row _ _ _ _ _ _ hb1]; rfl
  have hl1 := blk_lt hb1
  have hlen := hr.1
  have hn2' := hn2
  unfold maxLen at hn2
  rcases Bool.eq_false_or_eq_true (validB fs) with hv | hv
  · rw [hv]
    by_cases h10 : 10 < n2
    · have h10' : (10 : Int) < (n2 : Int) := by omega
      go_wp2_with fail
      go_ret
      exact ⟨ret_bool (by rw [decide_eq_false (by omega), Bool.and_false]; rfl), B1⟩
    · have h10' : ¬ (10 : Int) < (n2 : Int) := by omega
      go_wp2_with fail
      go_loopw [20] (fun i wr => PrIn fs rs n2 w1 i wr) (fun i _ => n2 - (intOf i).toNat)
      case atStart => exact ⟨0, Nat.zero_le _, rfl, rfl, Below.refl _ _⟩
      case round =>
        obtain ⟨j, hj, rfl, hok, hB⟩ := hrel
        have Hok := Lib.hid hok
        clear hok
        have hbr := (hB.block w.heap.size hl1).trans hb1
        have q0 : wr.cell? ⟨w.heap.size, 0, none⟩ = some (.slice a1 n1 c1) := by rw [cell_of_row _ _ _ _ _ _ hbr]; rfl
        have q1 : wr.cell? ⟨w.heap.size, 1, none⟩ = some (.slice a2 n2 c2) := by rw [cell_of_row _ _ _ _ _ _ hbr]; rfl
        have hlr := blk_lt hbr
        have Bw := B1.trans (hB.mono B1.size)
        have hfw := (hf.below Bw).more Bw.size
        have hrw := hr.next Bw
        by_cases hlt : j < n2
        · obtain ⟨b, off, t, k, s, ks, a', n', c', rfl, _, hb, hg, hc0, hc1, hc2, hc3, hcap, hks⟩ := hrw.get hlt
          have hjj : (j : Int) < (n2 : Int) := by omega
          have hj0 : (0 : Int) ≤ (j : Int) := by omega
          have hfit := hrf.get hg
          have Hg := Lib.hid hg
          clear hg
          cases j with
          | zero =>
            have Hasc := Lib.hid (show ascAt rs 0 = true from rfl)
            rw [Nat.zero_mul, Nat.add_zero] at hc0 hc1 hc2 hc3
            have hd : decide ((0 : Int) < 0) = false := rfl
            go_wp2_with fail
            go_quiet (fail)
            go_wp2_with fail
            have hBW : Below wr.heap.size wr ((wr.alloc (.cells #[.string t, .int .i64 k, .string s, .slice a' n' c'] 45)).drewN nq) := below_drewN ((Below.refl wr.heap.size wr).alloc (Nat.le_refl _) (.cells #[.string t, .int .i64 k, .string s, .slice a' n' c'] 45)) nq
            have hbR : BxR ((wr.alloc (.cells #[.string t, .int .i64 k, .string s, .slice a' n' c'] 45)).drewN nq) wr.heap.size t k s (.slice a' n' c') 45 := BxR.new wr t k s (.slice a' n' c') 45
            have hBW1 : Below w1.heap.size w1 ((wr.alloc (.cells #[.string t, .int .i64 k, .string s, .slice a' n' c'] 45)).drewN nq) := hB.trans (hBW.mono hB.size)
            generalize (wr.alloc (.cells #[.string t, .int .i64 k, .string s, .slice a' n' c'] 45)).drewN nq = W at *
            have BW := B1.trans (hBW1.mono B1.size)
            have hkW := hks.next hBW
            refine (findI_any a1 n1 c1 fs t W ((hf.below BW).more BW.size) hn1).mono ?_
            rintro e w2 ⟨rfl, hB2⟩
            have B2 := BW.trans (hB2.mono BW.size)
            have hB12 := hBW1.trans (hB2.mono hBW1.size)
            have hk2 := hkW.next hB2
            obtain ⟨x0, x1, x2, x3, y0, y1, y2, y3, hxl⟩ := (hbR.next hB2).facts
            have hkn := hks.1
            cases hfd : (findF fs t).2 with
            | true =>
              go_wp2_with fail
              go_ret
              exact ⟨ret_bool (by rw [allTo_false (n := rs.length) (k := 0) (by omega) (by rw [okP_eq Hg.out Hasc.out, hfd]; simp), Bool.and_false]), B2⟩
            | false =>
              go_wp2_with fail
              cases hp : pathB t with
              | false =>
                refine (pathI_is t _ hfit.1 hp).mono ?_
                rintro e w3 ⟨rfl, rfl⟩
                go_wp2_with fail
                go_ret
                exact ⟨ret_bool (by rw [allTo_false (n := rs.length) (k := 0) (by omega) (by rw [okP_eq Hg.out Hasc.out, hp]; simp), Bool.and_false]), B2⟩
              | true =>
                refine (pathI_is t _ hfit.1 hp).mono ?_
                rintro e w3 ⟨rfl, rfl⟩
                go_wp2_with fail
                refine (validI_expr k s ks a' n' c' _ hk2 hfit.2.1 hfit.2.2.2 (by rw [← hkn]; exact hfit.2.2.1)).mono ?_
                rintro e w4 ⟨rfl, hB4⟩
                have B4 := B2.trans (hB4.mono B2.size)
                cases hve : validE k s ks with
                | false =>
                  go_wp2_with fail
                  go_ret
                  exact ⟨ret_bool (by rw [allTo_false (n := rs.length) (k := 0) (by omega) (by rw [okP_eq Hg.out Hasc.out, hve]; simp), Bool.and_false]), B4⟩
                | true =>
                  have Hst := Lib.hid (allTo_step Hok.out (show okP fs rs 0 = true by rw [okP_eq Hg.out Hasc.out, hp, hve, hfd]; rfl))
                  go_wp2_with fail
                  go_roundw
                  case rel => exact ⟨0 + 1, by omega, by go_num, Hst.out, hB12.trans (hB4.mono hB12.size)⟩
                  case measure => simp [intOf]; omega
          | succ j =>
            obtain ⟨b2, off2, t2, k2, s2, ks2, a2', n2', c2', he, _, _, hq, hq0, _⟩ := hrw.get (j := j) (by omega)
            simp only [Option.some.injEq, Addr.mk.injEq, and_true] at he
            obtain ⟨rfl, rfl⟩ := he
            have hp0 : (0 : Int) < ((j + 1 : Nat) : Int) := by omega
            have hasc : ascAt rs (j + 1) = Op.bytesLess t2.toList t.toList := by
              unfold ascAt
              rw [show j + 1 - 1 = j from rfl, ruGet_of hq, ruGet_of Hg.out]
              rfl
            have hq0' : ∀ o : Obj, (wr.alloc o).cell? ⟨b, off + j * 4, none⟩ = some (.string t2) := fun o => (World.cell?_alloc_lt wr o ⟨b, off + j * 4, none⟩ (by omega)).trans hq0
            cases hl : Op.bytesLess t2.toList t.toList with
            | false =>
              have Hasc := Lib.hid (hasc.trans hl)
              go_wp2_with fail
              go_quiet (fail)
              go_wp2_with fail
              go_ret
              exact ⟨ret_bool (by rw [allTo_false (n := rs.length) (k := j + 1) (by omega) (by rw [okP_eq Hg.out Hasc.out]; simp), Bool.and_false]), below_drewN (Bw.alloc Bw.size _) _⟩
            | true =>
              have Hasc := Lib.hid (hasc.trans hl)
              clear hasc
              go_wp2_with fail
              go_quiet (fail)
              go_wp2_with fail
              have hBW : Below wr.heap.size wr ((wr.alloc (.cells #[.string t, .int .i64 k, .string s, .slice a' n' c'] 45)).drewN nq) := below_drewN ((Below.refl wr.heap.size wr).alloc (Nat.le_refl _) (.cells #[.string t, .int .i64 k, .string s, .slice a' n' c'] 45)) nq
              have hbR : BxR ((wr.alloc (.cells #[.string t, .int .i64 k, .string s, .slice a' n' c'] 45)).drewN nq) wr.heap.size t k s (.slice a' n' c') 45 := BxR.new wr t k s (.slice a' n' c') 45
              have hBW1 : Below w1.heap.size w1 ((wr.alloc (.cells #[.string t, .int .i64 k, .string s, .slice a' n' c'] 45)).drewN nq) := hB.trans (hBW.mono hB.size)
              generalize (wr.alloc (.cells #[.string t, .int .i64 k, .string s, .slice a' n' c'] 45)).drewN nq = W at *
              have BW := B1.trans (hBW1.mono B1.size)
              have hkW := hks.next hBW
              refine (findI_any a1 n1 c1 fs t W ((hf.below BW).more BW.size) hn1).mono ?_
              rintro e w2 ⟨rfl, hB2⟩
              have B2 := BW.trans (hB2.mono BW.size)
              have hB12 := hBW1.trans (hB2.mono hBW1.size)
              have hk2 := hkW.next hB2
              obtain ⟨x0, x1, x2, x3, y0, y1, y2, y3, hxl⟩ := (hbR.next hB2).facts
              have hkn := hks.1
              cases hfd : (findF fs t).2 with
              | true =>
                go_wp2_with fail
                go_ret
                exact ⟨ret_bool (by rw [allTo_false (n := rs.length) (k := j + 1) (by omega) (by rw [okP_eq Hg.out Hasc.out, hfd]; simp), Bool.and_false]), B2⟩
              | false =>
                go_wp2_with fail
                cases hp : pathB t with
                | false =>
                  refine (pathI_is t _ hfit.1 hp).mono ?_
                  rintro e w3 ⟨rfl, rfl⟩
                  go_wp2_with fail
                  go_ret
                  exact ⟨ret_bool (by rw [allTo_false (n := rs.length) (k := j + 1) (by omega) (by rw [okP_eq Hg.out Hasc.out, hp]; simp), Bool.and_false]), B2⟩
                | true =>
                  refine (pathI_is t _ hfit.1 hp).mono ?_
                  rintro e w3 ⟨rfl, rfl⟩
                  go_wp2_with fail
                  refine (validI_expr k s ks a' n' c' _ hk2 hfit.2.1 hfit.2.2.2 (by rw [← hkn]; exact hfit.2.2.1)).mono ?_
                  rintro e w4 ⟨rfl, hB4⟩
                  have B4 := B2.trans (hB4.mono B2.size)
                  cases hve : validE k s ks with
                  | false =>
                    go_wp2_with fail
                    go_ret
                    exact ⟨ret_bool (by rw [allTo_false (n := rs.length) (k := j + 1) (by omega) (by rw [okP_eq Hg.out Hasc.out, hve]; simp), Bool.and_false]), B4⟩
                  | true =>
                    have Hst := Lib.hid (allTo_step Hok.out (show okP fs rs (j + 1) = true by rw [okP_eq Hg.out Hasc.out, hp, hve, hfd]; rfl))
                    go_wp2_with fail
                    go_roundw
                    case rel => exact ⟨j + 1 + 1, by omega, by go_num, Hst.out, hB12.trans (hB4.mono hB12.size)⟩
                    case measure => simp [intOf]; omega
        · have e : j = rs.length := by omega
          have hall : allTo (okP fs rs) rs.length = true := e ▸ Hok.out
          clear e
          go_wp2_with fail
          go_ret
          exact ⟨ret_bool (by rw [hv, hall, decide_eq_true (by omega)]; rfl), Bw⟩
  · rw [hv]
    go_wp2_with fail
    go_ret
    exact ⟨ret_bool (by rw [hv]; rfl), B1⟩
end Go.Proofs.YtceiafncpimihaaGreat
