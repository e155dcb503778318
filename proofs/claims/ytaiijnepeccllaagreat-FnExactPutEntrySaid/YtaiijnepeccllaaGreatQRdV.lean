/-
  Are the reads of an entry valid: of the program and of the model.
-/
import Derived.Test.YtaiijnepeccllaaGreatQEnW
import Derived.Test.YtaiijnepeccllaaGreatGone
import Derived.Test.YtaiijnepeccllaaGreatQStr
import Derived.StillTailTactics
import Derived.Deep.DeepCutAuto
import Derived.Deep.RegionHeld3
namespace Go.Proofs.YtaiijnepeccllaaGreat
set_option linter.unusedVariables false
set_option linter.unusedSimpArgs false
open Go.RowKit

/-- is the read at place k right? -/
def rdOk (fs : List Fl) (k : Nat) : Bool := match fs[k]? with
  | none => true
  | some (p, t) => !(findF (fs.take k) p).2 && (pathB p && textB t)
def rdTo (fs : List Fl) (k : Nat) : Bool := (List.range k).all (rdOk fs)
def readsB (fs : List Fl) : Bool := rdTo fs fs.length && decide (fs.length ≤ 12)
/-- .. and not the entry's own target -/
def rdOkI (x : ByteArray) (fs : List Fl) (k : Nat) : Bool := rdOk fs k && (match fs[k]? with
  | none => true
  | some (p, _) => !decide (p = x))
def rdToI (x : ByteArray) (fs : List Fl) (k : Nat) : Bool := (List.range k).all (rdOkI x fs)
def readsI (x : ByteArray) (fs : List Fl) : Bool := rdToI x fs fs.length && decide (fs.length ≤ 12)
section
variable {fs : List Fl} {k n : Nat} {p t x : ByteArray}
theorem rdTo_step (h1 : rdTo fs k = true) (h2 : rdOk fs k = true) : rdTo fs (k + 1) = true := by
  unfold rdTo at *
  rw [List.range_succ, List.all_append, h1]
  simpa using h2
theorem rdToI_step (h1 : rdToI x fs k = true) (h2 : rdOkI x fs k = true) : rdToI x fs (k + 1) = true := by
  unfold rdToI at *
  rw [List.range_succ, List.all_append, h1]
  simpa using h2
theorem rdTo_no (hk : k < n) (h : rdOk fs k = false) : rdTo fs n = false := by
  unfold rdTo
  rw [List.all_eq_false]
  exact ⟨k, by simpa using hk, by simp [h]⟩
theorem rdToI_no (hk : k < n) (h : rdOkI x fs k = false) : rdToI x fs n = false := by
  unfold rdToI
  rw [List.all_eq_false]
  exact ⟨k, by simpa using hk, by simp [h]⟩
theorem rdOk_eq (hg : fs[k]? = some (p, t)) : rdOk fs k = (!(findF (fs.take k) p).2 && (pathB p && textB t)) := by unfold rdOk; rw [hg]
theorem rdOkI_eq (hg : fs[k]? = some (p, t)) : rdOkI x fs k = ((!(findF (fs.take k) p).2 && (pathB p && textB t)) && !decide (p = x)) := by unfold rdOkI; rw [rdOk_eq hg, hg]
theorem readsB_no (hl : fs.length = n) (hk : k < n) (h : rdOk fs k = false) : readsB fs = false := by
  unfold readsB
  rw [rdTo_no (n := fs.length) (by omega) h, Bool.false_and]
theorem readsI_no (hl : fs.length = n) (hk : k < n) (h : rdOkI x fs k = false) : readsI x fs = false := by
  unfold readsI
  rw [rdToI_no (n := fs.length) (by omega) h, Bool.false_and]
theorem find_any : ∀ fs : List Fl, (findF fs x).2 = fs.any fun f => decide (f.1 = x)
  | [] => rfl
  | f :: fs => by
    rw [findF, List.any_cons]
    by_cases h : f.1 = x
    · rw [if_pos h, decide_eq_true h]; rfl
    · rw [if_neg h, decide_eq_false h, find_any fs]; rfl
theorem readsI_eq : readsI x fs = (!(findF fs x).2 && readsB fs) := by
  unfold readsI readsB
  rw [← Bool.and_assoc]
  congr 1
  rw [Bool.eq_iff_iff, find_any]
  unfold rdToI rdTo
  simp only [List.all_eq_true, List.mem_range, Bool.and_eq_true, Bool.not_eq_true', List.any_eq_false, decide_eq_true_eq]
  constructor
  · intro h
    refine ⟨fun f hf he => ?_, fun k hk => ?_⟩
    · obtain ⟨k, hk, rfl⟩ := List.mem_iff_getElem.1 hf
      have := h k hk
      unfold rdOkI at this
      rw [List.getElem?_eq_getElem hk] at this
      simp only [Bool.and_eq_true, Bool.not_eq_true', decide_eq_false_iff_not] at this
      exact this.2 he
    · have := h k hk
      unfold rdOkI at this
      rw [Bool.and_eq_true] at this
      exact this.1
  · rintro ⟨h1, h2⟩ k hk
    unfold rdOkI
    rw [h2 k hk, List.getElem?_eq_getElem hk]
    simp only [Bool.true_and, Bool.not_eq_true', decide_eq_false_iff_not]
    exact h1 _ (List.getElem_mem hk)
theorem FilesAt.take {w : World} {B b off : Nat} (h : FilesAt w B (some ⟨b, off, none⟩) n fs) (hk : k ≤ n) : FilesAt w B (some ⟨b, off, none⟩) k (fs.take k) :=
  ⟨by rw [List.length_take, h.1]; omega, fun h0 => by
    obtain ⟨b', off', e, hb, hc⟩ := h.2 (by omega)
    simp only [Option.some.injEq, Addr.mk.injEq, and_true] at e
    obtain ⟨rfl, rfl⟩ := e
    refine ⟨b, off, rfl, hb, fun j u hu => hc j u ?_⟩
    have h1 := List.take_append_drop k fs
    rw [← h1, fcells_append]
    rw [List.getElem?_append_left (List.getElem?_eq_some_iff.1 hu).1]
    exact hu⟩
end

set_option maxRecDepth 100000 in
set_option maxHeartbeats 1000000 in
theorem readsS_rd (a : Option Addr) (n c : Nat) (fs : List Fl) (w : World) (hf : FilesAt w w.heap.size a n fs) (hs : Fits fs) (hn : n ≤ maxLen) (hnc : n ≤ c) :
    Calls Tryz.prog 52 #[.slice a n c] w fun e w' => e = .returned (.bool (readsB fs)) ∧ Below w.heap.size w w' := by
  have Hn := Lib.hid hn
  unfold maxLen at hn
  have hlen := Lib.hid hf.1
  go_enter Tryz.func52, Tryz.ntmps52
  go_wp2_with fail
  go_loopw [3] (fun i wr => ∃ k : Nat, k ≤ n ∧ i = .int .i64 k ∧ rdTo fs k = true ∧ Below w.heap.size w wr) (fun i _ => n - (intOf i).toNat)
  case atStart => exact ⟨0, Nat.zero_le _, rfl, rfl, Below.refl _ _⟩
  case round =>
    obtain ⟨k, hk, rfl, hrd, hB⟩ := hrel
    have Hrd := Lib.hid hrd; clear hrd
    by_cases hlt : k < n
    · obtain ⟨b, off, p, t, rfl, hb, hg, hc1, hc2⟩ := (hf.below hB).get hlt
      obtain ⟨hpl, htl⟩ := hs.get hg
      have Hg := Lib.hid hg; clear hg
      have Hf := Lib.hid hf
      have hk0 : (0 : Int) ≤ (k : Int) := by omega
      have hk1 : (k : Int) < (n : Int) := by omega
      have hk2 : (k : Int) ≤ (c : Int) := by omega
      have hBd : Below w.heap.size w wr.drew := hB.drew
      have Hft := Lib.hid (((hf.below hBd).more hBd.size).take (Nat.le_of_lt hlt))
      clear hf
      go_wp2_with fail
      go_region_held3 (fun w' => w'.cell? ⟨b, off + k * 2, none⟩ = some (.string p)) (first | go_keep | exact (hB1.cell (p := ⟨b, off + k * 2, none⟩) (by have := hBd.size; show b < _; omega)).trans hc1)
        ((go_at_call 49; refine (findS0_any (some ⟨b, off, none⟩) k c (fs.take k) p wr.drew Hft.out (by have := Hn.out; omega)).mono ?_; rintro e w1 ⟨rfl, hB1⟩))
      have hBB := hBd.trans (hB1.mono hBd.size)
      obtain ⟨d1, d2⟩ : w1.cell? ⟨b, off + k * 2, none⟩ = some (.string p) ∧ w1.cell? ⟨b, off + k * 2 + 1, none⟩ = some (.string t) := ⟨(hB1.cell (p := ⟨b, off + k * 2, none⟩) (by have := hBd.size; show b < _; omega)).trans hc1, (hB1.cell (p := ⟨b, off + k * 2 + 1, none⟩) (by have := hBd.size; show b < _; omega)).trans hc2⟩
      obtain ⟨fb, hfb⟩ : ∃ r, (findF (fs.take k) p).2 = r := ⟨_, rfl⟩
      have Hfb := Lib.hid hfb
      rw [hfb]
      generalize (findF (fs.take k) p).1 = q
      clear hfb hB1 hc1 hc2
      have Hf := Hf.out
      cases fb with
      | true =>
        go_wp2_with fail
        go_ret
        exact ⟨ret_bool (readsB_no hlen.out hlt (by rw [rdOk_eq Hg.out, Hfb.out]; rfl)).symm, hBB⟩
      | false =>
        go_wp2_with fail
        refine (pathS_any p w1 hpl).mono ?_
        rintro e w2 ⟨rfl, rfl⟩
        obtain ⟨pb, hpb⟩ : ∃ r, pathB p = r := ⟨_, rfl⟩
        have Hpb := Lib.hid hpb
        rw [hpb]
        clear hpb
        cases pb with
        | false =>
          go_wp2_with fail
          go_ret
          exact ⟨ret_bool (readsB_no hlen.out hlt (by rw [rdOk_eq Hg.out, Hfb.out, Hpb.out]; rfl)).symm, hBB⟩
        | true =>
          go_wp2_with fail
          refine (textS_any t w1 htl).mono ?_
          rintro e w2 ⟨rfl, rfl⟩
          obtain ⟨tb, htb⟩ : ∃ r, textB t = r := ⟨_, rfl⟩
          have Htb := Lib.hid htb
          rw [htb]
          clear htb
          cases tb with
          | false =>
            go_wp2_with fail
            go_ret
            exact ⟨ret_bool (readsB_no hlen.out hlt (by rw [rdOk_eq Hg.out, Hfb.out, Hpb.out, Htb.out]; rfl)).symm, hBB⟩
          | true =>
            go_wp2_with fail
            go_roundw
            case rel => exact ⟨k + 1, by omega, by go_num, rdTo_step Hrd.out (by rw [rdOk_eq Hg.out, Hfb.out, Hpb.out, Htb.out]; rfl), hBB⟩
            case measure => simp [intOf]; omega
    · have e : k = n := by omega
      subst e
      go_wp2_with fail
      go_ret
      exact ⟨ret_bool (by unfold readsB; rw [hlen.out, Hrd.out, Bool.true_and]; congr 1; exact propext (by omega)), hB⟩

set_option maxRecDepth 100000 in
set_option maxHeartbeats 2000000 in
theorem readsI_rd (tg s : ByteArray) (a : Option Addr) (n c : Nat) (fs : List Fl) (x : ByteArray) (w : World) (hf : FilesAt w w.heap.size a n fs) (hs : Fits fs) (hn : n ≤ maxLen) (hnc : n ≤ c) :
    Calls Tryz.prog 56 #[.agg #[.string tg, .string s, .slice a n c, .string x]] w fun e w' => e = .returned (.bool (readsI tg fs)) ∧ Below w.heap.size w w' := by
  have Hn := Lib.hid hn
  unfold maxLen at hn
  have hlen := Lib.hid hf.1
  have hA := (Below.refl w.heap.size w).alloc (Nat.le_refl _) (.cells #[.string tg, .string s, .slice a n c, .string x] 26)
  have hbx := BxN.new w tg s (.slice a n c) x 26
  have HA := Lib.hid hA
  have Hbx := Lib.hid hbx
  clear hA hbx
  by_cases h12 : n ≤ 12
  case neg =>
    have h13 : (12 : Int) < (n : Int) := by omega
    go_enter Tryz.func56, Tryz.ntmps56
    go_wp2_with fail
    go_ret
    exact ⟨ret_bool (by unfold readsI; rw [hlen.out, decide_eq_false h12, Bool.and_false]), HA.out⟩
  have h13 : ¬ (12 : Int) < (n : Int) := by omega
  go_enter Tryz.func56, Tryz.ntmps56
  go_wp2_with fail
  go_loopw [14] (fun i wr => ∃ k : Nat, k ≤ n ∧ i = .int .i64 k ∧ rdToI tg fs k = true ∧ BxN wr w.heap.size tg s (.slice a n c) x 26 ∧ Below w.heap.size w wr) (fun i _ => n - (intOf i).toNat)
  case atStart => exact ⟨0, Nat.zero_le _, rfl, rfl, Hbx.out, HA.out⟩
  case round =>
    obtain ⟨k, hk, rfl, hrd, hbx, hB⟩ := hrel
    have Hrd := Lib.hid hrd; clear hrd
    by_cases hlt : k < n
    · obtain ⟨b, off, p, t, rfl, hb, hg, hc1, hc2⟩ := (hf.below hB).get hlt
      obtain ⟨hpl, htl⟩ := hs.get hg
      have Hg := Lib.hid hg; clear hg
      have hk0 : (0 : Int) ≤ (k : Int) := by omega
      have hk1 : (k : Int) < (n : Int) := by omega
      have hk2 : (k : Int) ≤ (c : Int) := by omega
      have hAl := (Below.refl wr.heap.size wr).alloc (Nat.le_refl _) (.cells #[.string p, .string t] 62)
      have hfx := heap_alloc_new wr (.cells #[.string p, .string t] 62)
      have hBl := hB.trans (hAl.mono hB.size)
      have hbl := hbx.next hAl
      have hbw := hB.size
      have hlw : wr.heap.size < (wr.alloc (.cells #[.string p, .string t] 62)).heap.size := by simp
      clear hbx
      go_upto_region 6 with (fail)
      generalize wr.alloc (.cells #[.string p, .string t] 62) = V at *
      have hBd : Below w.heap.size w V.drew := hBl.drew
      have Hft := Lib.hid (((hf.below hBd).more hBd.size).take (Nat.le_of_lt hlt))
      have Hbl := Lib.hid hbl
      have Hfx := Lib.hid hfx
      obtain ⟨x0, x1, x2, x3, xf0, xf1, xf2, xf3, xl⟩ := hbl.facts
      have y0 : V.cell? ⟨wr.heap.size, 0, none⟩ = some (.string p) := by rw [cell_of_row _ _ _ _ _ _ hfx]; rfl
      have y1 : V.cell? ⟨wr.heap.size, 1, none⟩ = some (.string t) := by rw [cell_of_row _ _ _ _ _ _ hfx]; rfl
      clear hbl hfx hAl hc1 hc2
      go_wp2_with fail
      go_region_held3 (fun w' => w'.cell? ⟨w.heap.size, 2, none⟩ = some (.slice (some ⟨b, off, none⟩) n c) ∧ w'.cell? ⟨wr.heap.size, 0, none⟩ = some (.string p)) (first | go_keep | exact ⟨x2, y0⟩ | exact HC1.out)
        ((go_at_call 64; refine (findI_any (some ⟨b, off, none⟩) k c (fs.take k) p V.drew Hft.out (by have := Hn.out; omega)).mono ?_; rintro e w1 ⟨rfl, hB1⟩; have HC1 := Lib.hid (And.intro ((hB1.cell (p := ⟨w.heap.size, 2, none⟩) xl).trans x2) ((hB1.cell (p := ⟨wr.heap.size, 0, none⟩) hlw).trans y0))))
      have hBB := hBd.trans (hB1.mono hBd.size)
      have Hbx1 := Lib.hid (show BxN w1 w.heap.size tg s (.slice (some ⟨b, off, none⟩) n c) x 26 from (hB1.block w.heap.size (by have := blk_lt Hbl.out; exact this)).trans Hbl.out)
      have Hfx1 := Lib.hid ((hB1.block wr.heap.size (by have := blk_lt Hfx.out; exact this)).trans Hfx.out)
      clear x0 x1 x2 x3 xf0 xf1 xf2 xf3 xl y0 y1
      obtain ⟨x0, x1, x2, x3, xf0, xf1, xf2, xf3, xl⟩ := Hbx1.out.facts
      have y0 : w1.cell? ⟨wr.heap.size, 0, none⟩ = some (.string p) := by rw [cell_of_row _ _ _ _ _ _ Hfx1.out]; rfl
      have y1 : w1.cell? ⟨wr.heap.size, 1, none⟩ = some (.string t) := by rw [cell_of_row _ _ _ _ _ _ Hfx1.out]; rfl
      obtain ⟨fb, hfb⟩ : ∃ r, (findF (fs.take k) p).2 = r := ⟨_, rfl⟩
      have Hfb := Lib.hid hfb
      rw [hfb]
      generalize (findF (fs.take k) p).1 = q
      clear hfb hB1
      cases fb with
      | true =>
        go_wp2_with fail
        go_ret
        exact ⟨ret_bool (readsI_no hlen.out hlt (by rw [rdOkI_eq Hg.out, Hfb.out]; rfl)).symm, hBB⟩
      | false =>
      by_cases hpt : p = tg
      · have hd := (show (p.toList == tg.toList) = true from by rw [hpt]; simp)
        have Hpt := Lib.hid hpt
        clear hpt
        go_wp2_with fail
        go_ret
        exact ⟨ret_bool (readsI_no hlen.out hlt (by rw [rdOkI_eq Hg.out, decide_eq_true Hpt.out]; simp)).symm, hBB⟩
      · have hd := (show (p.toList == tg.toList) = false from by rw [sEq]; simp [hpt])
        have Hpt := Lib.hid hpt
        clear hpt
        go_wp2_with fail
        refine (pathI_any p w1 hpl).mono ?_
        rintro e w2 ⟨rfl, rfl⟩
        obtain ⟨pb, hpb⟩ : ∃ r, pathB p = r := ⟨_, rfl⟩
        have Hpb := Lib.hid hpb
        rw [hpb]
        clear hpb
        cases pb with
        | false =>
          go_wp2_with fail
          go_ret
          exact ⟨ret_bool (readsI_no hlen.out hlt (by rw [rdOkI_eq Hg.out, Hfb.out, Hpb.out]; rfl)).symm, hBB⟩
        | true =>
          go_wp2_with fail
          refine (textI_any t w1 htl).mono ?_
          rintro e w2 ⟨rfl, rfl⟩
          obtain ⟨tb, htb⟩ : ∃ r, textB t = r := ⟨_, rfl⟩
          have Htb := Lib.hid htb
          rw [htb]
          clear htb
          cases tb with
          | false =>
            go_wp2_with fail
            go_ret
            exact ⟨ret_bool (readsI_no hlen.out hlt (by rw [rdOkI_eq Hg.out, Hfb.out, Hpb.out, Htb.out]; rfl)).symm, hBB⟩
          | true =>
            go_wp2_with fail
            go_roundw
            case rel => exact ⟨k + 1, by omega, by go_num, rdToI_step Hrd.out (by rw [rdOkI_eq Hg.out, Hfb.out, Hpb.out, Htb.out, decide_eq_false Hpt.out]; rfl), Hbx1.out, hBB⟩
            case measure => simp [intOf]; omega
    · have e : k = n := by omega
      subst e
      go_wp2_with fail
      go_ret
      exact ⟨ret_bool (by unfold readsI; rw [hlen.out, Hrd.out, Bool.true_and, decide_eq_true h12]), hB⟩
end Go.Proofs.YtaiijnepeccllaaGreat
