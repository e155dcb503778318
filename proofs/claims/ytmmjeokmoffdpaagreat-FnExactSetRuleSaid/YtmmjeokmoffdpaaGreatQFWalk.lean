/-
  What the functions on files and lists of files answer: the law's helpers szFile, szFileS, toFile, toFileS, eqFile, eqFileS.
-/
import Derived.Test.YtmmjeokmoffdpaaGreatProg
import Derived.Test.YtmmjeokmoffdpaaGreatGone
import Derived.StillTailTactics
namespace Go.Proofs.YtmmjeokmoffdpaaGreat
set_option linter.unusedVariables false
open Go.RowKit

/-- what is left of a budget behind a file -/
def szOne (left : Int) (f : Fl) : Int := if (f.1.size + f.2.size : Int) ≤ left then left - (f.1.size + f.2.size) else -1

theorem szFile_any (p t : ByteArray) (left : Int) (w : World) (hp : p.size ≤ maxLen) (ht : t.size ≤ maxLen) (h0 : 0 ≤ left) (h1 : left ≤ 1048576) :
    Calls Tryz.prog 37 #[.agg #[.string p, .string t], .int .i64 left] w fun e w' =>
      e = .returned (.int .i64 (szOne left (p, t))) ∧ Below w.heap.size w w' := by
  unfold maxLen at hp ht
  go_enter Tryz.func37, Tryz.ntmps37
  go_wp2
  all_goals go_ret
  all_goals refine ⟨ret_int ?_, (Below.refl _ _).alloc (Nat.le_refl _) _⟩
  all_goals (unfold szOne; simp only; split <;> omega)

theorem szFile_yes (p t : ByteArray) (left : Int) (w : World) (hp : p.size ≤ maxLen) (ht : t.size ≤ maxLen) (h1 : left ≤ 1048576) (h : (p.size + t.size : Int) ≤ left) :
    Calls Tryz.prog 37 #[.agg #[.string p, .string t], .int .i64 left] w fun e w' =>
      e = .returned (.int .i64 (left - (p.size + t.size))) ∧ Below w.heap.size w w' := by
  refine (szFile_any p t left w hp ht (by omega) h1).mono fun e w' ⟨he, hb⟩ => ⟨?_, hb⟩
  rw [he]; unfold szOne; rw [if_pos h]
theorem szFile_no (p t : ByteArray) (left : Int) (w : World) (hp : p.size ≤ maxLen) (ht : t.size ≤ maxLen) (h0 : 0 ≤ left) (h1 : left ≤ 1048576) (h : ¬ (p.size + t.size : Int) ≤ left) :
    Calls Tryz.prog 37 #[.agg #[.string p, .string t], .int .i64 left] w fun e w' =>
      e = .returned (.int .i64 (-1)) ∧ Below w.heap.size w w' := by
  refine (szFile_any p t left w hp ht h0 h1).mono fun e w' ⟨he, hb⟩ => ⟨?_, hb⟩
  rw [he]; unfold szOne; rw [if_neg h]

theorem toFile_any (p t : ByteArray) (w : World) :
    Calls Tryz.prog 43 #[.agg #[.string p, .string t]] w fun e w' =>
      e = .returned (.agg #[.string p, .string t]) ∧ Below w.heap.size w w' := by
  go_enter Tryz.func43, Tryz.ntmps43
  go_wp2
  exact bodyPost_ret (v := .agg #[.string p, .string t]) (by simp [results, Tryz.results43, go_sem]) rfl
    ⟨rfl, (((Below.refl _ _).alloc (Nat.le_refl _) _).alloc (by simp) _).alloc (by simp; omega) _⟩

def eqFl (a b : Fl) : Bool := a.1.toList == b.1.toList && a.2.toList == b.2.toList
theorem eqFl_iff (a b : Fl) : eqFl a b = decide (a = b) := by
  unfold eqFl
  rw [sEq, sEq]
  obtain ⟨a1, a2⟩ := a
  obtain ⟨b1, b2⟩ := b
  by_cases h1 : a1 = b1 <;> by_cases h2 : a2 = b2 <;> simp [h1, h2]

theorem eqFile_any (p t p' t' : ByteArray) (w : World) :
    Calls Tryz.prog 49 #[.agg #[.string p, .string t], .agg #[.string p', .string t']] w fun e w' =>
      e = .returned (.bool (eqFl (p, t) (p', t'))) ∧ Below w.heap.size w w' := by
  go_enter Tryz.func49, Tryz.ntmps49
  go_wp2
  all_goals go_ret
  all_goals refine ⟨ret_bool ?_, ((Below.refl _ _).alloc (Nat.le_refl _) _).alloc (by simp) _⟩
  all_goals (unfold eqFl; simp_all)

/-- what is left of a budget behind a list of files -/
def szAll (left : Int) (fs : List Fl) : Int := if (fs.length + tot fs : Int) ≤ left then left - (fs.length + tot fs) else -1

/-- what the law's argument is told of: a readable list of files -/
def InF (w : World) (a : Option Addr) (len : Nat) (fs : List Fl) : Prop := FilesAt w w.heap.size a len fs ∧ Fits fs ∧ len ≤ maxLen

theorem szAll_neg {left : Int} {fs : List Fl} (h : ¬ (fs.length + tot fs : Int) ≤ left) : szAll left fs = -1 := by unfold szAll; rw [if_neg h]
theorem szAll_pos {left : Int} {fs : List Fl} (h : (fs.length + tot fs : Int) ≤ left) : szAll left fs = left - (fs.length + tot fs) := by unfold szAll; rw [if_pos h]

set_option maxHeartbeats 400000 in
theorem szFileS_any (a : Option Addr) (n c : Nat) (fs : List Fl) (left : Int) (w : World) (hf : FilesAt w w.heap.size a n fs) (hs : Fits fs) (hn : n ≤ maxLen) (h0 : 0 ≤ left) (h1 : left ≤ 1048576) :
    Calls Tryz.prog 15 #[.slice a n c, .int .i64 left] w fun e w' =>
      e = .returned (.int .i64 (szAll left fs)) ∧ Below w.heap.size w w' := by
  unfold maxLen at hn
  have hlen := Lib.hid hf.1
  by_cases hneg : left < n
  · go_enter Tryz.func15, Tryz.ntmps15
    go_wp2
    go_ret
    exact ⟨ret_int (by unfold szAll; have := hlen.out; rw [if_neg (by omega)]), Below.refl _ _⟩
  · go_enter Tryz.func15, Tryz.ntmps15
    go_wp2
    go_loopw [1, 5] (fun l i wr => ∃ k : Nat, k ≤ n ∧ i = .int .i64 k ∧ l = .int .i64 (left - n - tot (fs.take k)) ∧ 0 ≤ left - n - tot (fs.take k) ∧ Below w.heap.size w wr) (fun _ i _ => n - (intOf i).toNat)
    case atStart => exact ⟨0, Nat.zero_le _, rfl, by simp [tot], by simp [tot]; omega, Below.refl _ _⟩
    case round =>
      obtain ⟨k, hk, rfl, rfl, hpos, hB⟩ := hrel
      by_cases hlt : k < n
      · obtain ⟨b, off, p, t, rfl, hb, hg, hc1, hc2⟩ := (hf.below hB).get hlt
        have hfit := hs.get hg
        unfold maxLen at hfit
        have hst := tot_take_succ hg
        have Hst := Lib.hid hst; clear hst
        have Hg := Lib.hid hg; clear hg
        by_cases hf2 : (p.size + t.size : Int) ≤ left - n - tot (fs.take k)
        · go_wp2_with (go_at_call 37; refine (szFile_yes p t _ _ (by unfold maxLen; omega) (by unfold maxLen; omega) (by omega) hf2).mono ?_; rintro e w1 ⟨rfl, hB1⟩)
          go_roundw
          case rel => exact ⟨k + 1, by omega, by go_num, by rw [Hst.out]; go_num, by rw [Hst.out]; omega, hB.trans (hB1.mono hB.size)⟩
          case measure => simp [intOf]; omega
        · go_wp2_with (go_at_call 37; refine (szFile_no p t _ _ (by unfold maxLen; omega) (by unfold maxLen; omega) (by omega) (by omega) hf2).mono ?_; rintro e w1 ⟨rfl, hB1⟩)
          go_ret
          exact ⟨ret_int (by unfold szAll; have h1 := hlen.out; have h2 := tot_take_le fs (k + 1); rw [Hst.out] at h2; rw [if_neg (by omega)]), hB.trans (hB1.mono hB.size)⟩
      · go_wp2
        go_ret
        have e : n = k := by omega
        exact ⟨ret_int (by unfold szAll; have h1 := hlen.out; rw [List.take_of_length_le (by omega)] at hpos ⊢; rw [if_pos (by omega)]; omega), hB⟩

theorem file_info : (Tryz.prog.info? 83).map (fun i => (i.zero, i.size, i.bytes)) = some (some (.agg #[.string .empty, .string .empty]), 2, 32) := by kernel_rfl

set_option maxHeartbeats 400000 in
theorem toFileS_any (a : Option Addr) (n c : Nat) (fs : List Fl) (w : World) (hf : FilesAt w w.heap.size a n fs) (hn : n ≤ 1048576) :
    Calls Tryz.prog 22 #[.slice a n c] w fun e w' =>
      ∃ g, e = .returned (.slice (some ⟨g, 0, none⟩) n n) ∧ w.heap.size ≤ g ∧ OwnF w' 83 g fs ∧ Below w.heap.size w w' := by
  have hlen := Lib.hid hf.1
  obtain ⟨i0, hi, hz0, hz1, hz2⟩ := info_parts file_info
  have hmk := fun W => make_row (P := Tryz.prog) 33 83 i0 _ Tryz.underlying33 hi hz0 .i64 .i64 n n (Nat.le_refl _) (by rw [hz2]; omega) (by omega) W
  go_enter Tryz.func22, Tryz.ntmps22
  go_wp2
  go_loopw [4] (fun i wr => ∃ (k : Nat) (cur : Array Value), k ≤ n ∧ i = .int .i64 k ∧ wr.heap[w.heap.size]? = some (.cells cur 83 (0, 0)) ∧ cur.size = n * 2 ∧ cur.toList.take (k * 2) = fcells (fs.take k) ∧ Below w.heap.size w wr) (fun i _ => n - (intOf i).toNat)
  case atStart => exact ⟨0, _, Nat.zero_le _, rfl, heap_alloc_new w _, by simp [madeCells], rfl, (Below.refl _ _).alloc (Nat.le_refl _) _⟩
  case round =>
    obtain ⟨k, cur, hk, rfl, hblk, hsz, hcur, hB⟩ := hrel
    by_cases hlt : k < n
    · obtain ⟨b, off, p, t, rfl, hb, hg, hc1, hc2⟩ := (hf.below hB).get hlt
      have Hg := Lib.hid hg; clear hg
      have Hsz := Lib.hid hsz
      have Hblk := Lib.hid hblk
      have hgl : w.heap.size < wr.heap.size := blk_lt hblk
      have hx1 : wr.cell? ⟨w.heap.size, k * 2, none⟩ = some (cur[k * 2]'(by omega)) := by rw [cell_of_row wr _ _ _ _ _ hblk]; simp
      have hx2 : wr.cell? ⟨w.heap.size, k * 2 + 1, none⟩ = some (cur[k * 2 + 1]'(by omega)) := by rw [cell_of_row wr _ _ _ _ _ hblk]; simp
      generalize cur[k * 2]'(by omega) = v1 at hx1
      generalize cur[k * 2 + 1]'(by omega) = v2 at hx2
      have hz1 : ∀ i, wr.frozen? ⟨w.heap.size, i, none⟩ = false := fun i => blk_frozen hblk i
      have hz1a := hz1 (k * 2)
      have hz1b := hz1 (k * 2 + 1)
      clear hblk hsz hz1
      go_wp2_with (go_at_call 43; refine (toFile_any p t _).mono ?_; rintro e w1 ⟨rfl, hB1⟩; have hy1 := (hB1.cell (p := ⟨w.heap.size, k * 2, none⟩) hgl).trans hx1; have hy2 := (hB1.cell (p := ⟨w.heap.size, k * 2 + 1, none⟩) hgl).trans hx2; have hf1 := (hB1.frozen (p := ⟨w.heap.size, k * 2, none⟩) hgl).trans hz1a; have hf2 := (hB1.frozen (p := ⟨w.heap.size, k * 2 + 1, none⟩) hgl).trans hz1b)
      have hb1 := (hB1.block w.heap.size hgl).trans Hblk.out
      exact ⟨⟨k + 1, _, by omega, by go_num, blk_set (blk_set hb1 _ _) _ _, by simp [Hsz.out], fill_file Hsz.out hlt hcur Hg.out, ((hB.trans (hB1.mono hB.size)).setCell (Nat.le_refl _) _).setCell (Nat.le_refl _) _⟩, by simp [intOf]; omega⟩
    · have e : k = n := by omega
      have Hsz := Lib.hid hsz
      have Hblk := Lib.hid hblk
      have Hcur := Lib.hid hcur
      clear hsz hblk hcur
      subst e
      go_wp2
      go_ret
      refine ⟨_, rfl, Nat.le_refl _, ?_, hB⟩
      have hc := Hcur.out
      have hl := hlen.out
      have hs := Hsz.out
      rw [List.take_of_length_le (by simp; omega), List.take_of_length_le (by omega)] at hc
      rw [OwnF, Hblk.out, ← hc]

theorem eqFile_yes (p t p' t' : ByteArray) (w : World) (h : (p, t) = (p', t')) :
    Calls Tryz.prog 49 #[.agg #[.string p, .string t], .agg #[.string p', .string t']] w fun e w' =>
      e = .returned (.bool true) ∧ Below w.heap.size w w' :=
  (eqFile_any p t p' t' w).mono fun e w' ⟨he, hb⟩ => ⟨by rw [he, eqFl_iff, decide_eq_true h], hb⟩
theorem eqFile_no (p t p' t' : ByteArray) (w : World) (h : ¬ (p, t) = (p', t')) :
    Calls Tryz.prog 49 #[.agg #[.string p, .string t], .agg #[.string p', .string t']] w fun e w' =>
      e = .returned (.bool false) ∧ Below w.heap.size w w' :=
  (eqFile_any p t p' t' w).mono fun e w' ⟨he, hb⟩ => ⟨by rw [he, eqFl_iff, decide_eq_false h], hb⟩

set_option maxRecDepth 100000 in
set_option maxHeartbeats 400000 in
theorem eqFileS_any (a b : Option Addr) (n c m d : Nat) (fs gs : List Fl) (w : World) (hf : FilesAt w w.heap.size a n fs) (hg : FilesAt w w.heap.size b m gs) (hn : n ≤ maxLen) (hm : m ≤ maxLen) :
    Calls Tryz.prog 29 #[.slice a n c, .slice b m d] w fun e w' =>
      e = .returned (.bool (decide (fs = gs))) ∧ Below w.heap.size w w' := by
  unfold maxLen at hn hm
  have hl1 := Lib.hid hf.1
  have hl2 := Lib.hid hg.1
  by_cases hne : n = m
  · subst hne
    go_enter Tryz.func29, Tryz.ntmps29
    go_wp2
    go_loopw [5] (fun i wr => ∃ k : Nat, k ≤ n ∧ i = .int .i64 k ∧ fs.take k = gs.take k ∧ Below w.heap.size w wr) (fun i _ => n - (intOf i).toNat)
    case atStart => exact ⟨0, Nat.zero_le _, rfl, rfl, Below.refl _ _⟩
    case round =>
      obtain ⟨k, hk, rfl, heq, hB⟩ := hrel
      have Heq := Lib.hid heq; clear heq
      by_cases hlt : k < n
      · obtain ⟨b1, off1, p, t, rfl, hb1, hg1, hc1, hc2⟩ := (hf.below hB).get hlt
        obtain ⟨b2, off2, p', t', rfl, hb2, hg2, hc3, hc4⟩ := (hg.below hB).get hlt
        have Hg1 := Lib.hid hg1; clear hg1
        have Hg2 := Lib.hid hg2; clear hg2
        by_cases he : (p, t) = (p', t')
        · have He := Lib.hid he; clear he
          go_wp2_with fail
          go_still_tail 8, (by kernel_rfl)
          change wpList _ _ _ _ _ wr.drew
          go_wp2_with (go_at_call 49; refine (eqFile_yes p t p' t' _ He.out).mono ?_; rintro e w1 ⟨rfl, hB1⟩)
          go_roundw
          case rel => exact ⟨k + 1, by omega, by go_num, take_eq_succ Heq.out Hg1.out Hg2.out He.out, hB.drew.trans (hB1.mono hB.size)⟩
          case measure => simp [intOf]; omega
        · have He := Lib.hid he; clear he
          go_wp2_with fail
          go_still_tail 8, (by kernel_rfl)
          change wpList _ _ _ _ _ wr.drew
          go_wp2_with (go_at_call 49; refine (eqFile_no p t p' t' _ He.out).mono ?_; rintro e w1 ⟨rfl, hB1⟩)
          go_ret
          exact ⟨ret_bool (by rw [decide_eq_false (ne_of_get Hg1.out Hg2.out He.out)]), hB.drew.trans (hB1.mono hB.size)⟩
      · go_wp2
        go_ret
        have h1 := hl1.out
        have h2 := hl2.out
        have h3 := Heq.out
        rw [List.take_of_length_le (by omega), List.take_of_length_le (by omega)] at h3
        exact ⟨ret_bool (by rw [decide_eq_true h3]), hB⟩
  · have hne' : ((n : Int) != (m : Int)) = true := by simp; omega
    go_enter Tryz.func29, Tryz.ntmps29
    go_wp2
    go_ret
    exact ⟨ret_bool (by rw [decide_eq_false]; rintro rfl; exact hne (hl1.out.symm.trans hl2.out)), Below.refl _ _⟩
end Go.Proofs.YtmmjeokmoffdpaaGreat
