/-
  Copies of lists of entries; what a law's list of entries is told of.
-/
import Derived.Test.YtaiijnepeccllaaGreatQEnW
namespace Go.Proofs.YtaiijnepeccllaaGreat
set_option linter.unusedVariables false
set_option linter.unusedSimpArgs false
open Go.RowKit

/-- what a law's argument is told of: a readable list of entries -/
def InNs (w : World) (a : Option Addr) (n : Nat) (es : List En) : Prop := EnAt w 0 w.heap.size es a n ∧ EnFits es ∧ n ≤ maxLen
theorem enSet_size (w : World) (p : Addr) (u : Value) : (w.setCell p u).heap.size = w.heap.size := by simp [World.setCell]
theorem entry_info : (Tryz.prog.info? 26).map (fun i => (i.zero, i.size, i.bytes)) = some (some (.agg #[.string .empty, .string .empty, .slice none 0 0, .string .empty]), 4, 72) := by kernel_rfl

set_option maxHeartbeats 1000000 in
theorem toEntryS_any (es : List En) (a : Option Addr) (n c : Nat) (w : World) (hf : EnAt w 0 w.heap.size es a n) (ht : es.length + enTot es ≤ 1048576) :
    Calls Tryz.prog 8 #[.slice a n c] w fun e w' => ∃ g, e = .returned (.slice (some ⟨g, 0, none⟩) n n) ∧ EnAt w' w.heap.size w'.heap.size es (some ⟨g, 0, none⟩) n ∧ Below w.heap.size w w' := by
  have hlen := Lib.hid hf.1
  have hn : n ≤ 1048576 := by have := hf.1; omega
  have hL := Nat.le_refl w.heap.size
  obtain ⟨i0, hi, hz0, hz1, hz2⟩ := info_parts entry_info
  have hmk := fun W => make_row (P := Tryz.prog) 29 26 i0 _ Tryz.underlying29 hi hz0 .i64 .i64 n n (Nat.le_refl _) (by rw [hz2]; omega) (by omega) W
  go_enter Tryz.func8, Tryz.ntmps8
  go_wp2_with fail
  go_loopw [4] (fun i wr => ∃ (j : Nat) (cur : Array Value), j ≤ n ∧ i = .int .i64 j ∧ wr.heap[w.heap.size]? = some (.cells cur 26 (0, 0)) ∧ cur.size = n * 4 ∧ DoneEn wr (w.heap.size + 1) wr.heap.size es cur j ∧ Below w.heap.size w wr) (fun i _ => n - (intOf i).toNat)
  case atStart => exact ⟨0, _, Nat.zero_le _, rfl, heap_alloc_new w _, by simp [madeCells], DoneEn.zero, (Below.refl _ _).alloc (Nat.le_refl _) _⟩
  case round =>
    obtain ⟨j, cur, hj, rfl, hblk, hsz, hdone, hB⟩ := hrel
    by_cases hlt : j < n
    · obtain ⟨b, off, t, s, fs, x, a', n', c', rfl, _, hb, hg, hc0, hc1, hc2, hc3, hcap, hks⟩ := (hf.below hB).get hlt
      have Hg := Lib.hid hg
      have htk := enTot_get hg
      simp only [enSz] at htk
      have hks' := (hks.more (Nat.le_refl 0) hB.size).files
      have hkl := hks.1
      have Hsz := Lib.hid hsz
      have Hblk := Lib.hid hblk
      have Hdone := Lib.hid hdone
      have hgl : w.heap.size < wr.heap.size := blk_lt hblk
      have hx0 : wr.cell? ⟨w.heap.size, j * 4, none⟩ = some (cur[j * 4]'(by omega)) := by rw [cell_of_row wr _ _ _ _ _ hblk]; simp
      have hx1 : wr.cell? ⟨w.heap.size, j * 4 + 1, none⟩ = some (cur[j * 4 + 1]'(by omega)) := by rw [cell_of_row wr _ _ _ _ _ hblk]; simp
      have hx2 : wr.cell? ⟨w.heap.size, j * 4 + 2, none⟩ = some (cur[j * 4 + 2]'(by omega)) := by rw [cell_of_row wr _ _ _ _ _ hblk]; simp
      have hx3 : wr.cell? ⟨w.heap.size, j * 4 + 3, none⟩ = some (cur[j * 4 + 3]'(by omega)) := by rw [cell_of_row wr _ _ _ _ _ hblk]; simp
      generalize cur[j * 4]'(by omega) = v0 at hx0
      generalize cur[j * 4 + 1]'(by omega) = v1 at hx1
      generalize cur[j * 4 + 2]'(by omega) = v2 at hx2
      generalize cur[j * 4 + 3]'(by omega) = v3 at hx3
      have hz0a := blk_frozen hblk (j * 4)
      have hz1a := blk_frozen hblk (j * 4 + 1)
      have hz2a := blk_frozen hblk (j * 4 + 2)
      have hz3a := blk_frozen hblk (j * 4 + 3)
      subst hkl
      clear hblk hsz hg hdone
      go_wp2_with fail
      refine (toEntry_any t s fs x a' fs.length c' _ hks' (by omega)).mono ?_
      rintro e w1 ⟨g1, rfl, hg1, hk1, hB1⟩
      have hy0 := (hB1.cell (p := ⟨w.heap.size, j * 4, none⟩) hgl).trans hx0
      have hy1 := (hB1.cell (p := ⟨w.heap.size, j * 4 + 1, none⟩) hgl).trans hx1
      have hy2 := (hB1.cell (p := ⟨w.heap.size, j * 4 + 2, none⟩) hgl).trans hx2
      have hy3 := (hB1.cell (p := ⟨w.heap.size, j * 4 + 3, none⟩) hgl).trans hx3
      have hf0 := (hB1.frozen (p := ⟨w.heap.size, j * 4, none⟩) hgl).trans hz0a
      have hf1 := (hB1.frozen (p := ⟨w.heap.size, j * 4 + 1, none⟩) hgl).trans hz1a
      have hf2 := (hB1.frozen (p := ⟨w.heap.size, j * 4 + 2, none⟩) hgl).trans hz2a
      have hf3 := (hB1.frozen (p := ⟨w.heap.size, j * 4 + 3, none⟩) hgl).trans hz3a
      have hb1 := Lib.hid ((hB1.block w.heap.size hgl).trans Hblk.out)
      have hdn := Lib.hid ((Hdone.out.keep (Nat.le_refl _) hB1.size (fun p _ hp => hB1.cell hp)).step (g := w.heap.size) Hg.out (Nat.le_refl _) ((FlIn.own hk1 rfl).more (by omega) hk1.lt) (by have := Hsz.out; omega) (by omega) (.string t) (.string s) (.slice (some ⟨g1, 0, none⟩) fs.length fs.length) (.string x))
      have hBB := hB.trans (hB1.mono hB.size)
      clear hx0 hx1 hx2 hx3 hz0a hz1a hz2a hz3a
      go_wp2_with fail
      exact ⟨⟨j + 1, _, by omega, by go_num, blk_set (blk_set (blk_set (blk_set hb1.out _ _) _ _) _ _) _ _, by simp [Hsz.out], by rw [enSet_size, enSet_size, enSet_size, enSet_size]; exact hdn.out, (((hBB.setCell (Nat.le_refl _) _).setCell (Nat.le_refl _) _).setCell (Nat.le_refl _) _).setCell (Nat.le_refl _) _⟩, by simp [intOf]; omega⟩
    · have e : j = n := by omega
      have Hblk := Lib.hid hblk
      have Hdone := Lib.hid hdone
      clear hsz hblk hdone
      subst e
      go_wp2_with fail
      go_ret
      obtain rfl := hlen.out
      exact ⟨_, rfl, (Hdone.out.keep (Nat.le_succ _) (Nat.le_refl _) fun _ _ _ => rfl).all Hblk.out (Nat.le_refl _) (blk_lt Hblk.out), hB⟩
end Go.Proofs.YtaiijnepeccllaaGreat
