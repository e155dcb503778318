/-
  The laws' words on rules and projects: copies into the program's type.
-/
import Derived.Test.YtmmjeokmoffdpaaGreatQRuW
namespace Go.Proofs.YtmmjeokmoffdpaaGreat
set_option linter.unusedVariables false
set_option linter.unusedSimpArgs false
open Go.RowKit

/-- block g is a box with a rule -/
def BxR (w : World) (g : Nat) (t : ByteArray) (k : Int) (s : ByteArray) (v : Value) (T : TypeId) : Prop := w.heap[g]? = some (.cells #[.string t, .int .i64 k, .string s, v] T (0, 0))
section
variable {w w' : World} {g : Nat} {k : Int} {s t : ByteArray} {v : Value} {T : TypeId}
theorem BxR.new (w : World) (t : ByteArray) (k : Int) (s : ByteArray) (v : Value) (T : TypeId) : BxR (w.alloc (.cells #[.string t, .int .i64 k, .string s, v] T)) w.heap.size t k s v T := heap_alloc_new w _
theorem BxR.next (h : BxR w g t k s v T) (hB : Below w.heap.size w w') : BxR w' g t k s v T := (hB.block g (blk_lt h)).trans h
theorem BxR.below {D : Nat} (h : BxR w g t k s v T) (hg : g < D) (hB : Below D w w') : BxR w' g t k s v T := (hB.block g hg).trans h
theorem BxR.alloc (h : BxR w g t k s v T) (o : Obj) : BxR (w.alloc o) g t k s v T := (Below.heap_alloc w o g (blk_lt h)).trans h
theorem BxR.facts (h : BxR w g t k s v T) : w.cell? ⟨g, 0, none⟩ = some (.string t) ∧ w.cell? ⟨g, 1, none⟩ = some (.int .i64 k) ∧ w.cell? ⟨g, 2, none⟩ = some (.string s) ∧ w.cell? ⟨g, 3, none⟩ = some v ∧ w.frozen? ⟨g, 0, none⟩ = false ∧ w.frozen? ⟨g, 1, none⟩ = false ∧ w.frozen? ⟨g, 2, none⟩ = false ∧ w.frozen? ⟨g, 3, none⟩ = false ∧ g < w.heap.size :=
  ⟨by rw [cell_of_row _ _ _ _ _ _ h]; rfl, by rw [cell_of_row _ _ _ _ _ _ h]; rfl, by rw [cell_of_row _ _ _ _ _ _ h]; rfl, by rw [cell_of_row _ _ _ _ _ _ h]; rfl, blk_frozen h 0, blk_frozen h 1, blk_frozen h 2, blk_frozen h 3, blk_lt h⟩
end
/-- what toRule leaves -/
def ToRP (t : ByteArray) (k : Int) (s : ByteArray) (ks : Fo) (w : World) (e : Ending) (w' : World) : Prop :=
  ∃ g, e = .returned (.agg #[.string t, .int .i64 k, .string s, .slice (some ⟨g, 0, none⟩) ks.len ks.len]) ∧ KA w' w.heap.size w'.heap.size ks (some ⟨g, 0, none⟩) ks.len ∧ Below w.heap.size w w'

set_option maxHeartbeats 1000000 in
theorem toRule_any (t : ByteArray) (k : Int) (s : ByteArray) (ks : Fo) (a : Option Addr) (n c : Nat) (w : World) (hk : KA w 0 w.heap.size ks a n) (ht : ks.len + ks.tot ≤ 1048576) :
    Calls Tryz.prog 8 #[.agg #[.string t, .int .i64 k, .string s, .slice a n c]] w (ToRP t k s ks w) := by
  obtain rfl : ks.len = n := hk.1
  have B3 := (((Below.refl w.heap.size w).alloc (Nat.le_refl _) (.cells #[.string t, .int .i64 k, .string s, .slice a ks.len c] 30)).alloc (by simp) (.cells #[.string .empty, .int .i64 0, .string .empty, .slice none 0 0] 44)).alloc (by simp; omega) (.cells #[.string t, .int .i64 0, .string .empty, .slice none 0 0] 44)
  have hz : (((w.alloc (.cells #[.string t, .int .i64 k, .string s, .slice a ks.len c] 30)).alloc (.cells #[.string .empty, .int .i64 0, .string .empty, .slice none 0 0] 44)).alloc (.cells #[.string t, .int .i64 0, .string .empty, .slice none 0 0] 44)).heap.size = w.heap.size + 3 := by simp
  have hb3 := BxR.new ((w.alloc (.cells #[.string t, .int .i64 k, .string s, .slice a ks.len c] 30)).alloc (.cells #[.string .empty, .int .i64 0, .string .empty, .slice none 0 0] 44)) t 0 .empty (.slice none 0 0) 44
  have hr3 := (BxR.new (w.alloc (.cells #[.string t, .int .i64 k, .string s, .slice a ks.len c] 30)) .empty 0 .empty (.slice none 0 0) 44).alloc (.cells #[.string t, .int .i64 0, .string .empty, .slice none 0 0] 44)
  simp only [World.size_alloc] at hb3 hr3
  have hk3 := hk.next B3
  go_enter Tryz.func8, Tryz.ntmps8
  go_wp2_with fail
  refine (toExpr_any k s ks a ks.len c _ hk3 ht).mono ?_
  rintro e w1 ⟨g, rfl, hg, hB1⟩
  obtain ⟨c0, c1, c2, c3, f0, f1, f2, f3, hl⟩ := (hb3.next hB1).facts
  obtain ⟨d0, d1, d2, d3, e0, e1, e2, e3, hdl⟩ := (hr3.next hB1).facts
  rw [hz] at hg hB1
  have Bx := B3.trans (hB1.mono (by omega))
  clear hb3 hr3 hk3
  go_wp2_with fail
  refine bodyPost_ret (v := .agg #[.string t, .int .i64 k, .string s, .slice (some ⟨g, 0, none⟩) ks.len ks.len]) (by simp [results, Tryz.results8, go_sem, *]) rfl ?_
  refine ⟨g, rfl, (((((((hg.setCell (g := w.heap.size + 1 + 1) (.inl (by omega)) _ _).setCell (g := w.heap.size + 1 + 1) (.inl (by omega)) _ _).setCell (g := w.heap.size + 1 + 1) (.inl (by omega)) _ _).setCell (g := w.heap.size + 1) (.inl (by omega)) _ _).setCell (g := w.heap.size + 1) (.inl (by omega)) _ _).setCell (g := w.heap.size + 1) (.inl (by omega)) _ _).setCell (g := w.heap.size + 1) (.inl (by omega)) _ _).more (by omega) (by simp [World.setCell]), ?_⟩
  exact ((((((Bx.setCell (by simp; omega) _).setCell (by simp; omega) _).setCell (by simp; omega) _).setCell (by simp) _).setCell (by simp) _).setCell (by simp) _).setCell (by simp) _

theorem rule_info : (Tryz.prog.info? 44).map (fun i => (i.zero, i.size, i.bytes)) = some (some (.agg #[.string .empty, .int .i64 0, .string .empty, .slice none 0 0]), 4, 64) := by kernel_rfl

set_option maxHeartbeats 1000000 in
theorem toRuleS_any (rs : List Ru) (a : Option Addr) (n c : Nat) (w : World) (hf : RuAt w 0 w.heap.size rs a n) (ht : rs.length + ruTot rs ≤ 1048576) :
    Calls Tryz.prog 23 #[.slice a n c] w fun e w' => ∃ g, e = .returned (.slice (some ⟨g, 0, none⟩) n n) ∧ RuAt w' w.heap.size w'.heap.size rs (some ⟨g, 0, none⟩) n ∧ Below w.heap.size w w' := by
  have hlen := Lib.hid hf.1
  have hn : n ≤ 1048576 := by have := hf.1; omega
  have hL := Nat.le_refl w.heap.size
  obtain ⟨i0, hi, hz0, hz1, hz2⟩ := info_parts rule_info
  have hmk := fun W => make_row (P := Tryz.prog) 34 44 i0 _ Tryz.underlying34 hi hz0 .i64 .i64 n n (Nat.le_refl _) (by rw [hz2]; omega) (by omega) W
  go_enter Tryz.func23, Tryz.ntmps23
  go_wp2_with fail
  go_loopw [4] (fun i wr => ∃ (j : Nat) (cur : Array Value), j ≤ n ∧ i = .int .i64 j ∧ wr.heap[w.heap.size]? = some (.cells cur 44 (0, 0)) ∧ cur.size = n * 4 ∧ DoneRu wr (w.heap.size + 1) wr.heap.size rs cur j ∧ Below w.heap.size w wr) (fun i _ => n - (intOf i).toNat)
  case atStart => exact ⟨0, _, Nat.zero_le _, rfl, heap_alloc_new w _, by simp [madeCells], DoneRu.zero, (Below.refl _ _).alloc (Nat.le_refl _) _⟩
  case round =>
    obtain ⟨j, cur, hj, rfl, hblk, hsz, hdone, hB⟩ := hrel
    by_cases hlt : j < n
    · obtain ⟨b, off, t, k, s, ks, a', n', c', rfl, _, hb, hg, hc0, hc1, hc2, hc3, hcap, hks⟩ := (hf.below hB).get hlt
      have Hg := Lib.hid hg
      have htk := ruTot_get hg
      simp only [ruSz] at htk
      have hks' := hks.more (Nat.le_refl 0) hB.size
      have Hsz := Lib.hid hsz
      have Hblk := Lib.hid hblk
      have Hdone := Lib.hid hdone
      have hgl : w.heap.size < wr.heap.size := blk_lt hblk
      have hx0 : wr.cell? ⟨w.heap.size, j * 4, none⟩ = some (cur[j * 4]'(by omega)) := by rw [cell_of_row wr _ _ _ _ _ hblk]; simp
      have hx1 : wr.cell? ⟨w.heap.size, j * 4 + 1, none⟩ = some (cur[j * 4 + 1]'(by omega)) := by rw [cell_of_row wr _ _ _ _ _ hblk]; simp
      have hx2 : wr.cell? ⟨w.heap.size, j * 4 + 2, none⟩ = some (cur[j * 4 + 2]'(by omega)) := by rw [cell_of_row wr _ _ _ _ _ hblk]; simp
      have hx3 : wr.cell? ⟨w.heap.size, j * 4 + 3, none⟩ = some (cur[j * 4 + 3]'(by omega)) := by rw [cell_of_row wr _ _ _ _ _ hblk]; simp
      generalize cur[j * 4]'(by omega) = v0 at hx0
      generalize cur[j * 4 + 1]'(by omega) = v1 at hx1
      generalize cur[j * 4 + 2]'(by omega) = v2 at hx2
      generalize cur[j * 4 + 3]'(by omega) = v3 at hx3
      have hz0a := blk_frozen hblk (j * 4)
      have hz1a := blk_frozen hblk (j * 4 + 1)
      have hz2a := blk_frozen hblk (j * 4 + 2)
      have hz3a := blk_frozen hblk (j * 4 + 3)
      clear hblk hsz hg hdone
      go_wp2_with fail
      refine (toRule_any t k s ks a' n' c' _ hks' (by omega)).mono ?_
      rintro e w1 ⟨g1, rfl, hk1, hB1⟩
      have hy0 := (hB1.cell (p := ⟨w.heap.size, j * 4, none⟩) hgl).trans hx0
      have hy1 := (hB1.cell (p := ⟨w.heap.size, j * 4 + 1, none⟩) hgl).trans hx1
      have hy2 := (hB1.cell (p := ⟨w.heap.size, j * 4 + 2, none⟩) hgl).trans hx2
      have hy3 := (hB1.cell (p := ⟨w.heap.size, j * 4 + 3, none⟩) hgl).trans hx3
      have hf0 := (hB1.frozen (p := ⟨w.heap.size, j * 4, none⟩) hgl).trans hz0a
      have hf1 := (hB1.frozen (p := ⟨w.heap.size, j * 4 + 1, none⟩) hgl).trans hz1a
      have hf2 := (hB1.frozen (p := ⟨w.heap.size, j * 4 + 2, none⟩) hgl).trans hz2a
      have hf3 := (hB1.frozen (p := ⟨w.heap.size, j * 4 + 3, none⟩) hgl).trans hz3a
      have hb1 := Lib.hid ((hB1.block w.heap.size hgl).trans Hblk.out)
      have hdn := Lib.hid ((Hdone.out.keep (Nat.le_refl _) hB1.size (fun p _ hp => hB1.cell hp)).step (g := w.heap.size) Hg.out (Nat.le_refl _) (hk1.more (by omega) (Nat.le_refl _)) (by have := Hsz.out; omega) (by omega) (.string t) (.int .i64 k) (.string s) (.slice (some ⟨g1, 0, none⟩) ks.len ks.len))
      have hBB := hB.trans (hB1.mono hB.size)
      clear hx0 hx1 hx2 hx3 hz0a hz1a hz2a hz3a
      go_wp2_with fail
      exact ⟨⟨j + 1, _, by omega, by go_num, blk_set (blk_set (blk_set (blk_set hb1.out _ _) _ _) _ _) _ _, by simp [Hsz.out], by rw [set_size, set_size, set_size, set_size]; exact hdn.out, (((hBB.setCell (Nat.le_refl _) _).setCell (Nat.le_refl _) _).setCell (Nat.le_refl _) _).setCell (Nat.le_refl _) _⟩, by simp [intOf]; omega⟩
    · have e : j = n := by omega
      have Hblk := Lib.hid hblk
      have Hdone := Lib.hid hdone
      clear hsz hblk hdone
      subst e
      go_wp2_with fail
      go_ret
      obtain rfl := hlen.out
      exact ⟨_, rfl, (Hdone.out.keep (Nat.le_succ _) (Nat.le_refl _) fun _ _ _ => rfl).all Hblk.out (Nat.le_refl _) (blk_lt Hblk.out), hB⟩
end Go.Proofs.YtmmjeokmoffdpaaGreat
