/-
  The laws' words on rules and projects once more: each list of expressions of a copy begins a row of its own (for the marks).
-/
import Derived.Test.YtmmjeokmoffdpaaGreatQRuT
import Derived.Test.YtmmjeokmoffdpaaGreatQPrW
import Derived.Test.YtmmjeokmoffdpaaGreatGone
namespace Go.Proofs.YtmmjeokmoffdpaaGreat
set_option linter.unusedVariables false
set_option linter.unusedSimpArgs false
open Go.RowKit

theorem KS.keep {w w' : World} {L L' B B' n : Nat} {f : Fo} {a : Option Addr} (h : KS w L B f a n) (hL : L' ≤ L) (hB : B ≤ B') (hk : ∀ g : Nat, L ≤ g → g < B → w'.heap[g]? = w.heap[g]?) : KS w' L' B' f a n :=
  ⟨h.1.keep hL hB fun p h1 h2 => World.cell?_of_block (hk p.block h1 h2), h.2.keep hL hB hk⟩
/-- block b is a row of n rules -/
def RowRu (w : World) (b n : Nat) : Prop := ∃ cs : Array Value, w.heap[b]? = some (.cells cs 44 (0, 0)) ∧ cs.size = n * 4
/-- a row of rules whose operands begin rows of their own, in blocks from L to B -/
def SkR (w : World) (L B : Nat) (rs : List Ru) (g n : Nat) : Prop := RowRu w g n ∧ ∀ i t k s ks, rs[i]? = some (t, k, s, ks) → ∃ a m c, w.cell? ⟨g, i * 4 + 3, none⟩ = some (.slice a m c) ∧ SkA w L B ks a m
/-- the rules before a place stand in a row being filled -/
def DoneRu2 (w : World) (L B : Nat) (rs : List Ru) (cur : Array Value) (j : Nat) : Prop := ∀ i t k s ks, i < j → rs[i]? = some (t, k, s, ks) →
  cur[i * 4]? = some (.string t) ∧ cur[i * 4 + 1]? = some (.int .i64 k) ∧ cur[i * 4 + 2]? = some (.string s) ∧ ∃ a n c, cur[i * 4 + 3]? = some (.slice a n c) ∧ n ≤ c ∧ KS w L B ks a n
section
variable {w w' : World} {L B : Nat} {rs : List Ru} {cur : Array Value} {j : Nat} {k : Int} {s t : ByteArray} {ks : Fo}
theorem DoneRu2.zero : DoneRu2 w L B rs cur 0 := fun i _ _ _ _ h => absurd h (by omega)
theorem DoneRu2.keep {L' B' : Nat} (h : DoneRu2 w L B rs cur j) (hL : L' ≤ L) (hB : B ≤ B') (hk : ∀ g : Nat, L ≤ g → g < B → w'.heap[g]? = w.heap[g]?) : DoneRu2 w' L' B' rs cur j := fun i t k s ks hi hg =>
  let ⟨h0, h1, h2, a, n, c, h3, h4, h5⟩ := h i t k s ks hi hg
  ⟨h0, h1, h2, a, n, c, h3, h4, h5.keep hL hB hk⟩
theorem DoneRu2.step {g : Nat} (h : DoneRu2 w L B rs cur j) (hg : rs[j]? = some (t, k, s, ks)) {a : Option Addr} {n c : Nat} (hc : n ≤ c) (hk : KS w L B ks a n) (hs : j * 4 + 3 < cur.size) (hL : g < L) (x y z u : Value) :
    DoneRu2 ((((w.setCell ⟨g, j * 4, none⟩ x).setCell ⟨g, j * 4 + 1, none⟩ y).setCell ⟨g, j * 4 + 2, none⟩ z).setCell ⟨g, j * 4 + 3, none⟩ u) L B rs
      ((((cur.setIfInBounds (j * 4) (.string t)).setIfInBounds (j * 4 + 1) (.int .i64 k)).setIfInBounds (j * 4 + 2) (.string s)).setIfInBounds (j * 4 + 3) (.slice a n c)) (j + 1) := by
  intro i t' k' s' ks' hi hgi
  by_cases e : i = j
  · subst e
    rw [hg] at hgi
    simp only [Option.some.injEq, Prod.mk.injEq] at hgi
    obtain ⟨rfl, rfl, rfl, rfl⟩ := hgi
    refine ⟨?_, ?_, ?_, a, n, c, ?_, hc, (((hk.setCell (.inl hL) _ _).setCell (.inl hL) _ _).setCell (.inl hL) _ _).setCell (.inl hL) _ _⟩
    · rw [Array.getElem?_setIfInBounds_ne (by omega), Array.getElem?_setIfInBounds_ne (by omega), Array.getElem?_setIfInBounds_ne (by omega), Array.getElem?_setIfInBounds_self_of_lt (by omega)]
    · rw [Array.getElem?_setIfInBounds_ne (by omega), Array.getElem?_setIfInBounds_ne (by omega), Array.getElem?_setIfInBounds_self_of_lt (by simp; omega)]
    · rw [Array.getElem?_setIfInBounds_ne (by omega), Array.getElem?_setIfInBounds_self_of_lt (by simp; omega)]
    · rw [Array.getElem?_setIfInBounds_self_of_lt (by simp; omega)]
  · obtain ⟨h0, h1, h2, a', n', c', h3, h4, h5⟩ := h i t' k' s' ks' (by omega) hgi
    refine ⟨?_, ?_, ?_, a', n', c', ?_, h4, (((h5.setCell (.inl hL) _ _).setCell (.inl hL) _ _).setCell (.inl hL) _ _).setCell (.inl hL) _ _⟩
    · rw [Array.getElem?_setIfInBounds_ne (by omega), Array.getElem?_setIfInBounds_ne (by omega), Array.getElem?_setIfInBounds_ne (by omega), Array.getElem?_setIfInBounds_ne (by omega)]; exact h0
    · rw [Array.getElem?_setIfInBounds_ne (by omega), Array.getElem?_setIfInBounds_ne (by omega), Array.getElem?_setIfInBounds_ne (by omega), Array.getElem?_setIfInBounds_ne (by omega)]; exact h1
    · rw [Array.getElem?_setIfInBounds_ne (by omega), Array.getElem?_setIfInBounds_ne (by omega), Array.getElem?_setIfInBounds_ne (by omega), Array.getElem?_setIfInBounds_ne (by omega)]; exact h2
    · rw [Array.getElem?_setIfInBounds_ne (by omega), Array.getElem?_setIfInBounds_ne (by omega), Array.getElem?_setIfInBounds_ne (by omega), Array.getElem?_setIfInBounds_ne (by omega)]; exact h3
theorem DoneRu2.all {g : Nat} (h : DoneRu2 w L B rs cur rs.length) (hb : w.heap[g]? = some (.cells cur 44 (0, 0))) (hc : cur.size = rs.length * 4) (hg : g < L) (hB : g < B) : RuAt w g B rs (some ⟨g, 0, none⟩) rs.length ∧ SkR w L B rs g rs.length := by
  refine ⟨⟨rfl, fun _ => ⟨g, 0, rfl, Nat.le_refl _, hB, fun j t k s ks hg' => ?_⟩⟩, ⟨cur, hb, hc⟩, fun j t k s ks hg' => ?_⟩
  · obtain ⟨h0, h1, h2, a, n, c, h3, h4, h5⟩ := h j t k s ks (List.getElem?_eq_some_iff.1 hg').1 hg'
    rw [Nat.zero_add]
    exact ⟨(cell_of_row _ _ _ _ _ _ hb).trans h0, (cell_of_row _ _ _ _ _ _ hb).trans h1, (cell_of_row _ _ _ _ _ _ hb).trans h2, a, n, c, (cell_of_row _ _ _ _ _ _ hb).trans h3, h4, h5.1.more (by omega) (Nat.le_refl _)⟩
  · obtain ⟨h0, h1, h2, a, n, c, h3, h4, h5⟩ := h j t k s ks (List.getElem?_eq_some_iff.1 hg').1 hg'
    exact ⟨a, n, c, (cell_of_row _ _ _ _ _ _ hb).trans h3, h5.2⟩
end
theorem SkR.more {w : World} {L B B' g n : Nat} {rs : List Ru} (h : SkR w L B rs g n) (hB : B ≤ B') : SkR w L B' rs g n :=
  ⟨h.1, fun i t k s ks hg => let ⟨a, m, c, h6, h7⟩ := h.2 i t k s ks hg; ⟨a, m, c, h6, h7.more (Nat.le_refl _) hB⟩⟩
theorem SkR.setCell {w : World} {L B g n g' : Nat} {rs : List Ru} (h : SkR w L B rs g n) (h1 : g' < L ∨ B ≤ g') (h2 : g' ≠ g) (i : Nat) (v : Value) : SkR (w.setCell ⟨g', i, none⟩ v) L B rs g n := by
  obtain ⟨⟨cs, h3, h4⟩, h5⟩ := h
  have hb := Below.heap_setCell w ⟨g', i, none⟩ v g (by show g ≠ g'; omega)
  refine ⟨⟨cs, hb.trans h3, h4⟩, fun i t k s ks hg => ?_⟩
  obtain ⟨a, m, c, h6, h7⟩ := h5 i t k s ks hg
  exact ⟨a, m, c, (World.cell?_of_block hb).trans h6, h7.setCell h1 _ _⟩
/-- what toRule leaves -/
def ToRP2 (t : ByteArray) (k : Int) (s : ByteArray) (ks : Fo) (w : World) (e : Ending) (w' : World) : Prop :=
  ∃ g, e = .returned (.agg #[.string t, .int .i64 k, .string s, .slice (some ⟨g, 0, none⟩) ks.len ks.len]) ∧ KS w' w.heap.size w'.heap.size ks (some ⟨g, 0, none⟩) ks.len ∧ Below w.heap.size w w'

set_option maxHeartbeats 1000000 in
theorem toRule_sk (t : ByteArray) (k : Int) (s : ByteArray) (ks : Fo) (a : Option Addr) (n c : Nat) (w : World) (hk : KA w 0 w.heap.size ks a n) (ht : ks.len + ks.tot ≤ 1048576) :
    Calls Tryz.prog 8 #[.agg #[.string t, .int .i64 k, .string s, .slice a n c]] w (ToRP2 t k s ks w) := by
  obtain rfl : ks.len = n := hk.1
  have B3 := (((Below.refl w.heap.size w).alloc (Nat.le_refl _) (.cells #[.string t, .int .i64 k, .string s, .slice a ks.len c] 30)).alloc (by simp) (.cells #[.string .empty, .int .i64 0, .string .empty, .slice none 0 0] 44)).alloc (by simp; omega) (.cells #[.string t, .int .i64 0, .string .empty, .slice none 0 0] 44)
  have hz : (((w.alloc (.cells #[.string t, .int .i64 k, .string s, .slice a ks.len c] 30)).alloc (.cells #[.string .empty, .int .i64 0, .string .empty, .slice none 0 0] 44)).alloc (.cells #[.string t, .int .i64 0, .string .empty, .slice none 0 0] 44)).heap.size = w.heap.size + 3 := by simp
  have hb3 := BxR.new ((w.alloc (.cells #[.string t, .int .i64 k, .string s, .slice a ks.len c] 30)).alloc (.cells #[.string .empty, .int .i64 0, .string .empty, .slice none 0 0] 44)) t 0 .empty (.slice none 0 0) 44
  have hr3 := (BxR.new (w.alloc (.cells #[.string t, .int .i64 k, .string s, .slice a ks.len c] 30)) .empty 0 .empty (.slice none 0 0) 44).alloc (.cells #[.string t, .int .i64 0, .string .empty, .slice none 0 0] 44)
  simp only [World.size_alloc] at hb3 hr3
  have hk3 := hk.next B3
  go_enter Tryz.func8, Tryz.ntmps8
  go_wp2_with fail
  refine (toExpr_sk k s ks a ks.len c _ hk3 ht).mono ?_
  rintro e w1 ⟨g, rfl, hg, hB1⟩
  obtain ⟨c0, c1, c2, c3, f0, f1, f2, f3, hl⟩ := (hb3.next hB1).facts
  obtain ⟨d0, d1, d2, d3, e0, e1, e2, e3, hdl⟩ := (hr3.next hB1).facts
  rw [hz] at hg hB1
  have Bx := B3.trans (hB1.mono (by omega))
  clear hb3 hr3 hk3
  go_wp2_with fail
  refine bodyPost_ret (v := .agg #[.string t, .int .i64 k, .string s, .slice (some ⟨g, 0, none⟩) ks.len ks.len]) (by simp [results, Tryz.results8, go_sem, *]) rfl ?_
  refine ⟨g, rfl, (((((((hg.setCell (g := w.heap.size + 1 + 1) (.inl (by omega)) _ _).setCell (g := w.heap.size + 1 + 1) (.inl (by omega)) _ _).setCell (g := w.heap.size + 1 + 1) (.inl (by omega)) _ _).setCell (g := w.heap.size + 1) (.inl (by omega)) _ _).setCell (g := w.heap.size + 1) (.inl (by omega)) _ _).setCell (g := w.heap.size + 1) (.inl (by omega)) _ _).setCell (g := w.heap.size + 1) (.inl (by omega)) _ _).more (by omega) (by simp [World.setCell]), ?_⟩
  exact ((((((Bx.setCell (by simp; omega) _).setCell (by simp; omega) _).setCell (by simp; omega) _).setCell (by simp) _).setCell (by simp) _).setCell (by simp) _).setCell (by simp) _

set_option maxHeartbeats 1000000 in
theorem toRuleS_sk (rs : List Ru) (a : Option Addr) (n c : Nat) (w : World) (hf : RuAt w 0 w.heap.size rs a n) (ht : rs.length + ruTot rs ≤ 1048576) :
    Calls Tryz.prog 23 #[.slice a n c] w fun e w' => ∃ g, e = .returned (.slice (some ⟨g, 0, none⟩) n n) ∧ RuAt w' w.heap.size w'.heap.size rs (some ⟨g, 0, none⟩) n ∧ SkR w' (g + 1) w'.heap.size rs g n ∧ w.heap.size ≤ g ∧ g < w'.heap.size ∧ Below w.heap.size w w' := by
  have hlen := Lib.hid hf.1
  have hn : n ≤ 1048576 := by have := hf.1; omega
  have hL := Nat.le_refl w.heap.size
  obtain ⟨i0, hi, hz0, hz1, hz2⟩ := info_parts rule_info
  have hmk := fun W => make_row (P := Tryz.prog) 34 44 i0 _ Tryz.underlying34 hi hz0 .i64 .i64 n n (Nat.le_refl _) (by rw [hz2]; omega) (by omega) W
  go_enter Tryz.func23, Tryz.ntmps23
  go_wp2_with fail
  go_loopw [4] (fun i wr => ∃ (j : Nat) (cur : Array Value), j ≤ n ∧ i = .int .i64 j ∧ wr.heap[w.heap.size]? = some (.cells cur 44 (0, 0)) ∧ cur.size = n * 4 ∧ DoneRu2 wr (w.heap.size + 1) wr.heap.size rs cur j ∧ Below w.heap.size w wr) (fun i _ => n - (intOf i).toNat)
  case atStart => exact ⟨0, _, Nat.zero_le _, rfl, heap_alloc_new w _, by simp [madeCells], DoneRu2.zero, (Below.refl _ _).alloc (Nat.le_refl _) _⟩
  case round =>
    obtain ⟨j, cur, hj, rfl, hblk, hsz, hdone, hB⟩ := hrel
    by_cases hlt : j < n
    · obtain ⟨b, off, t, k, s, ks, a', n', c', rfl, _, hb, hg, hc0, hc1, hc2, hc3, hcap, hks⟩ := (hf.below hB).get hlt
      have Hg := Lib.hid hg
      have htk := ruTot_get hg
      simp only [ruSz] at htk
      have hks' := hks.more (Nat.le_refl 0) hB.size
      have Hsz := Lib.hid hsz
      have Hblk := Lib.hid hblk
      have Hdone := Lib.hid hdone
      have hgl : w.heap.size < wr.heap.size := blk_lt hblk
      have hx0 : wr.cell? ⟨w.heap.size, j * 4, none⟩ = some (cur[j * 4]'(by omega)) := by rw [cell_of_row wr _ _ _ _ _ hblk]; simp
      have hx1 : wr.cell? ⟨w.heap.size, j * 4 + 1, none⟩ = some (cur[j * 4 + 1]'(by omega)) := by rw [cell_of_row wr _ _ _ _ _ hblk]; simp
      have hx2 : wr.cell? ⟨w.heap.size, j * 4 + 2, none⟩ = some (cur[j * 4 + 2]'(by omega)) := by rw [cell_of_row wr _ _ _ _ _ hblk]; simp
      have hx3 : wr.cell? ⟨w.heap.size, j * 4 + 3, none⟩ = some (cur[j * 4 + 3]'(by omega)) := by rw [cell_of_row wr _ _ _ _ _ hblk]; simp
      generalize cur[j * 4]'(by omega) = v0 at hx0
      generalize cur[j * 4 + 1]'(by omega) = v1 at hx1
      generalize cur[j * 4 + 2]'(by omega) = v2 at hx2
      generalize cur[j * 4 + 3]'(by omega) = v3 at hx3
      have hz0a := blk_frozen hblk (j * 4)
      have hz1a := blk_frozen hblk (j * 4 + 1)
      have hz2a := blk_frozen hblk (j * 4 + 2)
      have hz3a := blk_frozen hblk (j * 4 + 3)
      clear hblk hsz hg hdone
      go_wp2_with fail
      refine (toRule_sk t k s ks a' n' c' _ hks' (by omega)).mono ?_
      rintro e w1 ⟨g1, rfl, hk1, hB1⟩
      have hy0 := (hB1.cell (p := ⟨w.heap.size, j * 4, none⟩) hgl).trans hx0
      have hy1 := (hB1.cell (p := ⟨w.heap.size, j * 4 + 1, none⟩) hgl).trans hx1
      have hy2 := (hB1.cell (p := ⟨w.heap.size, j * 4 + 2, none⟩) hgl).trans hx2
      have hy3 := (hB1.cell (p := ⟨w.heap.size, j * 4 + 3, none⟩) hgl).trans hx3
      have hf0 := (hB1.frozen (p := ⟨w.heap.size, j * 4, none⟩) hgl).trans hz0a
      have hf1 := (hB1.frozen (p := ⟨w.heap.size, j * 4 + 1, none⟩) hgl).trans hz1a
      have hf2 := (hB1.frozen (p := ⟨w.heap.size, j * 4 + 2, none⟩) hgl).trans hz2a
      have hf3 := (hB1.frozen (p := ⟨w.heap.size, j * 4 + 3, none⟩) hgl).trans hz3a
      have hb1 := Lib.hid ((hB1.block w.heap.size hgl).trans Hblk.out)
      have hdn := Lib.hid ((Hdone.out.keep (Nat.le_refl _) hB1.size (fun g _ hg => hB1.block g hg)).step (g := w.heap.size) Hg.out (Nat.le_refl _) (hk1.more (by omega) (Nat.le_refl _)) (by have := Hsz.out; omega) (by omega) (.string t) (.int .i64 k) (.string s) (.slice (some ⟨g1, 0, none⟩) ks.len ks.len))
      have hBB := hB.trans (hB1.mono hB.size)
      clear hx0 hx1 hx2 hx3 hz0a hz1a hz2a hz3a
      go_wp2_with fail
      exact ⟨⟨j + 1, _, by omega, by go_num, blk_set (blk_set (blk_set (blk_set hb1.out _ _) _ _) _ _) _ _, by simp [Hsz.out], by rw [set_size, set_size, set_size, set_size]; exact hdn.out, (((hBB.setCell (Nat.le_refl _) _).setCell (Nat.le_refl _) _).setCell (Nat.le_refl _) _).setCell (Nat.le_refl _) _⟩, by simp [intOf]; omega⟩
    · have e : j = n := by omega
      have Hblk := Lib.hid hblk
      have Hdone := Lib.hid hdone
      have Hsz := Lib.hid hsz
      clear hsz hblk hdone
      subst e
      go_wp2_with fail
      go_ret
      obtain rfl := hlen.out
      obtain ⟨h1, h2⟩ := Hdone.out.all Hblk.out Hsz.out (Nat.lt_succ_self _) (blk_lt Hblk.out)
      exact ⟨_, rfl, h1, h2, Nat.le_refl _, blk_lt Hblk.out, hB⟩
/-- what toProject leaves -/
def ToPP2 (fs : List Fl) (rs : List Ru) (w : World) (e : Ending) (w' : World) : Prop :=
  ∃ g1 g2, e = .returned (.agg #[.slice (some ⟨g1, 0, none⟩) fs.length fs.length, .slice (some ⟨g2, 0, none⟩) rs.length rs.length]) ∧ FilesAt w' w'.heap.size (some ⟨g1, 0, none⟩) fs.length fs ∧ RuAt w' w.heap.size w'.heap.size rs (some ⟨g2, 0, none⟩) rs.length ∧ OwnF w' 83 g1 fs ∧ SkR w' (g2 + 1) w'.heap.size rs g2 rs.length ∧ w.heap.size ≤ g1 ∧ g1 < g2 ∧ g2 < w'.heap.size ∧ Below w.heap.size w w'

set_option maxHeartbeats 1000000 in
theorem toProject_sk (a1 a2 : Option Addr) (n1 n2 c1 c2 : Nat) (fs : List Fl) (rs : List Ru) (w : World) (hf : FilesAt w w.heap.size a1 n1 fs) (hr : RuAt w 0 w.heap.size rs a2 n2) (hz : fs.length + tot fs + (rs.length + ruTot rs) ≤ 1048576) :
    Calls Tryz.prog 7 #[.agg #[.slice a1 n1 c1, .slice a2 n2 c2]] w (ToPP2 fs rs w) := by
  obtain rfl := hf.1
  obtain rfl := hr.1
  have hB0 := (((Below.refl w.heap.size w).alloc (Nat.le_refl _) (.cells #[.slice a1 fs.length c1, .slice a2 rs.length c2] 25)).alloc (by simp) (.cells #[.slice none 0 0, .slice none 0 0] 36)).alloc (by simp; omega) (.cells #[.slice none 0 0, .slice none 0 0] 36)
  have hw0 : (((w.alloc (.cells #[.slice a1 fs.length c1, .slice a2 rs.length c2] 25)).alloc (.cells #[.slice none 0 0, .slice none 0 0] 36)).alloc (.cells #[.slice none 0 0, .slice none 0 0] 36)).heap.size = w.heap.size + 1 + 1 + 1 := by simp
  have hP0 := ((BxP.new w (.slice a1 fs.length c1) (.slice a2 rs.length c2) 25).alloc (.cells #[.slice none 0 0, .slice none 0 0] 36)).alloc (.cells #[.slice none 0 0, .slice none 0 0] 36)
  have hG0 := (BxP.new (w.alloc (.cells #[.slice a1 fs.length c1, .slice a2 rs.length c2] 25)) (.slice none 0 0) (.slice none 0 0) 36).alloc (.cells #[.slice none 0 0, .slice none 0 0] 36)
  have hO0 := BxP.new ((w.alloc (.cells #[.slice a1 fs.length c1, .slice a2 rs.length c2] 25)).alloc (.cells #[.slice none 0 0, .slice none 0 0] 36)) (.slice none 0 0) (.slice none 0 0) 36
  simp only [World.size_alloc] at hG0 hO0
  go_enter Tryz.func7, Tryz.ntmps7
  go_wp2_with fail
  refine (toFileS_any a1 fs.length c1 fs _ ((hf.below hB0).more hB0.size) (by omega)).mono ?_
  rintro e w1 ⟨g1, rfl, hg1, hown, hB1⟩
  have hP1 := hP0.next hB1
  have hG1 := hG0.next hB1
  have hO1 := hO0.next hB1
  rw [hw0] at hg1
  have B1 := hB0.trans (hB1.mono hB0.size)
  obtain ⟨p0, p1, pf0, pf1, hpl⟩ := hP1.facts
  obtain ⟨o0, o1, of0, of1, hol⟩ := hO1.facts
  have hO2 := hO1.set0 (.slice (some ⟨g1, 0, none⟩) fs.length fs.length)
  have hP2 := hP1.other (g' := w.heap.size + 1 + 1) (by omega) 0 (.slice (some ⟨g1, 0, none⟩) fs.length fs.length)
  have hG2 := hG1.other (g' := w.heap.size + 1 + 1) (by omega) 0 (.slice (some ⟨g1, 0, none⟩) fs.length fs.length)
  have B2 : Below w.heap.size w (w1.setCell ⟨w.heap.size + 1 + 1, 0, none⟩ (.slice (some ⟨g1, 0, none⟩) fs.length fs.length)) := B1.setCell (Nat.le_trans (Nat.le_succ _) (Nat.le_succ _)) _
  have hown2 : OwnF (w1.setCell ⟨w.heap.size + 1 + 1, 0, none⟩ (.slice (some ⟨g1, 0, none⟩) fs.length fs.length)) 83 g1 fs := (Below.heap_setCell w1 _ _ g1 (by simp; omega)).trans hown
  clear hO1 hP1 hG1 hO0 hP0 hG0 hown
  go_wp2_with fail
  generalize w1.setCell ⟨w.heap.size + 1 + 1, 0, none⟩ (.slice (some ⟨g1, 0, none⟩) fs.length fs.length) = W at *
  refine (toRuleS_sk rs a2 rs.length c2 _ (hr.next B2) (by omega)).mono ?_
  rintro e w3 ⟨g2, rfl, hru, hsk, hgl, hgh, hB3⟩
  have hg12 : g1 < g2 := Nat.lt_of_lt_of_le hown2.lt hgl
  have hP3 := hP2.next hB3
  have hG3 := hG2.next hB3
  have hO3 := hO2.next hB3
  have B3 := B2.trans (hB3.mono B2.size)
  have hWl := blk_lt hO2
  have hown3 : OwnF w3 83 g1 fs := (hB3.block g1 hown2.lt).trans hown2
  obtain ⟨q0, q1, qf0, qf1, hql⟩ := hG3.facts
  obtain ⟨r0, r1, rf0, rf1, hrl⟩ := hO3.facts
  go_wp2_with fail
  refine bodyPost_ret (v := .agg #[.slice (some ⟨g1, 0, none⟩) fs.length fs.length, .slice (some ⟨g2, 0, none⟩) rs.length rs.length]) (by simp [results, Tryz.results7, go_sem, *]) rfl ?_
  have hs2 := B2.size
  have hownW : OwnF (((w3.setCell ⟨w.heap.size + 1 + 1, 1, none⟩ (.slice (some ⟨g2, 0, none⟩) rs.length rs.length)).setCell ⟨w.heap.size + 1, 0, none⟩ (.slice (some ⟨g1, 0, none⟩) fs.length fs.length)).setCell ⟨w.heap.size + 1, 1, none⟩ (.slice (some ⟨g2, 0, none⟩) rs.length rs.length)) 83 g1 fs :=
    (Below.heap_setCell _ _ _ g1 (by simp; omega)).trans ((Below.heap_setCell _ _ _ g1 (by simp; omega)).trans ((Below.heap_setCell _ _ _ g1 (by simp; omega)).trans hown3))
  exact ⟨g1, g2, rfl, hownW.in_ rfl, (((hru.setCell (g := w.heap.size + 1 + 1) (.inl (by omega)) _ _).setCell (g := w.heap.size + 1) (.inl (by omega)) _ _).setCell (g := w.heap.size + 1) (.inl (by omega)) _ _).more hs2 (by simp [World.setCell]), hownW, (((hsk.setCell (g' := w.heap.size + 1 + 1) (by omega) (by omega) _ _).setCell (g' := w.heap.size + 1) (by omega) (by omega) _ _).setCell (g' := w.heap.size + 1) (by omega) (by omega) _ _).more (by simp [World.setCell]), by omega, hg12, by simpa [World.setCell] using hgh,
    ((B3.setCell (Nat.le_trans (Nat.le_succ _) (Nat.le_succ _)) _).setCell (Nat.le_succ _) _).setCell (Nat.le_succ _) _⟩

end Go.Proofs.YtmmjeokmoffdpaaGreat
