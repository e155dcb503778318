/-
  The law's helper toExpr: a copy of an expression, all of it in new memory.
-/
import Derived.Test.YtfnnpeggjnonjaaProg
import Derived.Test.YtfnnpeggjnonjaaTree
import Derived.StillTailTactics
namespace Go.Proofs.Ytfnnpeggjnonjaa
set_option linter.unusedVariables false
open Go.RowKit

theorem set_size (w : World) (p : Addr) (u : Value) : (w.setCell p u).heap.size = w.heap.size := by simp [World.setCell]
/-- the nodes up to a place stand in these cells -/
def DoneTo (w : World) (L B : Nat) (f : Fo) (cur : Array Value) (j : Nat) : Prop := ∀ i k s ks, i < j → f.get i = some (k, s, ks) →
  cur[i * 3]? = some (.int .i64 k) ∧ cur[i * 3 + 1]? = some (.string s) ∧ ∃ a n, cur[i * 3 + 2]? = some (.slice a n n) ∧ KA w L B ks a n
section
variable {w w' : World} {L B B' g j n : Nat} {f ks : Fo} {k : Int} {s : ByteArray} {cur : Array Value} {a : Option Addr}
theorem DoneTo.zero : DoneTo w L B f cur 0 := fun i k s ks h => absurd h (by omega)
theorem DoneTo.next (h : DoneTo w L w.heap.size f cur j) (hb : Below w.heap.size w w') : DoneTo w' L w'.heap.size f cur j := fun i k s ks hi hg =>
  let ⟨h1, h2, a, n, h3, h4⟩ := h i k s ks hi hg
  ⟨h1, h2, a, n, h3, h4.next hb⟩
theorem DoneTo.step (h : DoneTo w L B f cur j) (hg : f.get j = some (k, s, ks)) (hk : KA w L B ks a n) (hs : j * 3 + 2 < cur.size) (hL : g < L) (x y z : Value) :
    DoneTo (((w.setCell ⟨g, j * 3, none⟩ x).setCell ⟨g, j * 3 + 1, none⟩ y).setCell ⟨g, j * 3 + 2, none⟩ z) L B f
      (((cur.setIfInBounds (j * 3) (.int .i64 k)).setIfInBounds (j * 3 + 1) (.string s)).setIfInBounds (j * 3 + 2) (.slice a n n)) (j + 1) := by
  intro i k' s' ks' hi hgi
  by_cases e : i = j
  · subst e
    rw [hg] at hgi
    simp only [Option.some.injEq, Prod.mk.injEq] at hgi
    obtain ⟨rfl, rfl, rfl⟩ := hgi
    refine ⟨?_, ?_, a, n, ?_, ((hk.setCell (.inl hL) _ _).setCell (.inl hL) _ _).setCell (.inl hL) _ _⟩
    · rw [Array.getElem?_setIfInBounds_ne (by omega), Array.getElem?_setIfInBounds_ne (by omega), Array.getElem?_setIfInBounds_self_of_lt (by omega)]
    · rw [Array.getElem?_setIfInBounds_ne (by omega), Array.getElem?_setIfInBounds_self_of_lt (by simp; omega)]
    · rw [Array.getElem?_setIfInBounds_self_of_lt (by simp; omega)]
  · obtain ⟨h1, h2, a', n', h3, h4⟩ := h i k' s' ks' (by omega) hgi
    refine ⟨?_, ?_, a', n', ?_, ((h4.setCell (.inl hL) _ _).setCell (.inl hL) _ _).setCell (.inl hL) _ _⟩
    · rw [Array.getElem?_setIfInBounds_ne (by omega), Array.getElem?_setIfInBounds_ne (by omega), Array.getElem?_setIfInBounds_ne (by omega)]; exact h1
    · rw [Array.getElem?_setIfInBounds_ne (by omega), Array.getElem?_setIfInBounds_ne (by omega), Array.getElem?_setIfInBounds_ne (by omega)]; exact h2
    · rw [Array.getElem?_setIfInBounds_ne (by omega), Array.getElem?_setIfInBounds_ne (by omega), Array.getElem?_setIfInBounds_ne (by omega)]; exact h3
/-- a row of cells that holds all the nodes is the list -/
theorem DoneTo.all {e : TypeId} (h : DoneTo w (g + 1) w.heap.size f cur n) (hl : f.len = n) (hb : w.heap[g]? = some (.cells cur e (0, 0))) (hL : L ≤ g) : KA w L w.heap.size f (some ⟨g, 0, none⟩) n := by
  refine ⟨hl, fun hn => ⟨g, 0, rfl, hL, blk_lt hb, seg_of fun j k s ks hg => ?_⟩⟩
  obtain ⟨h1, h2, a, m, h3, h4⟩ := h j k s ks (by have := Fo.get_lt hg; omega) hg
  refine ⟨?_, ?_, a, m, m, ?_, Nat.le_refl _, h4.more (by omega) (Nat.le_refl _)⟩
  · rw [Nat.zero_add, cell_of_row _ _ _ _ _ _ hb]; exact h1
  · rw [Nat.zero_add, cell_of_row _ _ _ _ _ _ hb]; exact h2
  · rw [Nat.zero_add, cell_of_row _ _ _ _ _ _ hb]; exact h3
end
/-- the contract of toExprS at one list -/
def ToC (f : Fo) : Prop := ∀ (a : Option Addr) (n c : Nat) (w : World), KA w 0 w.heap.size f a n → f.len + f.tot ≤ 1048576 →
  Calls Try.prog 16 #[.slice a n c] w fun e w' => ∃ g, e = .returned (.slice (some ⟨g, 0, none⟩) n n) ∧ KA w' w.heap.size w'.heap.size f (some ⟨g, 0, none⟩) n ∧ Below w.heap.size w w'
/-- what toExpr leaves -/
def ToP (k : Int) (s : ByteArray) (ks : Fo) (w : World) (e : Ending) (w' : World) : Prop :=
  ∃ g, e = .returned (.agg #[.int .i64 k, .string s, .slice (some ⟨g, 0, none⟩) ks.len ks.len]) ∧ KA w' w.heap.size w'.heap.size ks (some ⟨g, 0, none⟩) ks.len ∧ Below w.heap.size w w'

theorem expr_info : (Try.prog.info? 29).map (fun i => (i.zero, i.size, i.bytes)) = some (some (.agg #[.int .i64 0, .string .empty, .slice none 0 0]), 3, 48) := by kernel_rfl

set_option maxHeartbeats 400000 in
theorem toE_of (k : Int) (s : ByteArray) (ks : Fo) (ih : ToC ks) (a : Option Addr) (n c : Nat) (w : World) (hk : KA w 0 w.heap.size ks a n) (ht : ks.len + ks.tot ≤ 1048576) :
    Calls Try.prog 7 #[.agg #[.int .i64 k, .string s, .slice a n c]] w (ToP k s ks w) := by
  obtain rfl : ks.len = n := hk.1
  have B3 := (((Below.refl w.heap.size w).alloc (Nat.le_refl _) (.cells #[.int .i64 k, .string s, .slice a ks.len c] 24)).alloc (by simp) (.cells #[.int .i64 0, .string .empty, .slice none 0 0] 29)).alloc (by simp; omega) (.cells #[.int .i64 k, .string s, .slice none 0 0] 29)
  have hz : (((w.alloc (.cells #[.int .i64 k, .string s, .slice a ks.len c] 24)).alloc (.cells #[.int .i64 0, .string .empty, .slice none 0 0] 29)).alloc (.cells #[.int .i64 k, .string s, .slice none 0 0] 29)).heap.size = w.heap.size + 3 := by simp
  have hb3 := heap_alloc_new ((w.alloc (.cells #[.int .i64 k, .string s, .slice a ks.len c] 24)).alloc (.cells #[.int .i64 0, .string .empty, .slice none 0 0] 29)) (.cells #[.int .i64 k, .string s, .slice none 0 0] 29)
  rw [show ((w.alloc (.cells #[.int .i64 k, .string s, .slice a ks.len c] 24)).alloc (.cells #[.int .i64 0, .string .empty, .slice none 0 0] 29)).heap.size = w.heap.size + 1 + 1 from by simp] at hb3
  have hr2 : ((w.alloc (.cells #[.int .i64 k, .string s, .slice a ks.len c] 24)).alloc (.cells #[.int .i64 0, .string .empty, .slice none 0 0] 29)).heap[w.heap.size + 1]? = some (.cells #[.int .i64 0, .string .empty, .slice none 0 0] 29 (0, 0)) := by
    have := heap_alloc_new (w.alloc (.cells #[.int .i64 k, .string s, .slice a ks.len c] 24)) (.cells #[.int .i64 0, .string .empty, .slice none 0 0] 29)
    rw [show (w.alloc (.cells #[.int .i64 k, .string s, .slice a ks.len c] 24)).heap.size = w.heap.size + 1 from by simp] at this
    exact this
  have hr3 := (Below.heap_alloc ((w.alloc (.cells #[.int .i64 k, .string s, .slice a ks.len c] 24)).alloc (.cells #[.int .i64 0, .string .empty, .slice none 0 0] 29)) (.cells #[.int .i64 k, .string s, .slice none 0 0] 29) (w.heap.size + 1) (by simp)).trans hr2
  have hk3 := hk.next B3
  go_enter Try.func7, Try.ntmps7
  go_wp2_with fail
  refine (ih a ks.len c _ hk3 ht).mono ?_
  rintro e w1 ⟨g, rfl, hg, hB1⟩
  rw [hz] at hg hB1
  have hb1 : w1.heap[w.heap.size + 1 + 1]? = _ := (hB1.block (w.heap.size + 1 + 1) (by omega)).trans hb3
  have hc0 : w1.cell? ⟨w.heap.size + 1 + 1, 0, none⟩ = some (.int .i64 k) := by rw [cell_of_row _ _ _ _ _ _ hb1]; rfl
  have hc1 : w1.cell? ⟨w.heap.size + 1 + 1, 1, none⟩ = some (.string s) := by rw [cell_of_row _ _ _ _ _ _ hb1]; rfl
  have hc2 : w1.cell? ⟨w.heap.size + 1 + 1, 2, none⟩ = some (.slice none 0 0) := by rw [cell_of_row _ _ _ _ _ _ hb1]; rfl
  have hf2 := blk_frozen hb1 2
  have hr1 := (hB1.block (w.heap.size + 1) (by omega)).trans hr3
  have hd0 : w1.cell? ⟨w.heap.size + 1, 0, none⟩ = some (.int .i64 0) := by rw [cell_of_row _ _ _ _ _ _ hr1]; rfl
  have hd1 : w1.cell? ⟨w.heap.size + 1, 1, none⟩ = some (.string .empty) := by rw [cell_of_row _ _ _ _ _ _ hr1]; rfl
  have hd2 : w1.cell? ⟨w.heap.size + 1, 2, none⟩ = some (.slice none 0 0) := by rw [cell_of_row _ _ _ _ _ _ hr1]; rfl
  have he0 := blk_frozen hr1 0
  have he1 := blk_frozen hr1 1
  have he2 := blk_frozen hr1 2
  have Bx := B3.trans (hB1.mono (by omega))
  clear hb1 hb3 hk3 hr2 hr3 hr1
  go_wp2_with fail
  refine bodyPost_ret (v := .agg #[.int .i64 k, .string s, .slice (some ⟨g, 0, none⟩) ks.len ks.len]) (by simp [results, Try.results7, go_sem, hd0, hd1, hd2]) rfl ?_
  refine ⟨g, rfl, ((((hg.setCell (g := w.heap.size + 1 + 1) (.inl (by omega)) _ _).setCell (g := w.heap.size + 1) (.inl (by omega)) _ _).setCell (g := w.heap.size + 1) (.inl (by omega)) _ _).setCell (g := w.heap.size + 1) (.inl (by omega)) _ _).more (by omega) (by simp [World.setCell]), ?_⟩
  exact (((Bx.setCell (by simp; omega) _).setCell (by simp) _).setCell (by simp) _).setCell (by simp) _

set_option maxHeartbeats 800000 in
theorem toS_of (f : Fo) (ih : ∀ ks : Fo, ks.size < f.size → ToC ks) : ToC f := by
    intro a n c w hf ht
    have hlen := Lib.hid hf.1
    have hn : n ≤ 1048576 := by have := hf.1; omega
    have hL := Nat.le_refl w.heap.size
    obtain ⟨i0, hi, hz0, hz1, hz2⟩ := info_parts expr_info
    have hmk := fun W => make_row (P := Try.prog) 27 29 i0 _ Try.underlying27 hi hz0 .i64 .i64 n n (Nat.le_refl _) (by rw [hz2]; omega) (by omega) W
    go_enter Try.func16, Try.ntmps16
    go_wp2_with fail
    go_loopw [4] (fun i wr => ∃ (j : Nat) (cur : Array Value), j ≤ n ∧ i = .int .i64 j ∧ wr.heap[w.heap.size]? = some (.cells cur 29 (0, 0)) ∧ cur.size = n * 3 ∧ DoneTo wr (w.heap.size + 1) wr.heap.size f cur j ∧ Below w.heap.size w wr) (fun i _ => n - (intOf i).toNat)
    case atStart => exact ⟨0, _, Nat.zero_le _, rfl, heap_alloc_new w _, by simp [madeCells], DoneTo.zero, (Below.refl _ _).alloc (Nat.le_refl _) _⟩
    case round =>
      obtain ⟨j, cur, hj, rfl, hblk, hsz, hdone, hB⟩ := hrel
      by_cases hlt : j < n
      · obtain ⟨b, off, k, s, ks, a', n', c', rfl, _, hb, hg, hc1, hc2, hc3, hcap, hks⟩ := (hf.below hB).get hlt
        have Hg := Lib.hid hg
        have hsk := Fo.get_size hg
        have htk := Fo.get_tot hg
        have hks' := hks.more (Nat.le_refl 0) hB.size
        have Hsz := Lib.hid hsz
        have Hblk := Lib.hid hblk
        have Hdone := Lib.hid hdone
        have hgl : w.heap.size < wr.heap.size := blk_lt hblk
        have hx1 : wr.cell? ⟨w.heap.size, j * 3, none⟩ = some (cur[j * 3]'(by omega)) := by rw [cell_of_row wr _ _ _ _ _ hblk]; simp
        have hx2 : wr.cell? ⟨w.heap.size, j * 3 + 1, none⟩ = some (cur[j * 3 + 1]'(by omega)) := by rw [cell_of_row wr _ _ _ _ _ hblk]; simp
        have hx3 : wr.cell? ⟨w.heap.size, j * 3 + 2, none⟩ = some (cur[j * 3 + 2]'(by omega)) := by rw [cell_of_row wr _ _ _ _ _ hblk]; simp
        generalize cur[j * 3]'(by omega) = v1 at hx1
        generalize cur[j * 3 + 1]'(by omega) = v2 at hx2
        generalize cur[j * 3 + 2]'(by omega) = v3 at hx3
        have hz1a := blk_frozen hblk (j * 3)
        have hz1b := blk_frozen hblk (j * 3 + 1)
        have hz1c := blk_frozen hblk (j * 3 + 2)
        have hsl : s.size + ks.len + ks.tot ≤ 1048576 := by omega
        clear hblk hsz hg hdone
        go_wp2_with fail
        refine (toE_of k s ks (ih ks (by omega)) a' n' c' _ hks' (by omega)).mono ?_
        rintro e w1 ⟨g1, rfl, hk1, hB1⟩
        have hy1 := (hB1.cell (p := ⟨w.heap.size, j * 3, none⟩) hgl).trans hx1
        have hy2 := (hB1.cell (p := ⟨w.heap.size, j * 3 + 1, none⟩) hgl).trans hx2
        have hy3 := (hB1.cell (p := ⟨w.heap.size, j * 3 + 2, none⟩) hgl).trans hx3
        have hf1 := (hB1.frozen (p := ⟨w.heap.size, j * 3, none⟩) hgl).trans hz1a
        have hf2 := (hB1.frozen (p := ⟨w.heap.size, j * 3 + 1, none⟩) hgl).trans hz1b
        have hf3 := (hB1.frozen (p := ⟨w.heap.size, j * 3 + 2, none⟩) hgl).trans hz1c
        have hb1 := Lib.hid ((hB1.block w.heap.size hgl).trans Hblk.out)
        have hdn := Lib.hid ((Hdone.out.next hB1).step (g := w.heap.size) Hg.out (hk1.more (by omega) (Nat.le_refl _)) (by have := Hsz.out; omega) (by omega) (.int .i64 k) (.string s) (.slice (some ⟨g1, 0, none⟩) ks.len ks.len))
        have hBB := hB.trans (hB1.mono hB.size)
        clear hx1 hx2 hx3 hz1a hz1b hz1c
        go_wp2_with fail
        exact ⟨⟨j + 1, _, by omega, by go_num, blk_set (blk_set (blk_set hb1.out _ _) _ _) _ _, by simp [Hsz.out], by rw [set_size, set_size, set_size]; exact hdn.out, ((hBB.setCell (Nat.le_refl _) _).setCell (Nat.le_refl _) _).setCell (Nat.le_refl _) _⟩, by simp [intOf]; omega⟩
      · have e : j = n := by omega
        have Hblk := Lib.hid hblk
        have Hdone := Lib.hid hdone
        clear hsz hblk hdone
        subst e
        go_wp2_with fail
        go_ret
        exact ⟨_, rfl, Hdone.out.all hlen.out Hblk.out (Nat.le_refl _), hB⟩
theorem toS_all (N : Nat) : ∀ f : Fo, f.size ≤ N → ToC f := by
  induction N with
  | zero => exact fun f hN => toS_of f fun ks h => absurd h (by omega)
  | succ N ih => exact fun f hN => toS_of f fun ks h => ih ks (by omega)
theorem toExpr_any (k : Int) (s : ByteArray) (ks : Fo) (a : Option Addr) (n c : Nat) (w : World) (hk : KA w 0 w.heap.size ks a n) (ht : ks.len + ks.tot ≤ 1048576) :
    Calls Try.prog 7 #[.agg #[.int .i64 k, .string s, .slice a n c]] w (ToP k s ks w) :=
  toE_of k s ks (toS_all ks.size ks (Nat.le_refl _)) a n c w hk ht
end Go.Proofs.Ytfnnpeggjnonjaa
