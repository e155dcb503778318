/-
  The law's helper toExpr once more: each list of its copy begins a row of its own.
-/
import Derived.Test.YtfnnpeggjnonjaaTreeT
import Derived.Test.YtfnnpeggjnonjaaMarkE
namespace Go.Proofs.Ytfnnpeggjnonjaa
set_option linter.unusedVariables false
open Go.RowKit

section
variable {w w' : World} {L L' B B' b j n : Nat} {f ks : Fo} {k : Int} {s : ByteArray} {a : Option Addr}
theorem sk_keep (hL : L' ≤ L) (hB : B ≤ B') (hk : ∀ g : Nat, L ≤ g → g < B → w'.heap[g]? = w.heap[g]?) : ∀ {f : Fo} {b j : Nat}, L ≤ b → b < B → SkS w L B f b j → SkS w' L' B' f b j
  | .nil, _, _, _, _, _ => trivial
  | .node k s ks r, b, j, h1, h2, ⟨⟨a, m, c, h3, h4, h5⟩, h6⟩ => ⟨⟨a, m, c, (by
      have : w'.cell? ⟨b, j * 3 + 2, none⟩ = w.cell? ⟨b, j * 3 + 2, none⟩ := World.cell?_of_block (hk b h1 h2)
      exact this.trans h3), h4, fun hm => let ⟨b', e, hl, hb, ⟨cs, hr, hc⟩, hs⟩ := h5 hm; ⟨b', e, by omega, by omega, ⟨cs, (hk b' hl hb).trans hr, hc⟩, sk_keep hL hB hk hl hb hs⟩⟩, sk_keep hL hB hk h1 h2 h6⟩
theorem SkA.keep (h : SkA w L B f a n) (hL : L' ≤ L) (hB : B ≤ B') (hk : ∀ g : Nat, L ≤ g → g < B → w'.heap[g]? = w.heap[g]?) : SkA w' L' B' f a n :=
  ⟨h.1, fun hn => let ⟨b, e, hl, hb, ⟨cs, hr, hc⟩, hs⟩ := h.2 hn; ⟨b, e, by omega, by omega, ⟨cs, (hk b hl hb).trans hr, hc⟩, sk_keep hL hB hk hl hb hs⟩⟩
theorem SkA.more (h : SkA w L B f a n) (hL : L' ≤ L) (hB : B ≤ B') : SkA w L' B' f a n := h.keep hL hB fun _ _ _ => rfl
theorem SkA.setCell (h : SkA w L B f a n) {g : Nat} (hg : g < L ∨ B ≤ g) (i : Nat) (u : Value) : SkA (w.setCell ⟨g, i, none⟩ u) L B f a n :=
  h.keep (Nat.le_refl _) (Nat.le_refl _) fun g' h1 h2 => Below.heap_setCell w ⟨g, i, none⟩ u g' (by show g' ≠ g; omega)
theorem SkA.below (h : SkA w L B f a n) (hb : Below B w w') : SkA w' L B f a n := h.keep (Nat.le_refl _) (Nat.le_refl _) fun g _ hg => hb.block g hg
theorem SkA.next (h : SkA w L w.heap.size f a n) (hb : Below w.heap.size w w') : SkA w' L w'.heap.size f a n := (h.below hb).more (Nat.le_refl _) hb.size
theorem sk_of : ∀ {f : Fo} {b j : Nat}, (∀ i k s ks, f.get i = some (k, s, ks) → ∃ a n c, w.cell? ⟨b, (j + i) * 3 + 2, none⟩ = some (.slice a n c) ∧ SkA w L B ks a n) → SkS w L B f b j
  | .nil, _, _, _ => trivial
  | .node k s ks r, b, j, h => by
    obtain ⟨a, n, c, h1, h2⟩ := h 0 k s ks rfl
    exact ⟨⟨a, n, c, h1, h2.1, h2.2⟩, sk_of fun i k' s' ks' hg => by
      obtain ⟨a', n', c', h3, h4⟩ := h (i + 1) k' s' ks' hg
      exact ⟨a', n', c', by rw [show j + 1 + i = j + (i + 1) from by omega]; exact h3, h4⟩⟩
/-- these nodes, each list at the head of a row -/
def KS (w : World) (L B : Nat) (f : Fo) (a : Option Addr) (n : Nat) : Prop := KA w L B f a n ∧ SkA w L B f a n
theorem KS.more (h : KS w L B f a n) (hL : L' ≤ L) (hB : B ≤ B') : KS w L' B' f a n := ⟨h.1.more hL hB, h.2.more hL hB⟩
theorem KS.setCell (h : KS w L B f a n) {g : Nat} (hg : g < L ∨ B ≤ g) (i : Nat) (u : Value) : KS (w.setCell ⟨g, i, none⟩ u) L B f a n := ⟨h.1.setCell hg i u, h.2.setCell hg i u⟩
theorem KS.next (h : KS w L w.heap.size f a n) (hb : Below w.heap.size w w') : KS w' L w'.heap.size f a n := ⟨h.1.next hb, h.2.next hb⟩
end
/-- the nodes up to a place stand in these cells -/
def DoneTo2 (w : World) (L B : Nat) (f : Fo) (cur : Array Value) (j : Nat) : Prop := ∀ i k s ks, i < j → f.get i = some (k, s, ks) →
  cur[i * 3]? = some (.int .i64 k) ∧ cur[i * 3 + 1]? = some (.string s) ∧ ∃ a n, cur[i * 3 + 2]? = some (.slice a n n) ∧ KS w L B ks a n
section
variable {w w' : World} {L B B' g j n : Nat} {f ks : Fo} {k : Int} {s : ByteArray} {cur : Array Value} {a : Option Addr}
theorem DoneTo2.zero : DoneTo2 w L B f cur 0 := fun i k s ks h => absurd h (by omega)
theorem DoneTo2.next (h : DoneTo2 w L w.heap.size f cur j) (hb : Below w.heap.size w w') : DoneTo2 w' L w'.heap.size f cur j := fun i k s ks hi hg =>
  let ⟨h1, h2, a, n, h3, h4⟩ := h i k s ks hi hg
  ⟨h1, h2, a, n, h3, h4.next hb⟩
theorem DoneTo2.step (h : DoneTo2 w L B f cur j) (hg : f.get j = some (k, s, ks)) (hk : KS w L B ks a n) (hs : j * 3 + 2 < cur.size) (hL : g < L) (x y z : Value) :
    DoneTo2 (((w.setCell ⟨g, j * 3, none⟩ x).setCell ⟨g, j * 3 + 1, none⟩ y).setCell ⟨g, j * 3 + 2, none⟩ z) L B f
      (((cur.setIfInBounds (j * 3) (.int .i64 k)).setIfInBounds (j * 3 + 1) (.string s)).setIfInBounds (j * 3 + 2) (.slice a n n)) (j + 1) := by
  intro i k' s' ks' hi hgi
  by_cases e : i = j
  · subst e
    rw [hg] at hgi
    simp only [Option.some.injEq, Prod.mk.injEq] at hgi
    obtain ⟨rfl, rfl, rfl⟩ := hgi
    refine ⟨?_, ?_, a, n, ?_, ((hk.setCell (.inl hL) _ _).setCell (.inl hL) _ _).setCell (.inl hL) _ _⟩
    · rw [Array.getElem?_setIfInBounds_ne (by omega), Array.getElem?_setIfInBounds_ne (by omega), Array.getElem?_setIfInBounds_self_of_lt (by omega)]
    · rw [Array.getElem?_setIfInBounds_ne (by omega), Array.getElem?_setIfInBounds_self_of_lt (by simp; omega)]
    · rw [Array.getElem?_setIfInBounds_self_of_lt (by simp; omega)]
  · obtain ⟨h1, h2, a', n', h3, h4⟩ := h i k' s' ks' (by omega) hgi
    refine ⟨?_, ?_, a', n', ?_, ((h4.setCell (.inl hL) _ _).setCell (.inl hL) _ _).setCell (.inl hL) _ _⟩
    · rw [Array.getElem?_setIfInBounds_ne (by omega), Array.getElem?_setIfInBounds_ne (by omega), Array.getElem?_setIfInBounds_ne (by omega)]; exact h1
    · rw [Array.getElem?_setIfInBounds_ne (by omega), Array.getElem?_setIfInBounds_ne (by omega), Array.getElem?_setIfInBounds_ne (by omega)]; exact h2
    · rw [Array.getElem?_setIfInBounds_ne (by omega), Array.getElem?_setIfInBounds_ne (by omega), Array.getElem?_setIfInBounds_ne (by omega)]; exact h3
/-- a row of cells that holds all the nodes is the list -/
theorem DoneTo2.all (h : DoneTo2 w (g + 1) w.heap.size f cur n) (hl : f.len = n) (hb : w.heap[g]? = some (.cells cur 29 (0, 0))) (hc : cur.size = n * 3) (hL : L ≤ g) : KS w L w.heap.size f (some ⟨g, 0, none⟩) n := by
  refine ⟨⟨hl, fun hn => ⟨g, 0, rfl, hL, blk_lt hb, seg_of fun j k s ks hg => ?_⟩⟩, hl, fun hn => ⟨g, rfl, hL, blk_lt hb, ⟨cur, hb, hc⟩, sk_of fun j k s ks hg => ?_⟩⟩
  · obtain ⟨h1, h2, a, m, h3, h4⟩ := h j k s ks (by have := Fo.get_lt hg; omega) hg
    refine ⟨?_, ?_, a, m, m, ?_, Nat.le_refl _, h4.1.more (by omega) (Nat.le_refl _)⟩
    · rw [Nat.zero_add, cell_of_row _ _ _ _ _ _ hb]; exact h1
    · rw [Nat.zero_add, cell_of_row _ _ _ _ _ _ hb]; exact h2
    · rw [Nat.zero_add, cell_of_row _ _ _ _ _ _ hb]; exact h3
  · obtain ⟨h1, h2, a, m, h3, h4⟩ := h j k s ks (by have := Fo.get_lt hg; omega) hg
    refine ⟨a, m, m, ?_, h4.2.more (by omega) (Nat.le_refl _)⟩
    rw [Nat.zero_add, cell_of_row _ _ _ _ _ _ hb]; exact h3
end
/-- the contract of toExprS at one list -/
def ToC2 (f : Fo) : Prop := ∀ (a : Option Addr) (n c : Nat) (w : World), KA w 0 w.heap.size f a n → f.len + f.tot ≤ 1048576 →
  Calls Try.prog 16 #[.slice a n c] w fun e w' => ∃ g, e = .returned (.slice (some ⟨g, 0, none⟩) n n) ∧ KS w' w.heap.size w'.heap.size f (some ⟨g, 0, none⟩) n ∧ Below w.heap.size w w'
/-- what toExpr leaves -/
def ToP2 (k : Int) (s : ByteArray) (ks : Fo) (w : World) (e : Ending) (w' : World) : Prop :=
  ∃ g, e = .returned (.agg #[.int .i64 k, .string s, .slice (some ⟨g, 0, none⟩) ks.len ks.len]) ∧ KS w' w.heap.size w'.heap.size ks (some ⟨g, 0, none⟩) ks.len ∧ Below w.heap.size w w'


set_option maxHeartbeats 400000 in
theorem toE_of2 (k : Int) (s : ByteArray) (ks : Fo) (ih : ToC2 ks) (a : Option Addr) (n c : Nat) (w : World) (hk : KA w 0 w.heap.size ks a n) (ht : ks.len + ks.tot ≤ 1048576) :
    Calls Try.prog 7 #[.agg #[.int .i64 k, .string s, .slice a n c]] w (ToP2 k s ks w) := by
  obtain rfl : ks.len = n := hk.1
  have B3 := (((Below.refl w.heap.size w).alloc (Nat.le_refl _) (.cells #[.int .i64 k, .string s, .slice a ks.len c] 24)).alloc (by simp) (.cells #[.int .i64 0, .string .empty, .slice none 0 0] 29)).alloc (by simp; omega) (.cells #[.int .i64 k, .string s, .slice none 0 0] 29)
  have hz : (((w.alloc (.cells #[.int .i64 k, .string s, .slice a ks.len c] 24)).alloc (.cells #[.int .i64 0, .string .empty, .slice none 0 0] 29)).alloc (.cells #[.int .i64 k, .string s, .slice none 0 0] 29)).heap.size = w.heap.size + 3 := by simp
  have hb3 := heap_alloc_new ((w.alloc (.cells #[.int .i64 k, .string s, .slice a ks.len c] 24)).alloc (.cells #[.int .i64 0, .string .empty, .slice none 0 0] 29)) (.cells #[.int .i64 k, .string s, .slice none 0 0] 29)
  rw [show ((w.alloc (.cells #[.int .i64 k, .string s, .slice a ks.len c] 24)).alloc (.cells #[.int .i64 0, .string .empty, .slice none 0 0] 29)).heap.size = w.heap.size + 1 + 1 from by simp] at hb3
  have hr2 : ((w.alloc (.cells #[.int .i64 k, .string s, .slice a ks.len c] 24)).alloc (.cells #[.int .i64 0, .string .empty, .slice none 0 0] 29)).heap[w.heap.size + 1]? = some (.cells #[.int .i64 0, .string .empty, .slice none 0 0] 29 (0, 0)) := by
    have := heap_alloc_new (w.alloc (.cells #[.int .i64 k, .string s, .slice a ks.len c] 24)) (.cells #[.int .i64 0, .string .empty, .slice none 0 0] 29)
    rw [show (w.alloc (.cells #[.int .i64 k, .string s, .slice a ks.len c] 24)).heap.size = w.heap.size + 1 from by simp] at this
    exact this
  have hr3 := (Below.heap_alloc ((w.alloc (.cells #[.int .i64 k, .string s, .slice a ks.len c] 24)).alloc (.cells #[.int .i64 0, .string .empty, .slice none 0 0] 29)) (.cells #[.int .i64 k, .string s, .slice none 0 0] 29) (w.heap.size + 1) (by simp)).trans hr2
  have hk3 := hk.next B3
  go_enter Try.func7, Try.ntmps7
  go_wp2_with fail
  refine (ih a ks.len c _ hk3 ht).mono ?_
  rintro e w1 ⟨g, rfl, hg, hB1⟩
  rw [hz] at hg hB1
  have hb1 : w1.heap[w.heap.size + 1 + 1]? = _ := (hB1.block (w.heap.size + 1 + 1) (by omega)).trans hb3
  have hc0 : w1.cell? ⟨w.heap.size + 1 + 1, 0, none⟩ = some (.int .i64 k) := by rw [cell_of_row _ _ _ _ _ _ hb1]; rfl
  have hc1 : w1.cell? ⟨w.heap.size + 1 + 1, 1, none⟩ = some (.string s) := by rw [cell_of_row _ _ _ _ _ _ hb1]; rfl
  have hc2 : w1.cell? ⟨w.heap.size + 1 + 1, 2, none⟩ = some (.slice none 0 0) := by rw [cell_of_row _ _ _ _ _ _ hb1]; rfl
  have hf2 := blk_frozen hb1 2
  have hr1 := (hB1.block (w.heap.size + 1) (by omega)).trans hr3
  have hd0 : w1.cell? ⟨w.heap.size + 1, 0, none⟩ = some (.int .i64 0) := by rw [cell_of_row _ _ _ _ _ _ hr1]; rfl
  have hd1 : w1.cell? ⟨w.heap.size + 1, 1, none⟩ = some (.string .empty) := by rw [cell_of_row _ _ _ _ _ _ hr1]; rfl
  have hd2 : w1.cell? ⟨w.heap.size + 1, 2, none⟩ = some (.slice none 0 0) := by rw [cell_of_row _ _ _ _ _ _ hr1]; rfl
  have he0 := blk_frozen hr1 0
  have he1 := blk_frozen hr1 1
  have he2 := blk_frozen hr1 2
  have Bx := B3.trans (hB1.mono (by omega))
  clear hb1 hb3 hk3 hr2 hr3 hr1
  go_wp2_with fail
  refine bodyPost_ret (v := .agg #[.int .i64 k, .string s, .slice (some ⟨g, 0, none⟩) ks.len ks.len]) (by simp [results, Try.results7, go_sem, hd0, hd1, hd2]) rfl ?_
  refine ⟨g, rfl, ((((hg.setCell (g := w.heap.size + 1 + 1) (.inl (by omega)) _ _).setCell (g := w.heap.size + 1) (.inl (by omega)) _ _).setCell (g := w.heap.size + 1) (.inl (by omega)) _ _).setCell (g := w.heap.size + 1) (.inl (by omega)) _ _).more (by omega) (by simp [World.setCell]), ?_⟩
  exact (((Bx.setCell (by simp; omega) _).setCell (by simp) _).setCell (by simp) _).setCell (by simp) _

set_option maxHeartbeats 800000 in
theorem toS_of2 (f : Fo) (ih : ∀ ks : Fo, ks.size < f.size → ToC2 ks) : ToC2 f := by
    intro a n c w hf ht
    have hlen := Lib.hid hf.1
    have hn : n ≤ 1048576 := by have := hf.1; omega
    have hL := Nat.le_refl w.heap.size
    obtain ⟨i0, hi, hz0, hz1, hz2⟩ := info_parts expr_info
    have hmk := fun W => make_row (P := Try.prog) 27 29 i0 _ Try.underlying27 hi hz0 .i64 .i64 n n (Nat.le_refl _) (by rw [hz2]; omega) (by omega) W
    go_enter Try.func16, Try.ntmps16
    go_wp2_with fail
    go_loopw [4] (fun i wr => ∃ (j : Nat) (cur : Array Value), j ≤ n ∧ i = .int .i64 j ∧ wr.heap[w.heap.size]? = some (.cells cur 29 (0, 0)) ∧ cur.size = n * 3 ∧ DoneTo2 wr (w.heap.size + 1) wr.heap.size f cur j ∧ Below w.heap.size w wr) (fun i _ => n - (intOf i).toNat)
    case atStart => exact ⟨0, _, Nat.zero_le _, rfl, heap_alloc_new w _, by simp [madeCells], DoneTo2.zero, (Below.refl _ _).alloc (Nat.le_refl _) _⟩
    case round =>
      obtain ⟨j, cur, hj, rfl, hblk, hsz, hdone, hB⟩ := hrel
      by_cases hlt : j < n
      · obtain ⟨b, off, k, s, ks, a', n', c', rfl, _, hb, hg, hc1, hc2, hc3, hcap, hks⟩ := (hf.below hB).get hlt
        have Hg := Lib.hid hg
        have hsk := Fo.get_size hg
        have htk := Fo.get_tot hg
        have hks' := hks.more (Nat.le_refl 0) hB.size
        have Hsz := Lib.hid hsz
        have Hblk := Lib.hid hblk
        have Hdone := Lib.hid hdone
        have hgl : w.heap.size < wr.heap.size := blk_lt hblk
        have hx1 : wr.cell? ⟨w.heap.size, j * 3, none⟩ = some (cur[j * 3]'(by omega)) := by rw [cell_of_row wr _ _ _ _ _ hblk]; simp
        have hx2 : wr.cell? ⟨w.heap.size, j * 3 + 1, none⟩ = some (cur[j * 3 + 1]'(by omega)) := by rw [cell_of_row wr _ _ _ _ _ hblk]; simp
        have hx3 : wr.cell? ⟨w.heap.size, j * 3 + 2, none⟩ = some (cur[j * 3 + 2]'(by omega)) := by rw [cell_of_row wr _ _ _ _ _ hblk]; simp
        generalize cur[j * 3]'(by omega) = v1 at hx1
        generalize cur[j * 3 + 1]'(by omega) = v2 at hx2
        generalize cur[j * 3 + 2]'(by omega) = v3 at hx3
        have hz1a := blk_frozen hblk (j * 3)
        have hz1b := blk_frozen hblk (j * 3 + 1)
        have hz1c := blk_frozen hblk (j * 3 + 2)
        have hsl : s.size + ks.len + ks.tot ≤ 1048576 := by omega
        clear hblk hsz hg hdone
        go_wp2_with fail
        refine (toE_of2 k s ks (ih ks (by omega)) a' n' c' _ hks' (by omega)).mono ?_
        rintro e w1 ⟨g1, rfl, hk1, hB1⟩
        have hy1 := (hB1.cell (p := ⟨w.heap.size, j * 3, none⟩) hgl).trans hx1
        have hy2 := (hB1.cell (p := ⟨w.heap.size, j * 3 + 1, none⟩) hgl).trans hx2
        have hy3 := (hB1.cell (p := ⟨w.heap.size, j * 3 + 2, none⟩) hgl).trans hx3
        have hf1 := (hB1.frozen (p := ⟨w.heap.size, j * 3, none⟩) hgl).trans hz1a
        have hf2 := (hB1.frozen (p := ⟨w.heap.size, j * 3 + 1, none⟩) hgl).trans hz1b
        have hf3 := (hB1.frozen (p := ⟨w.heap.size, j * 3 + 2, none⟩) hgl).trans hz1c
        have hb1 := Lib.hid ((hB1.block w.heap.size hgl).trans Hblk.out)
        have hdn := Lib.hid ((Hdone.out.next hB1).step (g := w.heap.size) Hg.out (hk1.more (by omega) (Nat.le_refl _)) (by have := Hsz.out; omega) (by omega) (.int .i64 k) (.string s) (.slice (some ⟨g1, 0, none⟩) ks.len ks.len))
        have hBB := hB.trans (hB1.mono hB.size)
        clear hx1 hx2 hx3 hz1a hz1b hz1c
        go_wp2_with fail
        exact ⟨⟨j + 1, _, by omega, by go_num, blk_set (blk_set (blk_set hb1.out _ _) _ _) _ _, by simp [Hsz.out], by rw [set_size, set_size, set_size]; exact hdn.out, ((hBB.setCell (Nat.le_refl _) _).setCell (Nat.le_refl _) _).setCell (Nat.le_refl _) _⟩, by simp [intOf]; omega⟩
      · have e : j = n := by omega
        have Hblk := Lib.hid hblk
        have Hdone := Lib.hid hdone
        have Hsz := Lib.hid hsz
        clear hsz hblk hdone
        subst e
        go_wp2_with fail
        go_ret
        exact ⟨_, rfl, Hdone.out.all hlen.out Hblk.out Hsz.out (Nat.le_refl _), hB⟩
theorem toS_all2 (N : Nat) : ∀ f : Fo, f.size ≤ N → ToC2 f := by
  induction N with
  | zero => exact fun f hN => toS_of2 f fun ks h => absurd h (by omega)
  | succ N ih => exact fun f hN => toS_of2 f fun ks h => ih ks (by omega)
theorem toExpr_sk (k : Int) (s : ByteArray) (ks : Fo) (a : Option Addr) (n c : Nat) (w : World) (hk : KA w 0 w.heap.size ks a n) (ht : ks.len + ks.tot ≤ 1048576) :
    Calls Try.prog 7 #[.agg #[.int .i64 k, .string s, .slice a n c]] w (ToP2 k s ks w) :=
  toE_of2 k s ks (toS_all2 ks.size ks (Nat.le_refl _)) a n c w hk ht
end Go.Proofs.Ytfnnpeggjnonjaa
