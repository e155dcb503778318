/-
  A law's copies of lists of entries: a list of reads that is nil has no room.
-/
import Derived.Test.YtaiijnepeccllaaGreatQEnT
namespace Go.Proofs.YtaiijnepeccllaaGreat
set_option linter.unusedVariables false
set_option linter.unusedSimpArgs false
open Go.RowKit

/-- a list of reads that is nil has no room -/
def NilOk (w : World) (a : Option Addr) (n : Nat) : Prop := ∀ (b off j : Nat) (a' : Option Addr) (n' c' : Nat), a = some ⟨b, off, none⟩ → j < n → w.cell? ⟨b, off + j * 4 + 2, none⟩ = some (.slice a' n' c') → a' = none → n' = 0 ∧ c' = 0
theorem NilOk.keep {w w' : World} {L : Nat} {es : List En} {a : Option Addr} {n D : Nat} (h : NilOk w a n) (hf : EnAt w L D es a n) (hk : ∀ p : Addr, p.block < D → w'.cell? p = w.cell? p) : NilOk w' a n := by
  intro b off j a' n' c' ha hj hc hn
  obtain ⟨b2, off2, e, _, hb, _⟩ := hf.2 (by omega)
  rw [ha] at e
  cases e
  exact h b off j a' n' c' ha hj (by rw [← hk ⟨b, off + j * 4 + 2, none⟩ hb]; exact hc) hn

/-- block b is a row of n files -/
def RowF (w : World) (b n : Nat) : Prop := ∃ cs : Array Value, w.heap[b]? = some (.cells cs 62 (0, 0)) ∧ cs.size = n * 2
/-- block g is a row of n entries, the reads of each a row of its own -/
def SkN (w : World) (L B : Nat) (es : List En) (g n : Nat) : Prop := (∃ cs : Array Value, w.heap[g]? = some (.cells cs 26 (0, 0)) ∧ cs.size = n * 4) ∧
  ∀ (i : Nat) (x : En), es[i]? = some x → ∃ gi, w.cell? ⟨g, i * 4 + 2, none⟩ = some (.slice (some ⟨gi, 0, none⟩) x.2.2.1.length x.2.2.1.length) ∧ L ≤ gi ∧ gi < B ∧ RowF w gi x.2.2.1.length
/-- the reads before a place are rows of their own -/
def DoneSk (w : World) (L : Nat) (es : List En) (cur : Array Value) (j : Nat) : Prop := ∀ (i : Nat) (x : En), i < j → es[i]? = some x → ∃ gi, cur[i * 4 + 2]? = some (.slice (some ⟨gi, 0, none⟩) x.2.2.1.length x.2.2.1.length) ∧ L ≤ gi ∧ RowF w gi x.2.2.1.length
section
variable {w w' : World} {L B b g n j : Nat} {es : List En} {cur : Array Value} {fs : List Fl} {t s x : ByteArray}
theorem RowF.block (h : RowF w b n) (e : w'.heap[b]? = w.heap[b]?) : RowF w' b n := let ⟨cs, h1, h2⟩ := h; ⟨cs, e.trans h1, h2⟩
theorem RowF.lt (h : RowF w b n) : b < w.heap.size := let ⟨_, h1, _⟩ := h; blk_lt h1
theorem RowF.of (h : OwnF w 62 b fs) : RowF w b fs.length := ⟨_, h, by rw [List.size_toArray, fcells_length]⟩
theorem RowF.same {n' : Nat} (h : RowF w b n) (h2 : RowF w b n') : n = n' := by
  obtain ⟨c1, e1, s1⟩ := h
  obtain ⟨c2, e2, s2⟩ := h2
  rw [e1] at e2
  simp only [Option.some.injEq, Obj.cells.injEq] at e2
  obtain ⟨rfl, _⟩ := e2
  omega
theorem DoneSk.zero : DoneSk w L es cur 0 := fun i _ h => absurd h (by omega)
theorem DoneSk.keep (h : DoneSk w L es cur j) (hk : ∀ b : Nat, L ≤ b → b < w.heap.size → w'.heap[b]? = w.heap[b]?) : DoneSk w' L es cur j := fun i x hi hg =>
  let ⟨gi, h1, h2, h3⟩ := h i x hi hg
  ⟨gi, h1, h2, h3.block (hk gi h2 h3.lt)⟩
theorem DoneSk.step (h : DoneSk w L es cur j) (hg : es[j]? = some (t, s, fs, x)) {g1 : Nat} (hL : L ≤ g1) (hr : RowF w g1 fs.length) (hs : j * 4 + 3 < cur.size) (hgL : g < L) (y0 y1 y2 y3 v0 v1 v3 : Value) :
    DoneSk ((((w.setCell ⟨g, j * 4, none⟩ y0).setCell ⟨g, j * 4 + 1, none⟩ y1).setCell ⟨g, j * 4 + 2, none⟩ y2).setCell ⟨g, j * 4 + 3, none⟩ y3) L es
      ((((cur.setIfInBounds (j * 4) v0).setIfInBounds (j * 4 + 1) v1).setIfInBounds (j * 4 + 2) (.slice (some ⟨g1, 0, none⟩) fs.length fs.length)).setIfInBounds (j * 4 + 3) v3) (j + 1) := by
  have hk : ∀ b : Nat, L ≤ b → ((((w.setCell ⟨g, j * 4, none⟩ y0).setCell ⟨g, j * 4 + 1, none⟩ y1).setCell ⟨g, j * 4 + 2, none⟩ y2).setCell ⟨g, j * 4 + 3, none⟩ y3).heap[b]? = w.heap[b]? := fun b hb =>
    (((Below.heap_setCell _ _ _ b (by show b ≠ g; omega)).trans (Below.heap_setCell _ _ _ b (by show b ≠ g; omega))).trans (Below.heap_setCell _ _ _ b (by show b ≠ g; omega))).trans (Below.heap_setCell _ _ _ b (by show b ≠ g; omega))
  intro i x' hi hgi
  by_cases e : i = j
  · subst e
    rw [hg] at hgi
    simp only [Option.some.injEq] at hgi
    subst hgi
    refine ⟨g1, ?_, hL, hr.block (hk g1 hL)⟩
    rw [Array.getElem?_setIfInBounds_ne (by omega), Array.getElem?_setIfInBounds_self_of_lt (by simp; omega)]
  · obtain ⟨gi, h1, h2, h3⟩ := h i x' (by omega) hgi
    refine ⟨gi, ?_, h2, h3.block (hk gi h2)⟩
    rw [Array.getElem?_setIfInBounds_ne (by omega), Array.getElem?_setIfInBounds_ne (by omega), Array.getElem?_setIfInBounds_ne (by omega), Array.getElem?_setIfInBounds_ne (by omega)]
    exact h1
theorem DoneSk.all (h : DoneSk w L es cur n) (hl : es.length = n) (hs : cur.size = n * 4) (hb : w.heap[g]? = some (.cells cur 26 (0, 0))) : SkN w L w.heap.size es g n :=
  ⟨⟨cur, hb, hs⟩, fun i x hg => let ⟨gi, h1, h2, h3⟩ := h i x (by have := (List.getElem?_eq_some_iff.1 hg).1; omega) hg; ⟨gi, (cell_of_row _ _ _ _ _ _ hb).trans h1, h2, h3.lt, h3⟩⟩
theorem SkN.keep (h : SkN w L B es g n) (hgL : g < L) (hk : ∀ b : Nat, g ≤ b → b < w.heap.size → w'.heap[b]? = w.heap[b]?) : SkN w' L B es g n := by
  obtain ⟨⟨cs, h1, h2⟩, h3⟩ := h
  have hb := hk g (Nat.le_refl _) (blk_lt h1)
  refine ⟨⟨cs, hb.trans h1, h2⟩, fun i x hg => ?_⟩
  obtain ⟨gi, h4, h5, h7, h6⟩ := h3 i x hg
  exact ⟨gi, (show w'.cell? ⟨g, i * 4 + 2, none⟩ = w.cell? ⟨g, i * 4 + 2, none⟩ from World.cell?_of_block hb).trans h4, h5, h7, h6.block (hk gi (by omega) h6.lt)⟩
theorem SkN.next (h : SkN w L B es g n) (hgL : g < L) (hb : Below w.heap.size w w') : SkN w' L B es g n := h.keep hgL fun b _ h2 => hb.block b h2
theorem SkN.cells {i : Nat} (h : SkN w L B es g n) (hi : i < n * 4) : ∃ v, w.cell? ⟨g, i, none⟩ = some v := by
  obtain ⟨⟨cs, h1, h2⟩, _⟩ := h
  rw [cell_of_row _ _ _ _ _ _ h1]
  exact ⟨_, Array.getElem?_eq_getElem (by omega)⟩
theorem SkN.frozen (h : SkN w L B es g n) (i : Nat) : w.frozen? ⟨g, i, none⟩ = false := let ⟨⟨_, h1, _⟩, _⟩ := h; blk_frozen h1 i
theorem SkN.lt (h : SkN w L B es g n) : g < w.heap.size := let ⟨⟨_, h1, _⟩, _⟩ := h; blk_lt h1
theorem SkN.ok (h : SkN w L B es g n) (hl : es.length = n) : NilOk w (some ⟨g, 0, none⟩) n := by
  intro b off j a' n' c' ha hj hc hn
  cases ha
  obtain ⟨gi, h4, _⟩ := h.2 j _ (List.getElem?_eq_getElem (by omega))
  rw [Nat.zero_add, h4] at hc
  cases hc
  cases hn
/-- a cell of the row that is no slice is written to -/
theorem SkN.set {i : Nat} (h : SkN w L B es g n) (hgL : g < L) (hi : i % 4 ≠ 2) (v : Value) : SkN (w.setCell ⟨g, i, none⟩ v) L B es g n := by
  obtain ⟨⟨cs, h3, h4⟩, h5⟩ := h
  refine ⟨⟨_, blk_set h3 i v, by simpa using h4⟩, fun i' x hg => ?_⟩
  obtain ⟨gi, h6, h7, h9, h8⟩ := h5 i' x hg
  exact ⟨gi, (World.cell?_setCell_other w _ _ _ (by simp <;> omega)).trans h6, h7, h9, h8.block (Below.heap_setCell _ _ _ gi (by show gi ≠ g; omega))⟩
end

set_option maxHeartbeats 1000000 in
theorem toEntrySN_any (es : List En) (a : Option Addr) (n c : Nat) (w : World) (hf : EnAt w 0 w.heap.size es a n) (ht : es.length + enTot es ≤ 1048576) :
    Calls Tryz.prog 8 #[.slice a n c] w fun e w' => ∃ g, e = .returned (.slice (some ⟨g, 0, none⟩) n n) ∧ EnAt w' w.heap.size w'.heap.size es (some ⟨g, 0, none⟩) n ∧ g = w.heap.size ∧ SkN w' (w.heap.size + 1) w'.heap.size es g n ∧ Below w.heap.size w w' := by
  have hlen := Lib.hid hf.1
  have hn : n ≤ 1048576 := by have := hf.1; omega
  have hL := Nat.le_refl w.heap.size
  obtain ⟨i0, hi, hz0, hz1, hz2⟩ := info_parts entry_info
  have hmk := fun W => make_row (P := Tryz.prog) 29 26 i0 _ Tryz.underlying29 hi hz0 .i64 .i64 n n (Nat.le_refl _) (by rw [hz2]; omega) (by omega) W
  go_enter Tryz.func8, Tryz.ntmps8
  go_wp2_with fail
  go_loopw [4] (fun i wr => ∃ (j : Nat) (cur : Array Value), j ≤ n ∧ i = .int .i64 j ∧ wr.heap[w.heap.size]? = some (.cells cur 26 (0, 0)) ∧ cur.size = n * 4 ∧ DoneEn wr (w.heap.size + 1) wr.heap.size es cur j ∧ DoneSk wr (w.heap.size + 1) es cur j ∧ Below w.heap.size w wr) (fun i _ => n - (intOf i).toNat)
  case atStart => exact ⟨0, _, Nat.zero_le _, rfl, heap_alloc_new w _, by simp [madeCells], DoneEn.zero, DoneSk.zero, (Below.refl _ _).alloc (Nat.le_refl _) _⟩
  case round =>
    obtain ⟨j, cur, hj, rfl, hblk, hsz, hdone, hdn0, hB⟩ := hrel
    have Hdn0 := Lib.hid hdn0
    clear hdn0
    by_cases hlt : j < n
    · obtain ⟨b, off, t, s, fs, x, a', n', c', rfl, _, hb, hg, hc0, hc1, hc2, hc3, hcap, hks⟩ := (hf.below hB).get hlt
      have Hg := Lib.hid hg
      have htk := enTot_get hg
      simp only [enSz] at htk
      have hks' := (hks.more (Nat.le_refl 0) hB.size).files
      have hkl := hks.1
      have Hsz := Lib.hid hsz
      have Hblk := Lib.hid hblk
      have Hdone := Lib.hid hdone
      have hgl : w.heap.size < wr.heap.size := blk_lt hblk
      have hx0 : wr.cell? ⟨w.heap.size, j * 4, none⟩ = some (cur[j * 4]'(by omega)) := by rw [cell_of_row wr _ _ _ _ _ hblk]; simp
      have hx1 : wr.cell? ⟨w.heap.size, j * 4 + 1, none⟩ = some (cur[j * 4 + 1]'(by omega)) := by rw [cell_of_row wr _ _ _ _ _ hblk]; simp
      have hx2 : wr.cell? ⟨w.heap.size, j * 4 + 2, none⟩ = some (cur[j * 4 + 2]'(by omega)) := by rw [cell_of_row wr _ _ _ _ _ hblk]; simp
      have hx3 : wr.cell? ⟨w.heap.size, j * 4 + 3, none⟩ = some (cur[j * 4 + 3]'(by omega)) := by rw [cell_of_row wr _ _ _ _ _ hblk]; simp
      generalize cur[j * 4]'(by omega) = v0 at hx0
      generalize cur[j * 4 + 1]'(by omega) = v1 at hx1
      generalize cur[j * 4 + 2]'(by omega) = v2 at hx2
      generalize cur[j * 4 + 3]'(by omega) = v3 at hx3
      have hz0a := blk_frozen hblk (j * 4)
      have hz1a := blk_frozen hblk (j * 4 + 1)
      have hz2a := blk_frozen hblk (j * 4 + 2)
      have hz3a := blk_frozen hblk (j * 4 + 3)
      subst hkl
      clear hblk hsz hg hdone
      go_wp2_with fail
      refine (toEntry_any t s fs x a' fs.length c' _ hks' (by omega)).mono ?_
      rintro e w1 ⟨g1, rfl, hg1, hk1, hB1⟩
      have hy0 := (hB1.cell (p := ⟨w.heap.size, j * 4, none⟩) hgl).trans hx0
      have hy1 := (hB1.cell (p := ⟨w.heap.size, j * 4 + 1, none⟩) hgl).trans hx1
      have hy2 := (hB1.cell (p := ⟨w.heap.size, j * 4 + 2, none⟩) hgl).trans hx2
      have hy3 := (hB1.cell (p := ⟨w.heap.size, j * 4 + 3, none⟩) hgl).trans hx3
      have hf0 := (hB1.frozen (p := ⟨w.heap.size, j * 4, none⟩) hgl).trans hz0a
      have hf1 := (hB1.frozen (p := ⟨w.heap.size, j * 4 + 1, none⟩) hgl).trans hz1a
      have hf2 := (hB1.frozen (p := ⟨w.heap.size, j * 4 + 2, none⟩) hgl).trans hz2a
      have hf3 := (hB1.frozen (p := ⟨w.heap.size, j * 4 + 3, none⟩) hgl).trans hz3a
      have hb1 := Lib.hid ((hB1.block w.heap.size hgl).trans Hblk.out)
      have hdn := Lib.hid ((Hdone.out.keep (Nat.le_refl _) hB1.size (fun p _ hp => hB1.cell hp)).step (g := w.heap.size) Hg.out (Nat.le_refl _) ((FlIn.own hk1 rfl).more (by omega) hk1.lt) (by have := Hsz.out; omega) (by omega) (.string t) (.string s) (.slice (some ⟨g1, 0, none⟩) fs.length fs.length) (.string x))
      have hdk := Lib.hid ((Hdn0.out.keep (fun b _ hp => hB1.block b hp)).step (g := w.heap.size) Hg.out (by omega) (RowF.of hk1) (by have := Hsz.out; omega) (Nat.lt_succ_self _) (.string t) (.string s) (.slice (some ⟨g1, 0, none⟩) fs.length fs.length) (.string x) (.string t) (.string s) (.string x))
      have hBB := hB.trans (hB1.mono hB.size)
      clear hx0 hx1 hx2 hx3 hz0a hz1a hz2a hz3a
      go_wp2_with fail
      exact ⟨⟨j + 1, _, by omega, by go_num, blk_set (blk_set (blk_set (blk_set hb1.out _ _) _ _) _ _) _ _, by simp [Hsz.out], by rw [enSet_size, enSet_size, enSet_size, enSet_size]; exact hdn.out, hdk.out, (((hBB.setCell (Nat.le_refl _) _).setCell (Nat.le_refl _) _).setCell (Nat.le_refl _) _).setCell (Nat.le_refl _) _⟩, by simp [intOf]; omega⟩
    · have e : j = n := by omega
      have Hsz := Lib.hid hsz
      have Hblk := Lib.hid hblk
      have Hdone := Lib.hid hdone
      clear hsz hblk hdone
      subst e
      go_wp2_with fail
      go_ret
      obtain rfl := hlen.out
      exact ⟨_, rfl, (Hdone.out.keep (Nat.le_succ _) (Nat.le_refl _) fun _ _ _ => rfl).all Hblk.out (Nat.le_refl _) (blk_lt Hblk.out), rfl, Hdn0.out.all rfl Hsz.out Hblk.out, hB⟩
end Go.Proofs.YtaiijnepeccllaaGreat
