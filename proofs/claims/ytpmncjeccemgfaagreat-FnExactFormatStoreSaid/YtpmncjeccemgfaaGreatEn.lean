/-
  Lists of entries as they lie in memory: a target, a body, a list of reads, a text. No program is named here.
-/
import Derived.Test.YtpmncjeccemgfaaGreatFiles
namespace Go.Proofs.YtpmncjeccemgfaaGreat
set_option linter.unusedVariables false
open Go.RowKit

/-- an entry: its target, its body, its reads, its text -/
abbrev En := ByteArray × ByteArray × List Fl × ByteArray
/-- the bytes and reads of an entry -/
def enSz (x : En) : Nat := x.1.size + x.2.1.size + (x.2.2.1.length + tot x.2.2.1) + x.2.2.2.size
def enTot : List En → Nat
  | [] => 0
  | x :: r => enSz x + enTot r
/-- strings and lists that a machine holds -/
def EnFit (x : En) : Prop := x.1.size ≤ maxLen ∧ x.2.1.size ≤ maxLen ∧ x.2.2.1.length ≤ maxLen ∧ Fits x.2.2.1 ∧ x.2.2.2.size ≤ maxLen
def EnFits (es : List En) : Prop := ∀ x ∈ es, EnFit x
theorem enTot_drop {es : List En} {j : Nat} {x : En} (h : es[j]? = some x) : enTot (es.drop j) = enSz x + enTot (es.drop (j + 1)) := by
  obtain ⟨hl, rfl⟩ := List.getElem?_eq_some_iff.1 h
  rw [List.drop_eq_getElem_cons hl]
  rfl
theorem enTot_le (es : List En) (j : Nat) : enTot (es.drop j) ≤ enTot es := by
  induction es generalizing j with
  | nil => simp [enTot]
  | cons x r ih =>
    cases j with
    | zero => exact Nat.le_refl _
    | succ j => have := ih j; simp only [List.drop_succ_cons, enTot]; omega
theorem EnFits.get {es : List En} {j : Nat} {x : En} (h : EnFits es) (hg : es[j]? = some x) : EnFit x := h _ (List.mem_of_getElem? hg)
theorem enTot_get {es : List En} {j : Nat} {x : En} (h : es[j]? = some x) : enSz x ≤ enTot es := by
  have := enTot_drop h
  have := enTot_le es j
  omega

/-- a slice of files whose row lies in blocks L to B -/
def FlIn (w : World) (L B : Nat) (a : Option Addr) (n : Nat) (fs : List Fl) : Prop :=
  fs.length = n ∧ (0 < n → ∃ b off, a = some ⟨b, off, none⟩ ∧ L ≤ b ∧ b < B ∧ ∀ j u, (fcells fs)[j]? = some u → w.cell? ⟨b, off + j, none⟩ = some u)
/-- an entry at a place -/
def EntryAt (w : World) (L B : Nat) (x : En) (b off : Nat) : Prop :=
  w.cell? ⟨b, off, none⟩ = some (.string x.1) ∧ w.cell? ⟨b, off + 1, none⟩ = some (.string x.2.1) ∧ (∃ a n c, w.cell? ⟨b, off + 2, none⟩ = some (.slice a n c) ∧ n ≤ c ∧ FlIn w L B a n x.2.2.1) ∧ w.cell? ⟨b, off + 3, none⟩ = some (.string x.2.2.2)
/-- a slice whose elements are these entries -/
def EnAt (w : World) (L B : Nat) (es : List En) (a : Option Addr) (n : Nat) : Prop :=
  es.length = n ∧ (0 < n → ∃ b off, a = some ⟨b, off, none⟩ ∧ L ≤ b ∧ b < B ∧ ∀ j x, es[j]? = some x → EntryAt w L B x b (off + j * 4))
section
variable {w w' : World} {L L' B B' b off n : Nat} {a : Option Addr} {fs : List Fl} {es : List En} {x : En}
theorem FlIn.files (h : FlIn w L B a n fs) : FilesAt w B a n fs := ⟨h.1, fun hn => let ⟨b, off, ha, _, h2, hc⟩ := h.2 hn; ⟨b, off, ha, h2, hc⟩⟩
theorem FlIn.of (h : FilesAt w B a n fs) : FlIn w 0 B a n fs := ⟨h.1, fun hn => let ⟨b, off, ha, h2, hc⟩ := h.2 hn; ⟨b, off, ha, Nat.zero_le _, h2, hc⟩⟩
theorem FlIn.keep (h : FlIn w L B a n fs) (hL : L' ≤ L) (hB : B ≤ B') (hk : ∀ p : Addr, L ≤ p.block → p.block < B → w'.cell? p = w.cell? p) : FlIn w' L' B' a n fs :=
  ⟨h.1, fun hn => let ⟨b, off, ha, h1, h2, hc⟩ := h.2 hn; ⟨b, off, ha, by omega, by omega, fun j u hu => (hk ⟨b, off + j, none⟩ h1 h2).trans (hc j u hu)⟩⟩
theorem FlIn.more (h : FlIn w L B a n fs) (hL : L' ≤ L) (hB : B ≤ B') : FlIn w L' B' a n fs := h.keep hL hB fun _ _ _ => rfl
theorem FlIn.setCell (h : FlIn w L B a n fs) {g : Nat} (hg : g < L ∨ B ≤ g) (i : Nat) (u : Value) : FlIn (w.setCell ⟨g, i, none⟩ u) L B a n fs :=
  h.keep (Nat.le_refl _) (Nat.le_refl _) fun p h1 h2 => World.cell?_setCell_other w _ _ _ (by rintro rfl; simp at h1 h2; omega)
theorem FlIn.own {e : TypeId} {g : Nat} (h : OwnF w e g fs) (hl : fs.length = n) : FlIn w g (g + 1) (some ⟨g, 0, none⟩) n fs :=
  ⟨hl, fun _ => ⟨g, 0, rfl, Nat.le_refl _, by omega, fun j u hu => by rw [Nat.zero_add, h.cell, hu]⟩⟩
theorem FlIn.next (h : FlIn w L w.heap.size a n fs) (hb : Below w.heap.size w w') : FlIn w' L w'.heap.size a n fs := h.keep (Nat.le_refl _) hb.size fun _ _ hp => hb.cell hp
theorem EntryAt.keep (h : EntryAt w L B x b off) (hL : L' ≤ L) (hB : B ≤ B') (h1 : L ≤ b) (h2 : b < B) (hk : ∀ p : Addr, L ≤ p.block → p.block < B → w'.cell? p = w.cell? p) : EntryAt w' L' B' x b off := by
  obtain ⟨c0, c1, ⟨a, n, c, c2, hc, hks⟩, c3⟩ := h
  exact ⟨(hk ⟨b, off, none⟩ h1 h2).trans c0, (hk ⟨b, off + 1, none⟩ h1 h2).trans c1, ⟨a, n, c, (hk ⟨b, off + 2, none⟩ h1 h2).trans c2, hc, hks.keep hL hB hk⟩, (hk ⟨b, off + 3, none⟩ h1 h2).trans c3⟩
theorem EnAt.keep (h : EnAt w L B es a n) (hL : L' ≤ L) (hB : B ≤ B') (hk : ∀ p : Addr, L ≤ p.block → p.block < B → w'.cell? p = w.cell? p) : EnAt w' L' B' es a n :=
  ⟨h.1, fun hn => let ⟨b, off, ha, h1, h2, hs⟩ := h.2 hn; ⟨b, off, ha, by omega, by omega, fun j x hg => (hs j x hg).keep hL hB h1 h2 hk⟩⟩
theorem EnAt.more (h : EnAt w L B es a n) (hL : L' ≤ L) (hB : B ≤ B') : EnAt w L' B' es a n := h.keep hL hB fun _ _ _ => rfl
theorem EnAt.below (h : EnAt w L B es a n) (hb : Below B w w') : EnAt w' L B es a n := h.keep (Nat.le_refl _) (Nat.le_refl _) fun _ _ hp => hb.cell hp
theorem EnAt.next (h : EnAt w L w.heap.size es a n) (hb : Below w.heap.size w w') : EnAt w' L w'.heap.size es a n := (h.below hb).more (Nat.le_refl _) hb.size
theorem EnAt.alloc (h : EnAt w L B es a n) (hB : B ≤ w.heap.size) (o : Obj) : EnAt (w.alloc o) L B es a n := h.keep (Nat.le_refl _) (Nat.le_refl _) fun p _ hp => World.cell?_alloc_lt w o p (by omega)
theorem EnAt.setCell (h : EnAt w L B es a n) {g : Nat} (hg : g < L ∨ B ≤ g) (i : Nat) (u : Value) : EnAt (w.setCell ⟨g, i, none⟩ u) L B es a n :=
  h.keep (Nat.le_refl _) (Nat.le_refl _) fun p h1 h2 => World.cell?_setCell_other w _ _ _ (by rintro rfl; simp at h1 h2; omega)
theorem EnAt.get (h : EnAt w L B es a n) {j : Nat} (hj : j < n) :
    ∃ b off t s fs x a' n' c', a = some ⟨b, off, none⟩ ∧ L ≤ b ∧ b < B ∧ es[j]? = some (t, s, fs, x) ∧ w.cell? ⟨b, off + j * 4, none⟩ = some (.string t) ∧ w.cell? ⟨b, off + j * 4 + 1, none⟩ = some (.string s) ∧ w.cell? ⟨b, off + j * 4 + 2, none⟩ = some (.slice a' n' c') ∧
      w.cell? ⟨b, off + j * 4 + 3, none⟩ = some (.string x) ∧ n' ≤ c' ∧ FlIn w L B a' n' fs := by
  obtain ⟨b, off, ha, hb, hc, hs⟩ := h.2 (by omega)
  have hl : j < es.length := by have := h.1; omega
  obtain ⟨⟨t, s, fs, x⟩, hg⟩ : ∃ x, es[j]? = some x := ⟨_, List.getElem?_eq_getElem hl⟩
  obtain ⟨h0, h1, ⟨a', n', c', h2, h4, h5⟩, h3⟩ := hs j _ hg
  exact ⟨b, off, t, s, fs, x, a', n', c', ha, hb, hc, hg, h0, h1, h2, h3, h4, h5⟩
end
/-- the entries before a place stand in a row being filled -/
def DoneEn (w : World) (L B : Nat) (es : List En) (cur : Array Value) (j : Nat) : Prop := ∀ i x, i < j → es[i]? = some x →
  cur[i * 4]? = some (.string x.1) ∧ cur[i * 4 + 1]? = some (.string x.2.1) ∧ (∃ a n c, cur[i * 4 + 2]? = some (.slice a n c) ∧ n ≤ c ∧ FlIn w L B a n x.2.2.1) ∧ cur[i * 4 + 3]? = some (.string x.2.2.2)
section
variable {w w' : World} {L B : Nat} {es : List En} {cur : Array Value} {j : Nat} {s t x : ByteArray} {fs : List Fl}
theorem DoneEn.zero : DoneEn w L B es cur 0 := fun i _ h => absurd h (by omega)
theorem DoneEn.keep {L' B' : Nat} (h : DoneEn w L B es cur j) (hL : L' ≤ L) (hB : B ≤ B') (hk : ∀ p : Addr, L ≤ p.block → p.block < B → w'.cell? p = w.cell? p) : DoneEn w' L' B' es cur j := fun i x hi hg =>
  let ⟨h0, h1, ⟨a, n, c, h3, h4, h5⟩, h2⟩ := h i x hi hg
  ⟨h0, h1, ⟨a, n, c, h3, h4, h5.keep hL hB hk⟩, h2⟩
theorem DoneEn.step {g : Nat} (h : DoneEn w L B es cur j) (hg : es[j]? = some (t, s, fs, x)) {a : Option Addr} {n c : Nat} (hc : n ≤ c) (hk : FlIn w L B a n fs) (hs : j * 4 + 3 < cur.size) (hL : g < L) (y0 y1 y2 y3 : Value) :
    DoneEn ((((w.setCell ⟨g, j * 4, none⟩ y0).setCell ⟨g, j * 4 + 1, none⟩ y1).setCell ⟨g, j * 4 + 2, none⟩ y2).setCell ⟨g, j * 4 + 3, none⟩ y3) L B es
      ((((cur.setIfInBounds (j * 4) (.string t)).setIfInBounds (j * 4 + 1) (.string s)).setIfInBounds (j * 4 + 2) (.slice a n c)).setIfInBounds (j * 4 + 3) (.string x)) (j + 1) := by
  intro i x' hi hgi
  by_cases e : i = j
  · subst e
    rw [hg] at hgi
    simp only [Option.some.injEq] at hgi
    subst hgi
    refine ⟨?_, ?_, ⟨a, n, c, ?_, hc, (((hk.setCell (.inl hL) _ _).setCell (.inl hL) _ _).setCell (.inl hL) _ _).setCell (.inl hL) _ _⟩, ?_⟩
    · rw [Array.getElem?_setIfInBounds_ne (by omega), Array.getElem?_setIfInBounds_ne (by omega), Array.getElem?_setIfInBounds_ne (by omega), Array.getElem?_setIfInBounds_self_of_lt (by omega)]
    · rw [Array.getElem?_setIfInBounds_ne (by omega), Array.getElem?_setIfInBounds_ne (by omega), Array.getElem?_setIfInBounds_self_of_lt (by simp; omega)]
    · rw [Array.getElem?_setIfInBounds_ne (by omega), Array.getElem?_setIfInBounds_self_of_lt (by simp; omega)]
    · rw [Array.getElem?_setIfInBounds_self_of_lt (by simp; omega)]
  · obtain ⟨h0, h1, ⟨a', n', c', h2, h4, h5⟩, h3⟩ := h i x' (by omega) hgi
    refine ⟨?_, ?_, ⟨a', n', c', ?_, h4, (((h5.setCell (.inl hL) _ _).setCell (.inl hL) _ _).setCell (.inl hL) _ _).setCell (.inl hL) _ _⟩, ?_⟩
    · rw [Array.getElem?_setIfInBounds_ne (by omega), Array.getElem?_setIfInBounds_ne (by omega), Array.getElem?_setIfInBounds_ne (by omega), Array.getElem?_setIfInBounds_ne (by omega)]; exact h0
    · rw [Array.getElem?_setIfInBounds_ne (by omega), Array.getElem?_setIfInBounds_ne (by omega), Array.getElem?_setIfInBounds_ne (by omega), Array.getElem?_setIfInBounds_ne (by omega)]; exact h1
    · rw [Array.getElem?_setIfInBounds_ne (by omega), Array.getElem?_setIfInBounds_ne (by omega), Array.getElem?_setIfInBounds_ne (by omega), Array.getElem?_setIfInBounds_ne (by omega)]; exact h2
    · rw [Array.getElem?_setIfInBounds_ne (by omega), Array.getElem?_setIfInBounds_ne (by omega), Array.getElem?_setIfInBounds_ne (by omega), Array.getElem?_setIfInBounds_ne (by omega)]; exact h3
theorem DoneEn.all {g : Nat} {T : TypeId} (h : DoneEn w L B es cur es.length) (hb : w.heap[g]? = some (.cells cur T (0, 0))) (hL : L ≤ g) (hB : g < B) : EnAt w L B es (some ⟨g, 0, none⟩) es.length := by
  refine ⟨rfl, fun _ => ⟨g, 0, rfl, hL, hB, fun j x hg => ?_⟩⟩
  obtain ⟨h0, h1, ⟨a, n, c, h2, h4, h5⟩, h3⟩ := h j x (List.getElem?_eq_some_iff.1 hg).1 hg
  rw [Nat.zero_add]
  exact ⟨(cell_of_row _ _ _ _ _ _ hb).trans h0, (cell_of_row _ _ _ _ _ _ hb).trans h1, ⟨a, n, c, (cell_of_row _ _ _ _ _ _ hb).trans h2, h4, h5⟩, (cell_of_row _ _ _ _ _ _ hb).trans h3⟩
end
end Go.Proofs.YtpmncjeccemgfaaGreat
