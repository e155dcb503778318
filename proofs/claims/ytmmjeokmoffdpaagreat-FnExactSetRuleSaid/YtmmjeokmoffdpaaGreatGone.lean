/-
  The early texts of this proof in one: plain words, lists in memory, and the contracts of the small functions.
-/
import Derived.WalkKit
import Derived.WalkLawsBesides
import Derived.WalkSpells
import Derived.Lib.Hide
import Derived.Lib.IndexBytes
import Derived.WideShapes
import Derived.Below
import Derived.Laws.OwnMore
import Derived.Deep.AppendLies
import Derived.Deep.Draws
import Derived.Laws.Rows
import Derived.Laws.MakeOwn
import Derived.Laws.Entries
import Derived.Laws.AppendOwn
import Derived.OwnWalk
import Derived.Test.YtmmjeokmoffdpaaGreatProg
import Derived.Deep.RegionLaw
import Derived.LoopNIn
import Derived.Deep.Onto
import Derived.Deep.RegionHeld3
import Derived.Outline
import Derived.Deep.QuietTactic
import Derived.BigQuiet
import Derived.Maps.AppendAt
import Derived.Laws.AppendOwnNone
import Derived.StillTailTactics
import Derived.Shelf.SlIter.Nil
import Derived.Shelf.SortM.Plain
import Derived.Shelf.SortM.SortNone
import Derived.Sort.KeysCollected
import Derived.Maps.OwnSet
import Derived.Maps.StringElems
import Derived.IntWalk
import Derived.Laws.BitsAllLaws
import Derived.Laws.BitsLemmas
import Derived.RangeFuncBox

namespace Go.Proofs.YtmmjeokmoffdpaaGreat
set_option linter.unusedVariables false
open Go.RowKit

theorem ret_bool {a b : Bool} (h : a = b) : Ending.returned (.bool a) = .returned (.bool b) := by rw [h]
theorem ret_int {k : IntKind} {a b : Int} (h : a = b) : Ending.returned (.int k a) = .returned (.int k b) := by rw [h]
theorem ret_str {a b : ByteArray} (h : a = b) : Ending.returned (.string a) = .returned (.string b) := by rw [h]

/-- every byte of s lies between lo and hi -/
def btw (lo hi : Nat) (l : List UInt8) : Bool := l.all fun c => decide (lo ≤ c.toNat ∧ c.toNat ≤ hi)

theorem btw_take_succ (lo hi : Nat) (s : ByteArray) (k : Nat) (h : k < s.size) :
    btw lo hi (s.data.toList.take (k + 1)) = (btw lo hi (s.data.toList.take k) && decide (lo ≤ s[k].toNat ∧ s[k].toNat ≤ hi)) := by
  unfold btw
  rw [List.take_succ_eq_append_getElem (by simpa using h)]
  simp [List.all_append]
  rfl

theorem btw_false_of (lo hi : Nat) (s : ByteArray) (k : Nat) (h : k < s.size) (hb : ¬ (lo ≤ s[k].toNat ∧ s[k].toNat ≤ hi)) :
    btw lo hi s.data.toList = false := by
  unfold btw
  rw [List.all_eq_false]
  refine ⟨s.data.toList[k]'(by simpa using h), List.getElem_mem _, ?_⟩
  have hb' : ¬ (lo ≤ (s.data[k]'h).toNat ∧ (s.data[k]'h).toNat ≤ hi) := hb
  simpa using hb'

theorem sEq (a b : ByteArray) : (a.toList == b.toList) = decide (a = b) := by
  rw [Lib.toList_data, Lib.toList_data]
  by_cases h : a = b
  · subst h; simp
  · have h2 : ¬ a.data = b.data := fun e => h (WideShapes.bytes_inj (by rw [e]))
    simp [h, h2]
/-- the order of strings -/
def sLess (a b : ByteArray) : Bool := Op.bytesLess a.toList b.toList

def pathB (s : ByteArray) : Bool := decide (1 ≤ s.size) && decide (s.size ≤ 8) && btw 97 122 s.data.toList
def textB (s : ByteArray) : Bool := decide (s.size ≤ 60) && btw 32 126 s.data.toList


theorem btw_iff (lo hi : Nat) (l : List UInt8) : btw lo hi l = true ↔ ∀ c ∈ l, lo ≤ c.toNat ∧ c.toNat ≤ hi := by
  unfold btw; simp
theorem btw_append (lo hi : Nat) (a b : ByteArray) : btw lo hi (a ++ b).data.toList = (btw lo hi a.data.toList && btw lo hi b.data.toList) := by
  unfold btw; simp
theorem btw_extract {lo hi : Nat} {s : ByteArray} (h : btw lo hi s.data.toList = true) (i j : Nat) : btw lo hi (s.extract i j).data.toList = true := by
  rw [btw_iff] at h ⊢
  intro c hc
  refine h c ?_
  rw [ByteArray.data_extract, Array.toList_extract] at hc
  exact List.mem_of_mem_drop (List.mem_of_mem_take hc)
theorem pathB_iff (s : ByteArray) : pathB s = true ↔ 1 ≤ s.size ∧ s.size ≤ 8 ∧ btw 97 122 s.data.toList = true := by
  unfold pathB; simp [and_assoc]
theorem textB_iff (s : ByteArray) : textB s = true ↔ s.size ≤ 60 ∧ btw 32 126 s.data.toList = true := by
  unfold textB; simp
theorem path_q {s : ByteArray} (h : pathB s = true) : pathB (s ++ { data := #[113] }) = decide ((s.size : Int) < 8) := by
  obtain ⟨h1, h2, h3⟩ := (pathB_iff s).1 h
  unfold pathB
  rw [btw_append, h3, ByteArray.size_append, show ({ data := #[113] } : ByteArray).size = 1 from rfl, show btw 97 122 ({ data := #[113] } : ByteArray).data.toList = true from rfl]
  rw [decide_eq_true (show 1 ≤ s.size + 1 by omega)]
  simp
  omega
theorem path_tail {s : ByteArray} (h : pathB s = true) : pathB (s.extract 1 s.size) = decide ((1 : Int) < s.size) := by
  obtain ⟨h1, h2, h3⟩ := (pathB_iff s).1 h
  unfold pathB
  rw [btw_extract h3, ByteArray.size_extract, decide_eq_true (show min s.size s.size - 1 ≤ 8 by omega)]
  simp
  omega
theorem path_text {s : ByteArray} (h : pathB s = true) : textB s = true := by
  obtain ⟨h1, h2, h3⟩ := (pathB_iff s).1 h
  refine (textB_iff s).2 ⟨by omega, ?_⟩
  rw [btw_iff] at h3 ⊢
  intro c hc
  have := h3 c hc
  omega
theorem path_blank (s : ByteArray) : pathB (s ++ { data := #[32] }) = false := by
  unfold pathB
  rw [btw_append, show btw 97 122 ({ data := #[32] } : ByteArray).data.toList = false from rfl]
  simp
theorem text_tail {s : ByteArray} (h : textB s = true) (i : Nat) : textB (s.extract i s.size) = true := by
  obtain ⟨h1, h2⟩ := (textB_iff s).1 h
  exact (textB_iff _).2 ⟨by rw [ByteArray.size_extract]; omega, btw_extract h2 _ _⟩
theorem text_append {a b : ByteArray} (ha : textB a = true) (hb : textB b = true) : textB (a ++ b) = decide ((a.size : Int) + b.size ≤ 60) := by
  obtain ⟨h1, h2⟩ := (textB_iff a).1 ha
  obtain ⟨h3, h4⟩ := (textB_iff b).1 hb
  unfold textB
  rw [btw_append, h2, h4, ByteArray.size_append]
  simp
  omega
end Go.Proofs.YtmmjeokmoffdpaaGreat

namespace Go.Proofs.YtmmjeokmoffdpaaGreat
set_option linter.unusedVariables false
open Go.RowKit

theorem below_drewN {B : Nat} {a w : World} (h : Below B a w) (n : Nat) : Below B a (w.drewN n) := ⟨h.os, h.tape, h.output, h.size, h.block⟩

/-- a file: its path and its text -/
abbrev Fl := ByteArray × ByteArray

def fcells (fs : List Fl) : List Value := fs.flatMap fun f => [.string f.1, .string f.2]
theorem fcells_nil : fcells [] = [] := rfl
theorem fcells_cons (f : Fl) (fs : List Fl) : fcells (f :: fs) = .string f.1 :: .string f.2 :: fcells fs := rfl
theorem fcells_append (a b : List Fl) : fcells (a ++ b) = fcells a ++ fcells b := by simp [fcells]
theorem fcells_length (fs : List Fl) : (fcells fs).length = fs.length * 2 := by
  induction fs with
  | nil => rfl
  | cons f fs ih => rw [fcells_cons]; simp [ih]; omega
theorem fcells_get (fs : List Fl) : ∀ {k : Nat} {p t : ByteArray}, fs[k]? = some (p, t) → (fcells fs)[k * 2]? = some (.string p) ∧ (fcells fs)[k * 2 + 1]? = some (.string t) := by
  induction fs with
  | nil => intro k p t h; simp at h
  | cons f fs ih =>
    intro k p t h
    cases k with
    | zero => simp at h; subst h; exact ⟨rfl, rfl⟩
    | succ k =>
      have := ih (k := k) (p := p) (t := t) (by simpa using h)
      rw [fcells_cons, show (k + 1) * 2 = k * 2 + 1 + 1 from by omega]
      simpa using this
theorem fcells_inv (fs : List Fl) : ∀ {j : Nat} {u : Value}, (fcells fs)[j]? = some u → ∃ (k : Nat) (p t : ByteArray), fs[k]? = some (p, t) ∧ ((j = k * 2 ∧ u = .string p) ∨ (j = k * 2 + 1 ∧ u = .string t)) := by
  induction fs with
  | nil => intro j u h; simp [fcells] at h
  | cons f fs ih =>
    intro j u h
    rw [fcells_cons] at h
    match j with
    | 0 => simp at h; exact ⟨0, f.1, f.2, rfl, .inl ⟨rfl, h.symm⟩⟩
    | 1 => simp at h; exact ⟨0, f.1, f.2, rfl, .inr ⟨rfl, h.symm⟩⟩
    | j + 2 =>
      simp at h
      obtain ⟨k, p, t, hk, hh⟩ := ih h
      refine ⟨k + 1, p, t, by simpa using hk, ?_⟩
      rcases hh with ⟨rfl, hu⟩ | ⟨rfl, hu⟩
      · exact .inl ⟨by omega, hu⟩
      · exact .inr ⟨by omega, hu⟩
theorem fcells_oneCell (fs : List Fl) : ∀ u ∈ fcells fs, u.oneCell' = true := by
  intro u hu
  simp [fcells] at hu
  obtain ⟨a, b, _, rfl | rfl⟩ := hu <;> rfl

/-- each string of the list fits -/
def Fits (fs : List Fl) : Prop := ∀ f ∈ fs, f.1.size ≤ maxLen ∧ f.2.size ≤ maxLen
theorem Fits.get {fs : List Fl} (h : Fits fs) {k : Nat} {p t : ByteArray} (hk : fs[k]? = some (p, t)) : p.size ≤ maxLen ∧ t.size ≤ maxLen := h _ (List.mem_of_getElem? hk)

/-- the bytes of a list of files -/
def tot : List Fl → Nat
  | [] => 0
  | f :: fs => f.1.size + f.2.size + tot fs
theorem tot_append (a b : List Fl) : tot (a ++ b) = tot a + tot b := by
  induction a with
  | nil => simp [tot]
  | cons f a ih => simp only [List.cons_append, tot, ih]; omega
theorem tot_take_succ {fs : List Fl} {k : Nat} {p t : ByteArray} (h : fs[k]? = some (p, t)) : tot (fs.take (k + 1)) = tot (fs.take k) + (p.size + t.size) := by
  rw [List.take_add_one, h, tot_append]
  simp [tot]
theorem tot_take_le (fs : List Fl) (k : Nat) : tot (fs.take k) ≤ tot fs := by
  have h := tot_append (fs.take k) (fs.drop k)
  rw [List.take_append_drop] at h
  omega

/-- is the file at place k as a valid list has it? -/
def okAt (fs : List Fl) (k : Nat) : Bool :=
  match fs[k]? with
  | none => true
  | some (p, t) => pathB p && textB t && (match k with
    | 0 => true
    | j + 1 => match fs[j]? with
      | none => true
      | some (q, _) => sLess q p)
def okTo (fs : List Fl) (k : Nat) : Bool := (List.range k).all (okAt fs)
theorem okTo_succ (fs : List Fl) (k : Nat) : okTo fs (k + 1) = (okTo fs k && okAt fs k) := by
  simp [okTo, List.range_succ]
theorem okTo_step {fs : List Fl} {k : Nat} (h1 : okTo fs k = true) (h2 : okAt fs k = true) : okTo fs (k + 1) = true := by rw [okTo_succ, h1, h2]; rfl
theorem okTo_false {fs : List Fl} {k n : Nat} (hk : k < n) (h : okAt fs k = false) : okTo fs n = false := by
  unfold okTo
  rw [List.all_eq_false]
  exact ⟨k, by simpa using hk, by simp [h]⟩
theorem okAt_path {fs : List Fl} {k : Nat} {p t : ByteArray} (hg : fs[k]? = some (p, t)) (h : pathB p = false) : okAt fs k = false := by
  unfold okAt; rw [hg]; simp [h]
theorem okAt_text {fs : List Fl} {k : Nat} {p t : ByteArray} (hg : fs[k]? = some (p, t)) (h : textB t = false) : okAt fs k = false := by
  unfold okAt; rw [hg]; simp [h]
theorem okAt_zero {fs : List Fl} {p t : ByteArray} (hg : fs[0]? = some (p, t)) (h1 : pathB p = true) (h2 : textB t = true) : okAt fs 0 = true := by
  unfold okAt; rw [hg]; simp [h1, h2]
theorem okAt_succ {fs : List Fl} {k : Nat} {p t q r : ByteArray} (hg : fs[k + 1]? = some (p, t)) (hq : fs[k]? = some (q, r)) (h1 : pathB p = true) (h2 : textB t = true) : okAt fs (k + 1) = sLess q p := by
  unfold okAt; rw [hg]; simp [h1, h2, hq]
def validB (fs : List Fl) : Bool := decide (fs.length ≤ 12) && okTo fs fs.length

theorem validB_false {fs : List Fl} {n k : Nat} {p t : ByteArray} (hl : fs.length = n) (hk : k < n) (_hg : fs[k]? = some (p, t)) (h : okAt fs k = false) : validB fs = false := by
  unfold validB
  rw [okTo_false (n := fs.length) (by omega) h, Bool.and_false]
theorem validB_all {fs : List Fl} {n : Nat} (hl : fs.length = n) (h : okTo fs n = true) : validB fs = decide ((n : Int) ≤ 12) := by
  unfold validB
  rw [hl, h, Bool.and_true]
  congr 1
  exact propext (by omega)

/-- the text of the first file with this path -/
def findF : List Fl → ByteArray → ByteArray × Bool
  | [], _ => (.empty, false)
  | f :: fs, x => if f.1 = x then (f.2, true) else findF fs x
theorem findF_none {fs : List Fl} {x : ByteArray} (h : ∀ (j : Nat) (p t : ByteArray), fs[j]? = some (p, t) → p ≠ x) : findF fs x = (.empty, false) := by
  induction fs with
  | nil => rfl
  | cons f fs ih =>
    rw [findF, if_neg (h 0 f.1 f.2 rfl)]
    exact ih fun j p t hj => h (j + 1) p t (by simpa using hj)
theorem findF_at {fs : List Fl} {x t : ByteArray} : ∀ {k : Nat}, (∀ (j : Nat) (p t : ByteArray), j < k → fs[j]? = some (p, t) → p ≠ x) → fs[k]? = some (x, t) → findF fs x = (t, true) := by
  induction fs with
  | nil => intro k _ h; simp at h
  | cons f fs ih =>
    intro k h hk
    cases k with
    | zero => simp at hk; subst hk; simp [findF]
    | succ k =>
      rw [findF, if_neg (h 0 f.1 f.2 (by omega) rfl)]
      exact ih (k := k) (fun j p t hj hjj => h (j + 1) p t (by omega) (by simpa using hjj)) (by simpa using hk)

/-- none of the first k files has this path -/
def notTo (fs : List Fl) (x : ByteArray) (k : Nat) : Prop := ∀ (j : Nat) (p t : ByteArray), j < k → fs[j]? = some (p, t) → p ≠ x
theorem notTo_zero (fs : List Fl) (x : ByteArray) : notTo fs x 0 := fun j p t h => absurd h (by omega)
theorem notTo_step {fs : List Fl} {x p t : ByteArray} {k : Nat} (h : notTo fs x k) (hg : fs[k]? = some (p, t)) (hp : ¬ p = x) : notTo fs x (k + 1) := by
  intro j p' t' hj hg'
  by_cases e : j = k
  · subst e; rw [hg] at hg'; cases hg'; exact hp
  · exact h j p' t' (by omega) hg'
theorem notTo_all {fs : List Fl} {x : ByteArray} {n : Nat} (hl : fs.length = n) (h : notTo fs x n) : findF fs x = (.empty, false) :=
  findF_none fun j p t hj => h j p t (by have := (List.getElem?_eq_some_iff.1 hj).1; omega) hj

/-- the bytes of the text of a list of files -/
def fmtF (fs : List Fl) : List UInt8 := fs.flatMap fun f => f.1.data.toList ++ [32] ++ f.2.data.toList ++ [10]
def fmtS (fs : List Fl) : ByteArray := if validB fs = true then ⟨(fmtF fs).toArray⟩ else .empty
theorem fmtF_take_succ {fs : List Fl} {k : Nat} {p t : ByteArray} (h : fs[k]? = some (p, t)) : fmtF (fs.take (k + 1)) = fmtF (fs.take k) ++ p.data.toList ++ [32] ++ t.data.toList ++ [10] := by
  unfold fmtF
  rw [List.take_add_one, h]
  simp
theorem okTo_le {fs : List Fl} {k n : Nat} (h : okTo fs n = true) (hk : k < n) : okAt fs k = true := by
  unfold okTo at h
  rw [List.all_eq_true] at h
  exact h k (by simpa using hk)
theorem okAt_sizes {fs : List Fl} {k : Nat} {p t : ByteArray} (h : okAt fs k = true) (hg : fs[k]? = some (p, t)) : p.size ≤ 8 ∧ t.size ≤ 60 := by
  unfold okAt at h
  rw [hg] at h
  simp only [Bool.and_eq_true] at h
  exact ⟨((pathB_iff p).1 h.1.1).2.1, ((textB_iff t).1 h.1.2).1⟩
theorem valid_sizes {fs : List Fl} (h : validB fs = true) {k : Nat} {p t : ByteArray} (hg : fs[k]? = some (p, t)) : p.size ≤ 8 ∧ t.size ≤ 60 := by
  unfold validB at h
  simp only [Bool.and_eq_true] at h
  exact okAt_sizes (okTo_le h.2 (List.getElem?_eq_some_iff.1 hg).1) hg
theorem valid_length {fs : List Fl} (h : validB fs = true) : fs.length ≤ 12 := by
  unfold validB at h
  simp only [Bool.and_eq_true, decide_eq_true_eq] at h
  exact h.1
theorem fmtF_length {fs : List Fl} (h : validB fs = true) : ∀ {k : Nat}, k ≤ fs.length → (fmtF (fs.take k)).length ≤ 70 * k := by
  intro k
  induction k with
  | zero => intro _; simp [fmtF]
  | succ k ih =>
    intro hk
    have hg : fs[k]? = some (fs[k].1, fs[k].2) := List.getElem?_eq_getElem (by omega)
    have := ih (by omega)
    have hs := valid_sizes h hg
    have e1 : fs[k].1.data.size ≤ 8 := hs.1
    have e2 : fs[k].2.data.size ≤ 60 := hs.2
    rw [fmtF_take_succ hg]
    simp only [List.length_append, Array.length_toList, List.length_cons, List.length_nil]
    omega

theorem add_none (b off i : Nat) : (⟨b, off, none⟩ : Addr).add i = ⟨b, off + i, none⟩ := by
  unfold Addr.add; by_cases h : i = 0 <;> simp [h]

/-- the slice at a of n elements reads as the files fs and lies below block B -/
def FilesAt (w : World) (B : Nat) (a : Option Addr) (n : Nat) (fs : List Fl) : Prop :=
  fs.length = n ∧ (0 < n → ∃ b off, a = some ⟨b, off, none⟩ ∧ b < B ∧ ∀ j u, (fcells fs)[j]? = some u → w.cell? ⟨b, off + j, none⟩ = some u)

section
variable {w w' : World} {B B' n : Nat} {a : Option Addr} {fs : List Fl}
theorem FilesAt.get (h : FilesAt w B a n fs) {k : Nat} (hk : k < n) :
    ∃ b off p t, a = some ⟨b, off, none⟩ ∧ b < B ∧ fs[k]? = some (p, t) ∧ w.cell? ⟨b, off + k * 2, none⟩ = some (.string p) ∧ w.cell? ⟨b, off + k * 2 + 1, none⟩ = some (.string t) := by
  obtain ⟨b, off, ha, hb, hc⟩ := h.2 (by omega)
  have hl : k < fs.length := by have := h.1; omega
  have hg : fs[k]? = some (fs[k].1, fs[k].2) := List.getElem?_eq_getElem hl
  obtain ⟨h1, h2⟩ := fcells_get fs hg
  exact ⟨b, off, _, _, ha, hb, hg, hc _ _ h1, by have := hc _ _ h2; rwa [← Nat.add_assoc] at this⟩
theorem FilesAt.keep (h : FilesAt w B a n fs) (hk : ∀ p : Addr, p.block < B → w'.cell? p = w.cell? p) : FilesAt w' B a n fs :=
  ⟨h.1, fun hn => by
    obtain ⟨b, off, ha, hb, hc⟩ := h.2 hn
    exact ⟨b, off, ha, hb, fun j u hu => (hk ⟨b, off + j, none⟩ hb).trans (hc j u hu)⟩⟩
theorem FilesAt.more (h : FilesAt w B a n fs) (hB : B ≤ B') : FilesAt w B' a n fs :=
  ⟨h.1, fun hn => by
    obtain ⟨b, off, ha, hb, hc⟩ := h.2 hn
    exact ⟨b, off, ha, by omega, hc⟩⟩
theorem FilesAt.below (h : FilesAt w B a n fs) (hb : Below B w w') : FilesAt w' B a n fs := h.keep fun _ hp => hb.cell hp
theorem FilesAt.drew (h : FilesAt w B a n fs) : FilesAt w.drew B a n fs := h
theorem FilesAt.drewN (h : FilesAt w B a n fs) (k : Nat) : FilesAt (w.drewN k) B a n fs := h
theorem FilesAt.alloc (h : FilesAt w B a n fs) (hB : B ≤ w.heap.size) (o : Obj) : FilesAt (w.alloc o) B a n fs := h.keep fun p hp => World.cell?_alloc_lt w o p (by omega)
end

theorem make_row {P : Program} (t e : TypeId) (i : TypeInfo) (z : Value) (ht : P.underlying t = some (.slice e)) (hi : P.info? e = some i) (hz : i.zero = some z)
    (kl kc : IntKind) (n c : Nat) (hnc : n ≤ c) (hbytes : i.bytes * c ≤ 281474976710656) (h63 : c ≤ 9223372036854775807) (w : World) :
    (Instr.makeSlice t (.int kl (n : Int)) (.int kc (c : Int))).run P w = .ok (.slice (some ⟨w.heap.size, 0, none⟩) n c) (w.alloc (.cells (madeCells z.cells (c * i.size)) e)) := by
  have hb : (i.bytes : Int) * (c : Int) ≤ 281474976710656 := by
    have h : ((i.bytes * c : Nat) : Int) ≤ 281474976710656 := by omega
    rwa [Int.natCast_mul] at h
  have hr := run_make (P := P) w t e i z ht hi hz kl kc n c (by omega) (by omega) hb (by omega)
  simp only [Int.toNat_natCast] at hr
  exact hr

theorem blk_lt {w : World} {g : Nat} {o : Obj} (h : w.heap[g]? = some o) : g < w.heap.size := by
  rcases Nat.lt_or_ge g w.heap.size with hlt | hge
  · exact hlt
  · rw [Array.getElem?_eq_none hge] at h; cases h
theorem blk_frozen {w : World} {g : Nat} {e : TypeId} {cs : Array Value} (h : w.heap[g]? = some (.cells cs e (0, 0))) (i : Nat) : w.frozen? ⟨g, i, none⟩ = false := by
  simp [World.frozen?, h]

theorem blk_set {w : World} {g : Nat} {e : TypeId} {cs : Array Value} (h : w.heap[g]? = some (.cells cs e (0, 0))) (i : Nat) (u : Value) :
    (w.setCell ⟨g, i, none⟩ u).heap[g]? = some (.cells (cs.setIfInBounds i u) e (0, 0)) := by
  simp [World.setCell, Array.getElem?_modify, h]
theorem fill_two {l xs : List Value} {k : Nat} (u v : Value) (hl : k * 2 + 1 < l.length) (h : l.take (k * 2) = xs) :
    ((l.set (k * 2) u).set (k * 2 + 1) v).take ((k + 1) * 2) = xs ++ [u, v] := by
  subst h
  rw [show (k + 1) * 2 = k * 2 + 1 + 1 from by omega, List.take_add_one, List.take_add_one]
  simp [List.take_set_of_le, hl, show k * 2 < l.length from by omega]
theorem fcells_take_succ {fs : List Fl} {k : Nat} {p t : ByteArray} (h : fs[k]? = some (p, t)) : fcells (fs.take (k + 1)) = fcells (fs.take k) ++ [.string p, .string t] := by
  rw [List.take_add_one, h, fcells_append]
  simp [fcells]
theorem fill_file {cur : Array Value} {fs : List Fl} {n k : Nat} {p t : ByteArray} (hsz : cur.size = n * 2) (hk : k < n) (hcur : cur.toList.take (k * 2) = fcells (fs.take k)) (hg : fs[k]? = some (p, t)) :
    (((cur.setIfInBounds (k * 2) (.string p)).setIfInBounds (k * 2 + 1) (.string t)).toList).take ((k + 1) * 2) = fcells (fs.take (k + 1)) := by
  rw [fcells_take_succ hg]
  have := fill_two (l := cur.toList) (k := k) (.string p) (.string t) (by simp; omega) hcur
  simpa using this

theorem take_eq_succ {fs gs : List Fl} {k : Nat} {p t p' t' : ByteArray} (h : fs.take k = gs.take k) (h1 : fs[k]? = some (p, t)) (h2 : gs[k]? = some (p', t')) (he : (p, t) = (p', t')) : fs.take (k + 1) = gs.take (k + 1) := by
  rw [List.take_add_one, List.take_add_one, h1, h2, h, he]
theorem ne_of_get {fs gs : List Fl} {k : Nat} {p t p' t' : ByteArray} (h1 : fs[k]? = some (p, t)) (h2 : gs[k]? = some (p', t')) (he : ¬ (p, t) = (p', t')) : ¬ fs = gs := by
  rintro rfl
  rw [h1] at h2
  exact he (Option.some.inj h2)

/-- block g is a row of elements of type e that reads as the files fs, none of it frozen -/
def OwnF (w : World) (e : TypeId) (g : Nat) (fs : List Fl) : Prop := w.heap[g]? = some (.cells (fcells fs).toArray e (0, 0))

section
variable {w w' : World} {g : Nat} {e : TypeId} {fs : List Fl}
theorem OwnF.lt (h : OwnF w e g fs) : g < w.heap.size := by
  rcases Nat.lt_or_ge g w.heap.size with hlt | hge
  · exact hlt
  · unfold OwnF at h; rw [Array.getElem?_eq_none hge] at h; cases h
theorem OwnF.cell (h : OwnF w e g fs) (i : Nat) : w.cell? ⟨g, i, none⟩ = (fcells fs)[i]? := by
  have := cell_of_row w g i (fcells fs).toArray e (0, 0) h
  simpa using this
theorem OwnF.frozen (h : OwnF w e g fs) (i : Nat) : w.frozen? ⟨g, i, none⟩ = false := by
  unfold OwnF at h
  simp [World.frozen?, h]
theorem OwnF.drew (h : OwnF w e g fs) : OwnF w.drew e g fs := h
theorem OwnF.drewN (h : OwnF w e g fs) (n : Nat) : OwnF (w.drewN n) e g fs := h
theorem OwnF.alloc (h : OwnF w e g fs) (o : Obj) : OwnF (w.alloc o) e g fs := (Below.heap_alloc w o g h.lt).trans h
theorem OwnF.below {B : Nat} (h : OwnF w e g fs) (hb : Below B w w') (hg : g < B) : OwnF w' e g fs := (hb.block g hg).trans h
theorem OwnF.far (h : OwnF w e g fs) {p : Addr} (hp : g ≠ p.block) (u : Value) : OwnF (w.setCell p u) e g fs := (Below.heap_setCell w p u g hp).trans h
theorem OwnF.in_ {n : Nat} (h : OwnF w e g fs) (hl : fs.length = n) : FilesAt w w.heap.size (some ⟨g, 0, none⟩) n fs :=
  ⟨hl, fun _ => ⟨g, 0, rfl, h.lt, fun j u hu => by rw [Nat.zero_add, h.cell, hu]⟩⟩
theorem OwnF.at_ (h : OwnF w e g fs) : FilesAt w (g + 1) (some ⟨g, 0, none⟩) fs.length fs :=
  ⟨rfl, fun _ => ⟨g, 0, rfl, by omega, fun j u hu => by rw [Nat.zero_add, h.cell, hu]⟩⟩
end

theorem fcells_set1 {s t : ByteArray} : ∀ {fs : List Fl} {k : Nat} {p : ByteArray}, fs[k]? = some (p, t) → fcells (fs.set k (s, t)) = (fcells fs).set (k * 2) (.string s) := by
  intro fs
  induction fs with
  | nil => intro k p h; simp at h
  | cons f fs ih =>
    intro k p h
    cases k with
    | zero => simp at h; subst h; rfl
    | succ k =>
      rw [List.set_cons_succ, fcells_cons, fcells_cons, show (k + 1) * 2 = k * 2 + 1 + 1 from by omega, List.set_cons_succ, List.set_cons_succ, ih (by simpa using h)]
theorem fcells_set2 {s p : ByteArray} : ∀ {fs : List Fl} {k : Nat} {t : ByteArray}, fs[k]? = some (p, t) → fcells (fs.set k (p, s)) = (fcells fs).set (k * 2 + 1) (.string s) := by
  intro fs
  induction fs with
  | nil => intro k t h; simp at h
  | cons f fs ih =>
    intro k t h
    cases k with
    | zero => simp at h; subst h; rfl
    | succ k =>
      rw [List.set_cons_succ, fcells_cons, fcells_cons, show (k + 1) * 2 + 1 = k * 2 + 1 + 1 + 1 from by omega, List.set_cons_succ, List.set_cons_succ, ih (by simpa using h)]
end Go.Proofs.YtmmjeokmoffdpaaGreat

namespace Go.Proofs.YtmmjeokmoffdpaaGreat
set_option linter.unusedVariables false
open Go.RowKit

/-- a list of expressions: none, or a node with its operands, and the nodes behind it -/
inductive Fo where
  | nil
  | node (k : Int) (s : ByteArray) (ks rest : Fo)

namespace Fo
/-- how many nodes stand side by side -/
def len : Fo → Nat
  | .nil => 0
  | .node _ _ _ r => r.len + 1
/-- how many nodes there are at all -/
def size : Fo → Nat
  | .nil => 0
  | .node _ _ ks r => ks.size + r.size + 1
/-- the bytes and operands below -/
def tot : Fo → Nat
  | .nil => 0
  | .node _ s ks r => s.size + ks.len + ks.tot + r.tot
/-- the node at a place -/
def get : Fo → Nat → Option (Int × ByteArray × Fo)
  | .nil, _ => none
  | .node k s ks r, 0 => some (k, s, ks)
  | .node k s ks r, j + 1 => r.get j
/-- texts and lists that a machine holds -/
def Fits : Fo → Prop
  | .nil => True
  | .node _ s ks r => s.size ≤ maxLen ∧ ks.len ≤ maxLen ∧ ks.Fits ∧ r.Fits
theorem size_le : ∀ f : Fo, f.size ≤ f.len + f.tot
  | .nil => Nat.le_refl _
  | .node k s ks r => by have := size_le ks; have := size_le r; simp only [size, len, tot]; omega
theorem len_size : ∀ f : Fo, f.len ≤ f.size
  | .nil => Nat.le_refl _
  | .node k s ks r => by have := len_size r; simp only [size, len]; omega
theorem get_some : ∀ {f : Fo} {j : Nat}, j < f.len → ∃ x, f.get j = some x
  | .node k s ks r, 0, _ => ⟨_, rfl⟩
  | .node k s ks r, j + 1, h => get_some (f := r) (j := j) (by simp only [len] at h; omega)
  | .nil, _, h => absurd h (by simp [len])
theorem get_lt : ∀ {f : Fo} {j : Nat} {x : Int × ByteArray × Fo}, f.get j = some x → j < f.len
  | .nil, _, _, h => by simp [get] at h
  | .node k s ks r, 0, _, _ => by simp [len]
  | .node k s ks r, j + 1, x, h => by have := get_lt (f := r) (j := j) h; simp only [len]; omega
theorem get_size : ∀ {f : Fo} {j : Nat} {k : Int} {s : ByteArray} {ks : Fo}, f.get j = some (k, s, ks) → ks.size + 1 ≤ f.size
  | .nil, _, _, _, _, h => by simp [get] at h
  | .node k s ks r, 0, _, _, _, h => by simp only [get, Option.some.injEq, Prod.mk.injEq] at h; obtain ⟨_, _, rfl⟩ := h; simp only [size]; omega
  | .node k s ks r, j + 1, _, _, _, h => by have := get_size (f := r) (j := j) h; simp only [size]; omega
theorem get_tot : ∀ {f : Fo} {j : Nat} {k : Int} {s : ByteArray} {ks : Fo}, f.get j = some (k, s, ks) → s.size + ks.len + ks.tot ≤ f.tot
  | .nil, _, _, _, _, h => by simp [get] at h
  | .node k s ks r, 0, _, _, _, h => by simp only [get, Option.some.injEq, Prod.mk.injEq] at h; obtain ⟨_, rfl, rfl⟩ := h; simp only [tot]; omega
  | .node k s ks r, j + 1, _, _, _, h => by have := get_tot (f := r) (j := j) h; simp only [tot]; omega
theorem Fits.get : ∀ {f : Fo} {j : Nat} {k : Int} {s : ByteArray} {ks : Fo}, f.Fits → f.get j = some (k, s, ks) → s.size ≤ maxLen ∧ ks.len ≤ maxLen ∧ ks.Fits
  | .nil, _, _, _, _, _, h => by simp [Fo.get] at h
  | .node k s ks r, 0, _, _, _, hf, h => by simp only [Fo.get, Option.some.injEq, Prod.mk.injEq] at h; obtain ⟨_, rfl, rfl⟩ := h; exact ⟨hf.1, hf.2.1, hf.2.2.1⟩
  | .node k s ks r, j + 1, _, _, _, hf, h => Fits.get (f := r) (j := j) hf.2.2.2 h
/-- the nodes from a place on -/
def drop : Fo → Nat → Fo
  | f, 0 => f
  | .nil, _ + 1 => .nil
  | .node _ _ _ r, j + 1 => r.drop j
theorem drop_zero (f : Fo) : f.drop 0 = f := by cases f <;> rfl
theorem drop_get : ∀ {f : Fo} {j : Nat} {k : Int} {s : ByteArray} {ks : Fo}, f.get j = some (k, s, ks) → f.drop j = .node k s ks (f.drop (j + 1))
  | .nil, _, _, _, _, h => by simp [get] at h
  | .node k s ks r, 0, _, _, _, h => by simp only [get, Option.some.injEq, Prod.mk.injEq] at h; obtain ⟨rfl, rfl, rfl⟩ := h; simp [drop, drop_zero]
  | .node k s ks r, j + 1, _, _, _, h => drop_get (f := r) (j := j) h
theorem drop_all : ∀ {f : Fo} {j : Nat}, f.len ≤ j → f.drop j = .nil
  | .nil, 0, _ => rfl
  | .nil, _ + 1, _ => rfl
  | .node k s ks r, 0, h => absurd h (by simp [len])
  | .node k s ks r, j + 1, h => drop_all (f := r) (j := j) (by simp only [len] at h; omega)
/-- two lists with the same nodes at each place are one list -/
theorem ext : ∀ {f g : Fo}, (∀ j, f.get j = g.get j) → f = g
  | .nil, .nil, _ => rfl
  | .nil, .node .., h => by have := h 0; simp [get] at this
  | .node .., .nil, h => by have := h 0; simp [get] at this
  | .node k s ks r, .node k' s' ks' r', h => by
    have h0 := h 0
    simp only [get, Option.some.injEq, Prod.mk.injEq] at h0
    obtain ⟨rfl, rfl, rfl⟩ := h0
    rw [ext (f := r) (g := r') fun j => h (j + 1)]
/-- a list out of its nodes -/
def ofFn (F : Nat → Int × ByteArray × Fo) : Nat → Nat → Fo
  | 0, _ => .nil
  | n + 1, i => .node (F i).1 (F i).2.1 (F i).2.2 (ofFn F n (i + 1))
theorem ofFn_len (F : Nat → Int × ByteArray × Fo) : ∀ n i, (ofFn F n i).len = n
  | 0, _ => rfl
  | n + 1, i => by simp only [ofFn, len, ofFn_len F n]
theorem ofFn_get (F : Nat → Int × ByteArray × Fo) : ∀ {n i j : Nat} {x : Int × ByteArray × Fo}, (ofFn F n i).get j = some x → j < n ∧ x = F (i + j)
  | 0, _, _, _, h => by simp [ofFn, get] at h
  | n + 1, i, 0, x, h => by simp only [ofFn, get, Option.some.injEq] at h; exact ⟨by omega, h.symm⟩
  | n + 1, i, j + 1, x, h => by
    obtain ⟨h1, h2⟩ := ofFn_get F (n := n) (i := i + 1) (j := j) h
    exact ⟨by omega, by rw [h2]; congr 1; omega⟩
theorem ofFn_fits (F : Nat → Int × ByteArray × Fo) : ∀ {n i : Nat}, (∀ j, i ≤ j → j < i + n → (F j).2.1.size ≤ maxLen ∧ (F j).2.2.len ≤ maxLen ∧ (F j).2.2.Fits) → (ofFn F n i).Fits
  | 0, _, _ => trivial
  | n + 1, i, h => ⟨(h i (by omega) (by omega)).1, (h i (by omega) (by omega)).2.1, (h i (by omega) (by omega)).2.2, ofFn_fits F fun j h1 h2 => h j (by omega) (by omega)⟩
end Fo

/-- these nodes lie side by side from a place on; all that they lead to lies in blocks from L to B -/
def Seg (w : World) (L B : Nat) : Fo → Nat → Nat → Prop
  | .nil, _, _ => True
  | .node k s ks r, b, off => w.cell? ⟨b, off, none⟩ = some (.int .i64 k) ∧ w.cell? ⟨b, off + 1, none⟩ = some (.string s) ∧
      (∃ a n c, w.cell? ⟨b, off + 2, none⟩ = some (.slice a n c) ∧ ks.len = n ∧ n ≤ c ∧ (0 < n → ∃ b' off', a = some ⟨b', off', none⟩ ∧ L ≤ b' ∧ b' < B ∧ Seg w L B ks b' off')) ∧
      Seg w L B r b (off + 3)
/-- a slice whose elements are these nodes -/
def KA (w : World) (L B : Nat) (f : Fo) (a : Option Addr) (n : Nat) : Prop := f.len = n ∧ (0 < n → ∃ b off, a = some ⟨b, off, none⟩ ∧ L ≤ b ∧ b < B ∧ Seg w L B f b off)
/-- one node -/
def NodeAt (w : World) (L B : Nat) (k : Int) (s : ByteArray) (ks : Fo) (b off : Nat) : Prop :=
  w.cell? ⟨b, off, none⟩ = some (.int .i64 k) ∧ w.cell? ⟨b, off + 1, none⟩ = some (.string s) ∧ ∃ a n c, w.cell? ⟨b, off + 2, none⟩ = some (.slice a n c) ∧ n ≤ c ∧ KA w L B ks a n
section
variable {w w' : World} {L L' B B' b off n : Nat} {a : Option Addr} {f ks : Fo} {k : Int} {s : ByteArray}
theorem seg_node {r : Fo} : Seg w L B (.node k s ks r) b off ↔ NodeAt w L B k s ks b off ∧ Seg w L B r b (off + 3) :=
  ⟨fun ⟨h1, h2, ⟨a, n, c, h3, h4, h5, h6⟩, h7⟩ => ⟨⟨h1, h2, a, n, c, h3, h5, h4, h6⟩, h7⟩, fun ⟨⟨h1, h2, a, n, c, h3, h5, h4, h6⟩, h7⟩ => ⟨h1, h2, ⟨a, n, c, h3, h4, h5, h6⟩, h7⟩⟩
theorem seg_get : ∀ {f : Fo} {b off j : Nat} {k : Int} {s : ByteArray} {ks : Fo}, Seg w L B f b off → f.get j = some (k, s, ks) → NodeAt w L B k s ks b (off + j * 3)
  | .nil, _, _, _, _, _, _, _, h => by simp [Fo.get] at h
  | .node k s ks r, _, _, 0, _, _, _, hs, h => by
    simp only [Fo.get, Option.some.injEq, Prod.mk.injEq] at h
    obtain ⟨rfl, rfl, rfl⟩ := h
    rw [Nat.zero_mul]
    exact (seg_node.1 hs).1
  | .node k s ks r, b, off, j + 1, _, _, _, hs, h => by
    have := seg_get (f := r) (j := j) (seg_node.1 hs).2 h
    rwa [show off + (j + 1) * 3 = off + 3 + j * 3 from by omega]
theorem seg_of : ∀ {f : Fo} {b off : Nat}, (∀ j k s ks, f.get j = some (k, s, ks) → NodeAt w L B k s ks b (off + j * 3)) → Seg w L B f b off
  | .nil, _, _, _ => trivial
  | .node k s ks r, b, off, h => by
    refine seg_node.2 ⟨?_, seg_of (f := r) fun j k s ks hg => ?_⟩
    · have := h 0 k s ks rfl
      rwa [Nat.zero_mul] at this
    · have := h (j + 1) k s ks hg
      rwa [show off + (j + 1) * 3 = off + 3 + j * 3 from by omega] at this
theorem seg_keep (hL : L' ≤ L) (hB : B ≤ B') (hk : ∀ p : Addr, L ≤ p.block → p.block < B → w'.cell? p = w.cell? p) : ∀ {f : Fo} {b off : Nat}, L ≤ b → b < B → Seg w L B f b off → Seg w' L' B' f b off
  | .nil, _, _, _, _, _ => trivial
  | .node k s ks r, b, off, h1, h2, ⟨c1, c2, ⟨a, n, c, c3, hl, hc, hs⟩, hr⟩ => by
    refine ⟨(hk ⟨b, off, none⟩ h1 h2).trans c1, (hk ⟨b, off + 1, none⟩ h1 h2).trans c2, ⟨a, n, c, (hk ⟨b, off + 2, none⟩ h1 h2).trans c3, hl, hc, fun hn => ?_⟩, seg_keep hL hB hk h1 h2 hr⟩
    obtain ⟨b', off', ha, hb1, hb2, hs'⟩ := hs hn
    exact ⟨b', off', ha, by omega, by omega, seg_keep hL hB hk hb1 hb2 hs'⟩
theorem KA.keep (h : KA w L B f a n) (hL : L' ≤ L) (hB : B ≤ B') (hk : ∀ p : Addr, L ≤ p.block → p.block < B → w'.cell? p = w.cell? p) : KA w' L' B' f a n :=
  ⟨h.1, fun hn => let ⟨b, off, ha, h1, h2, hs⟩ := h.2 hn; ⟨b, off, ha, by omega, by omega, seg_keep hL hB hk h1 h2 hs⟩⟩
theorem KA.more (h : KA w L B f a n) (hL : L' ≤ L) (hB : B ≤ B') : KA w L' B' f a n := h.keep hL hB fun _ _ _ => rfl
theorem KA.below (h : KA w L B f a n) (hb : Below B w w') : KA w' L B f a n := h.keep (Nat.le_refl _) (Nat.le_refl _) fun _ _ hp => hb.cell hp
theorem KA.next (h : KA w L w.heap.size f a n) (hb : Below w.heap.size w w') : KA w' L w'.heap.size f a n := (h.below hb).more (Nat.le_refl _) hb.size
theorem KA.nextB (h : KA w L B f a n) (hB : B ≤ w.heap.size) (hb : Below w.heap.size w w') : KA w' L B f a n := h.below (hb.mono hB)
theorem KA.alloc (h : KA w L B f a n) (hB : B ≤ w.heap.size) (o : Obj) : KA (w.alloc o) L B f a n := h.keep (Nat.le_refl _) (Nat.le_refl _) fun p _ hp => World.cell?_alloc_lt w o p (by omega)
theorem KA.setCell (h : KA w L B f a n) {g : Nat} (hg : g < L ∨ B ≤ g) (i : Nat) (u : Value) : KA (w.setCell ⟨g, i, none⟩ u) L B f a n :=
  h.keep (Nat.le_refl _) (Nat.le_refl _) fun p h1 h2 => World.cell?_setCell_other w _ _ _ (by rintro rfl; simp at h1 h2; omega)
theorem KA.nil : KA w L B .nil a 0 := ⟨rfl, fun h => absurd h (by omega)⟩
theorem KA.get (h : KA w L B f a n) {j : Nat} (hj : j < n) :
    ∃ b off k s ks a' n' c', a = some ⟨b, off, none⟩ ∧ L ≤ b ∧ b < B ∧ f.get j = some (k, s, ks) ∧ w.cell? ⟨b, off + j * 3, none⟩ = some (.int .i64 k) ∧ w.cell? ⟨b, off + j * 3 + 1, none⟩ = some (.string s) ∧
      w.cell? ⟨b, off + j * 3 + 2, none⟩ = some (.slice a' n' c') ∧ n' ≤ c' ∧ KA w L B ks a' n' := by
  obtain ⟨b, off, ha, hb, hc, hs⟩ := h.2 (by omega)
  obtain ⟨⟨k, s, ks⟩, hg⟩ := Fo.get_some (f := f) (j := j) (by have := h.1; omega)
  obtain ⟨h1, h2, a', n', c', h3, h4, h5⟩ := seg_get hs hg
  exact ⟨b, off, k, s, ks, a', n', c', ha, hb, hc, hg, h1, h2, h3, h4, h5⟩
end
end Go.Proofs.YtmmjeokmoffdpaaGreat

namespace Go.Proofs.YtmmjeokmoffdpaaGreat
set_option linter.unusedVariables false
open Go.RowKit

theorem run_append_at {P : Program} (w : World) (base : Nat) (t ty e : TypeId) (i : TypeInfo) (z : Value) (size bytes : Nat) (ht : P.underlying t = some (.slice e)) (hi : P.info? e = some i) (hz : i.zero = some z)
    (hsize : i.size = size) (hby : i.bytes = bytes) (hzs : z.cells.size = size) (hsz : 0 < size)
    (v : Value) (n : Nat) (xs : List Value) (hown : w.ownsRow base e size v n xs)
    (a : Addr) (m c : Nat) (news : List Value) (hl : news.length = m * size) (hnews : ∀ j u, news[j]? = some u → w.cell? (a.add j) = some u) (h1 : ∀ u ∈ news, u.oneCell' = true)
    (h63 : n + m ≤ maxLen) (hbytes : (n + m) * bytes ≤ 140737488355328) (hbase : base ≤ w.heap.size) :
    ∃ v' w', (Builtin.append_ #[t, t] ty #[v, .slice (some a) m c]).run P w = .ok v' w' ∧ w'.ownsRow base e size v' (n + m) (xs ++ news) ∧ w.grownBy w' v.ownBlock ∧
      (v'.ownBlock = v.ownBlock ∨ ∀ g, v'.ownBlock = some g → w.heap.size ≤ g) := by
  obtain ⟨v', w', hr, h2, h3, _⟩ := run_append_own (P := P) w base t ty e i z size bytes ht hi hz hsize hby hzs hsz v n xs hown a m c news hl hnews h1 h63 hbytes hbase
  refine ⟨v', w', hr, h2, h3, ?_⟩
  rcases hown.2 with ⟨rfl, rfl⟩ | ⟨g, cap, cur, rfl, hbg, hg, hnc, hcm, hcs, htake⟩
  · have hx : xs = [] := List.eq_nil_of_length_eq_zero (by simpa using hown.1)
    subst hx
    obtain ⟨v2, w2, hr2, h4, _, _⟩ := run_append_own (P := P) w w.heap.size t ty e i z size bytes ht hi hz hsize hby hzs hsz (.slice none 0 0) 0 [] (World.ownsRow_nil w _ _ _) a m c news hl hnews h1 h63 hbytes (Nat.le_refl _)
    rw [hr2] at hr
    cases hr
    exact .inr fun g hg => (World.ownsRow.lt h4 g hg).1
  · by_cases hroom : n + m ≤ cap
    · have hfit : n * i.size + news.length ≤ cur.size := by rw [hl, hcs, hsize, ← Nat.add_mul]; exact Nat.mul_le_mul_right _ hroom
      have hr2 := run_append_room (P := P) w t ty e i ht hi g n cap cur hg a m c news (by rw [hsize]; exact hl) hnews h1 hroom hfit
      rw [hr2] at hr
      cases hr
      exact .inl rfl
    · have holds : ∀ j u, xs[j]? = some u → w.cell? ((⟨g, 0, none⟩ : Addr).add j) = some u := hown.cells (g := g) rfl
      have hsmall : n + m ≤ 9223372036854775807 := by simp only [maxLen] at h63; omega
      have hr2 := run_append_grow (P := P) w t ty e i z ht hi hz ⟨g, 0, none⟩ n cap xs (by rw [hsize]; exact hown.1) holds a m c news (by rw [hsize]; exact hl) hnews (by omega) (by omega) (growslice_fits (by omega) (by rw [hby]; exact hbytes))
      rw [hr2] at hr
      cases hr
      refine .inr fun g' hg' => ?_
      simp [Value.ownBlock] at hg'
      omega

theorem wp_append_at {P : Program} {o : Oper} {a : Act} {w : World} {K : Act → World → Prop} {Q : Exit → Act → World → Prop} (s x : Operand) (t : TypeId)
    (ho : o.op = .call { callee := .builtin .append, args := #[s, x], argTypes := #[t, t] })
    (base : Nat) (e : TypeId) (i : TypeInfo) (z : Value) (size bytes : Nat) (ht : P.underlying t = some (.slice e)) (hi : P.info? e = some i) (hz : i.zero = some z)
    (hsize : i.size = size) (hby : i.bytes = bytes) (hzs : z.cells.size = size) (hsz : 0 < size)
    (v : Value) (n : Nat) (xs : List Value) (hs : a.eval s = v) (hown : w.ownsRow base e size v n xs)
    (ad : Addr) (m c : Nat) (news : List Value) (hx : a.eval x = .slice (some ad) m c) (hl : news.length = m * size) (hnews : ∀ j u, news[j]? = some u → w.cell? (ad.add j) = some u) (h1 : ∀ u ∈ news, u.oneCell' = true)
    (h63 : n + m ≤ maxLen) (hbytes : (n + m) * bytes ≤ 140737488355328) (hbase : base ≤ w.heap.size)
    (h : ∀ v' w', w'.ownsRow base e size v' (n + m) (xs ++ news) → w.grownBy w' v.ownBlock → (v'.ownBlock = v.ownBlock ∨ ∀ g, v'.ownBlock = some g → w.heap.size ≤ g) → K (a.put o.dst v') w') : o.wp P a w K Q := by
  obtain ⟨v', w', hr, h2, h3, h4⟩ := run_append_at (P := P) w base t o.type e i z size bytes ht hi hz hsize hby hzs hsz v n xs hown ad m c news hl hnews h1 h63 hbytes hbase
  unfold Oper.wp execOp
  simp only [ho, resolve, invoke, builtin, Sem.run_bind, Sem.run_pure, Result.andThen_ok, List.map_toArray, List.map_cons, List.map_nil, hs, hx, hr]
  exact h v' w' h2 h3 h4

theorem wpList_append_at {P : Program} {w : World} {ops : Array Oper} {rest : List Oper} {o : Oper} {a : Act} {Q : Exit → Act → World → Prop} (hgd : o.guard = none) (s x : Operand) (t : TypeId)
    (ho : o.op = .call { callee := .builtin .append, args := #[s, x], argTypes := #[t, t] })
    (base : Nat) (e : TypeId) (i : TypeInfo) (z : Value) (size bytes : Nat) (ht : P.underlying t = some (.slice e)) (hi : P.info? e = some i) (hz : i.zero = some z)
    (hsize : i.size = size) (hby : i.bytes = bytes) (hzs : z.cells.size = size) (hsz : 0 < size)
    (v : Value) (n : Nat) (xs : List Value) (hs : a.eval s = v) (hown : w.ownsRow base e size v n xs)
    (ad : Addr) (m c : Nat) (news : List Value) (hx : a.eval x = .slice (some ad) m c) (hl : news.length = m * size) (hnews : ∀ j u, news[j]? = some u → w.cell? (ad.add j) = some u) (h1 : ∀ u ∈ news, u.oneCell' = true)
    (h63 : n + m ≤ maxLen) (hbytes : (n + m) * bytes ≤ 140737488355328) (hbase : base ≤ w.heap.size)
    (h : ∀ v' w', w'.ownsRow base e size v' (n + m) (xs ++ news) → w.grownBy w' v.ownBlock → (v'.ownBlock = v.ownBlock ∨ ∀ g, v'.ownBlock = some g → w.heap.size ≤ g) → wpList P ops Q rest (a.put o.dst v') w') : wpList P ops Q (o :: rest) a w :=
  wpList_plain hgd fun _ hK => wp_append_at s x t ho base e i z size bytes ht hi hz hsize hby hzs hsz v n xs hs hown ad m c news hx hl hnews h1 h63 hbytes hbase fun v' w' h2 h3 h4 => hK _ _ (h v' w' h2 h3 h4)
end Go.Proofs.YtmmjeokmoffdpaaGreat

namespace Go.Proofs.YtmmjeokmoffdpaaGreat
set_option linter.unusedVariables false
set_option linter.unusedSimpArgs false
open Go.RowKit

section
variable {w w' : World}
theorem grown_drewN {row : Option Nat} (h : w.grownBy w' row) (n : Nat) : w.grownBy (w'.drewN n) row := ⟨h.os, h.tape, h.output, h.size, h.block⟩
theorem grown_alloc {row : Option Nat} (h : w.grownBy w' row) (o : Obj) : w.grownBy (w'.alloc o) row :=
  ⟨h.os, h.tape, h.output, Nat.le_trans h.size (by simp), fun i hi hne => (Below.heap_alloc w' o i (Nat.lt_of_lt_of_le hi h.size)).trans (h.block i hi hne)⟩
theorem grown_set {g : Nat} (h : w.grownBy w' (some g)) {p : Addr} (hp : p.block = g ∨ w.heap.size ≤ p.block) (u : Value) : w.grownBy (w'.setCell p u) (some g) :=
  ⟨h.os, h.tape, h.output, by simpa [World.setCell] using h.size, fun i hi hne => (Below.heap_setCell w' p u i (by
    rintro rfl
    rcases hp with hp | hp
    · exact hne (by rw [hp])
    · omega)).trans (h.block i hi hne)⟩
end
namespace Fo
/-- one more node behind the others -/
def snoc : Fo → Int → ByteArray → Fo → Fo
  | .nil, k, s, ks => .node k s ks .nil
  | .node k' s' ks' r, k, s, ks => .node k' s' ks' (r.snoc k s ks)
theorem snoc_len : ∀ (f : Fo) (k : Int) (s : ByteArray) (ks : Fo), (f.snoc k s ks).len = f.len + 1
  | .nil, _, _, _ => rfl
  | .node _ _ _ r, k, s, ks => by simp only [snoc, len, snoc_len r]
theorem snoc_size : ∀ (f : Fo) (k : Int) (s : ByteArray) (ks : Fo), (f.snoc k s ks).size = f.size + ks.size + 1
  | .nil, _, _, _ => by simp [snoc, size]
  | .node _ _ _ r, k, s, ks => by simp only [snoc, size, snoc_size r]; omega
theorem snoc_fits : ∀ {f : Fo} {k : Int} {s : ByteArray} {ks : Fo}, f.Fits → s.size ≤ maxLen → ks.len ≤ maxLen → ks.Fits → (f.snoc k s ks).Fits
  | .nil, _, _, _, _, h1, h2, h3 => ⟨h1, h2, h3, trivial⟩
  | .node _ _ _ r, _, _, _, h, h1, h2, h3 => ⟨h.1, h.2.1, h.2.2.1, snoc_fits (f := r) h.2.2.2 h1 h2 h3⟩
theorem snoc_drop : ∀ {f : Fo} {j : Nat} {k : Int} {s : ByteArray} {ks : Fo}, f.get j = some (k, s, ks) → ∀ g : Fo, (∀ i, i < j → g.get i = f.get i) → g.len = j → ∀ i, i < j + 1 → (g.snoc k s ks).get i = f.get i := by
  have key : ∀ (g : Fo) (k : Int) (s : ByteArray) (ks : Fo), (∀ i, i < g.len → (g.snoc k s ks).get i = g.get i) ∧ (g.snoc k s ks).get g.len = some (k, s, ks) := by
    intro g
    induction g with
    | nil => exact fun k s ks => ⟨fun i h => absurd h (by simp [len]), rfl⟩
    | node k' s' ks' r _ ih =>
      refine fun k s ks => ⟨fun i h => ?_, (ih k s ks).2⟩
      cases i with
      | zero => rfl
      | succ i => exact (ih k s ks).1 i (by simp only [len] at h; omega)
  intro f j k s ks hg g h1 h2 i hi
  subst h2
  by_cases e : i = g.len
  · subst e
    rw [(key g k s ks).2, hg]
  · rw [(key g k s ks).1 i (by omega)]
    exact h1 i (by omega)
end Fo

/-- the cells of a row of nodes; og: the block of the row -/
def RowT (w : World) (L B : Nat) (og : Option Nat) : Fo → List Value → Prop
  | .nil, xs => xs = []
  | .node k s ks r, xs => (∃ a n c ys, xs = .int .i64 k :: .string s :: .slice a n c :: ys ∧ n ≤ c ∧ (∃ L1 B1, KA w L1 B1 ks a n ∧ L ≤ L1 ∧ B1 ≤ B ∧ ∀ g, og = some g → g < L1 ∨ B1 ≤ g) ∧ RowT w L B og r ys)
section
variable {w w' : World} {L L' B B' b off : Nat} {og og' : Option Nat} {k : Int} {s : ByteArray} {ks : Fo}
theorem rowT_len : ∀ {f : Fo} {xs : List Value}, RowT w L B og f xs → xs.length = f.len * 3
  | .nil, _, h => by simp only [RowT] at h; subst h; rfl
  | .node k s ks r, _, ⟨a, n, c, ys, e, _, _, h⟩ => by subst e; have := rowT_len h; simp only [List.length_cons, Fo.len, this]; omega
theorem rowT_keep (hL : L' ≤ L) (hB : B ≤ B') (ho : ∀ g, og' = some g → og = some g ∨ g < L ∨ B ≤ g) (hk : ∀ p : Addr, L ≤ p.block → p.block < B → og ≠ some p.block → w'.cell? p = w.cell? p) : ∀ {f : Fo} {xs : List Value}, RowT w L B og f xs → RowT w' L' B' og' f xs
  | .nil, _, h => h
  | .node k s ks r, _, ⟨a, n, c, ys, e, hc, ⟨L1, B1, h1, h2, h3, h4⟩, h⟩ =>
    ⟨a, n, c, ys, e, hc, ⟨L1, B1, h1.keep (Nat.le_refl _) (Nat.le_refl _) fun p h5 h6 => hk p (by omega) (by omega) (fun e => by have := h4 _ e; omega), by omega, by omega, fun g hg => by
      rcases ho g hg with h | h | h
      · exact h4 g h
      · exact .inl (by omega)
      · exact .inr (by omega)⟩, rowT_keep hL hB ho hk h⟩
theorem rowT_snoc {a : Option Addr} {n c L1 B1 : Nat} (hc : n ≤ c) (h1 : KA w L1 B1 ks a n) (h2 : L ≤ L1) (h3 : B1 ≤ B) (h4 : ∀ g, og = some g → g < L1 ∨ B1 ≤ g) :
    ∀ {f : Fo} {xs : List Value}, RowT w L B og f xs → RowT w L B og (f.snoc k s ks) (xs ++ [.int .i64 k, .string s, .slice a n c])
  | .nil, _, h => by simp only [RowT] at h; subst h; exact ⟨a, n, c, [], rfl, hc, ⟨L1, B1, h1, h2, h3, h4⟩, rfl⟩
  | .node k s ks r, _, ⟨a', n', c', ys, e, hc', h5, h⟩ => by subst e; exact ⟨a', n', c', _, rfl, hc', h5, rowT_snoc hc h1 h2 h3 h4 h⟩
theorem rowT_seg : ∀ {f : Fo} {xs : List Value} {off : Nat}, RowT w L B og f xs → (∀ j u, xs[j]? = some u → w.cell? ⟨b, off + j, none⟩ = some u) → Seg w L B f b off
  | .nil, _, _, _, _ => trivial
  | .node k s ks r, _, off, ⟨a, n, c, ys, e, hc, ⟨L1, B1, h1, h2, h3, h4⟩, h⟩, hcell => by
    subst e
    refine seg_node.2 ⟨⟨hcell 0 _ rfl, hcell 1 _ rfl, a, n, c, hcell 2 _ rfl, hc, h1.more h2 h3⟩, rowT_seg h fun j u hu => ?_⟩
    have := hcell (j + 3) u (by simpa using hu)
    rwa [show off + 3 + j = off + (j + 3) from by omega]
end

/-- a list of expressions of one's own -/
def OwnT (w : World) (base : Nat) (v : Value) (f : Fo) : Prop := ∃ xs, w.ownsRow base 42 3 v f.len xs ∧ RowT w base w.heap.size v.ownBlock f xs
theorem exprs_under : Tryz.prog.underlying 40 = some (.slice 42) := by kernel_rfl
theorem expr_info3 : (Tryz.prog.info? 42).map (fun i => (i.zero, i.size, i.bytes)) = some (some (.agg #[.int .i64 0, .string .empty, .slice none 0 0]), 3, 48) := by kernel_rfl
section
variable {w w' : World} {base base' : Nat} {v v' : Value} {f : Fo} {r : Option Nat}
theorem OwnT.nil (w : World) (base : Nat) : OwnT w base (.slice none 0 0) .nil := ⟨[], World.ownsRow_nil _ _ _ _, rfl⟩
theorem OwnT.lt (h : OwnT w base v f) : ∀ g, v.ownBlock = some g → base ≤ g ∧ g < w.heap.size := by
  obtain ⟨xs, h1, _⟩ := h
  exact World.ownsRow.lt h1
theorem OwnT.grown (h : OwnT w base v f) (hg : w.grownBy w' r) (hr : ∀ g, r = some g → g < base ∨ w.heap.size ≤ g) : OwnT w' base v f := by
  obtain ⟨xs, h1, h2⟩ := h
  refine ⟨xs, World.ownsRow.kept h1 hg ?_, rowT_keep (Nat.le_refl _) hg.size (fun g hg => .inl hg) (fun p h3 h4 _ => World.cell?_of_block (hg.block p.block h4 (fun e => by have := hr _ e.symm; omega))) h2⟩
  cases hv : v.ownBlock with
  | none => exact .inl rfl
  | some g => exact .inr fun e => by have := World.ownsRow.lt h1 g hv; have := hr g e.symm; omega
theorem OwnT.alloc (h : OwnT w base v f) (o : Obj) : OwnT (w.alloc o) base v f := h.grown (World.grownBy_alloc w o none) fun g e => by cases e
theorem OwnT.below (h : OwnT w base v f) (hb : Below w.heap.size w w') : OwnT w' base v f := h.grown (r := none) ⟨hb.os, hb.tape, hb.output, hb.size, fun i hi _ => hb.block i hi⟩ fun g e => by cases e
theorem OwnT.setCell (h : OwnT w base v f) {g : Nat} (hg : g < base) (i : Nat) (u : Value) : OwnT (w.setCell ⟨g, i, none⟩ u) base v f :=
  h.grown (r := some g) (grown_set (World.grownBy.refl w _) (.inl rfl) u) fun j e => by injection e with e; omega
theorem OwnT.drewN (h : OwnT w base v f) (m : Nat) : OwnT (w.drewN m) base v f := h.grown (grown_drewN (World.grownBy.refl w none) m) fun j e => by cases e
theorem OwnT.mono (h : OwnT w base v f) (hb : base' ≤ base) : OwnT w base' v f := by
  obtain ⟨xs, h1, h2⟩ := h
  exact ⟨xs, World.ownsRow.mono h1 hb, rowT_keep hb (Nat.le_refl _) (fun g hg => .inl hg) (fun _ _ _ _ => rfl) h2⟩
/-- as a slice that can be read -/
theorem OwnT.form (h : OwnT w base v f) : ∃ a c, v = .slice a f.len c ∧ f.len ≤ c ∧ c ≤ maxLen ∧ KA w base w.heap.size f a f.len := by
  obtain ⟨xs, h1, h2⟩ := h
  rcases h1.2 with ⟨rfl, h0⟩ | ⟨g, cap, cur, rfl, hb, hg, hc, hm, _⟩
  · exact ⟨none, 0, by rw [h0], by omega, by simp [maxLen], rfl, fun h => absurd h (by omega)⟩
  · refine ⟨_, cap, rfl, hc, hm, rfl, fun _ => ⟨g, 0, rfl, hb, blk_lt hg, rowT_seg h2 fun j u hu => ?_⟩⟩
    have := World.ownsRow.cells h1 (g := g) rfl j u hu
    rwa [add_none] at this
/-- one more node -/
theorem OwnT.snoc {k : Int} {s : ByteArray} {ks : Fo} {a : Option Addr} {n c L1 B1 : Nat} {xs : List Value} (h2 : RowT w base w.heap.size v.ownBlock f xs) (hown : w'.ownsRow base 42 3 v' (f.len + 1) (xs ++ [.int .i64 k, .string s, .slice a n c]))
    (hg : w.grownBy w' v.ownBlock) (ho : v'.ownBlock = v.ownBlock ∨ ∀ g, v'.ownBlock = some g → w.heap.size ≤ g) (hc : n ≤ c) (hk : KA w L1 B1 ks a n) (hL : base ≤ L1) (hB : B1 ≤ w.heap.size) (hown1 : ∀ g, v.ownBlock = some g → g < L1 ∨ B1 ≤ g) : OwnT w' base v' (f.snoc k s ks) := by
  refine ⟨_, by rw [Fo.snoc_len]; exact hown, ?_⟩
  have h3 := rowT_snoc (k := k) (s := s) hc hk hL hB hown1 h2
  refine rowT_keep (Nat.le_refl _) hg.size (fun g e => ?_) (fun p h4 h5 h6 => World.cell?_of_block (hg.block p.block h5 (fun e => h6 e.symm))) h3
  rcases ho with ho | ho
  · exact .inl (ho ▸ e)
  · exact .inr (.inr (ho g e))
end
theorem wpList_append_node {w : World} {ops : Array Oper} {rest : List Oper} {o : Oper} {a : Act} {Q : Exit → Act → World → Prop} (hgd : o.guard = none) (s x : Operand)
    (ho : o.op = .call { callee := .builtin .append, args := #[s, x], argTypes := #[40, 40] })
    (base : Nat) (v : Value) (f : Fo) (hs : a.eval s = v) (hown : OwnT w base v f) (g c1 : Nat) (hx : a.eval x = .slice (some ⟨g, 0, none⟩) 1 c1)
    (k : Int) (t : ByteArray) (ks : Fo) (ad : Option Addr) (n c L1 B1 : Nat) {T : TypeId} (hbx : w.heap[g]? = some (.cells #[.int .i64 k, .string t, .slice ad n c] T (0, 0))) (hc : n ≤ c) (hk : KA w L1 B1 ks ad n) (hL : base ≤ L1) (hB : B1 ≤ w.heap.size) (hown1 : ∀ g, v.ownBlock = some g → g < L1 ∨ B1 ≤ g)
    (h63 : f.len ≤ 1000000000) (hbase : base ≤ w.heap.size)
    (h : ∀ v' w', OwnT w' base v' (f.snoc k t ks) → w.grownBy w' v.ownBlock → (v'.ownBlock = v.ownBlock ∨ ∀ g, v'.ownBlock = some g → w.heap.size ≤ g) → wpList Tryz.prog ops Q rest (a.put o.dst v') w') : wpList Tryz.prog ops Q (o :: rest) a w := by
  obtain ⟨i, hi, hz0, hz1, hz2⟩ := info_parts expr_info3
  obtain ⟨xs, h1, h2⟩ := hown
  refine wpList_append_at hgd s x 40 ho base 42 i _ 3 48 exprs_under hi hz0 hz1 hz2 rfl (by decide) v f.len xs hs h1 ⟨g, 0, none⟩ 1 c1 [.int .i64 k, .string t, .slice ad n c] hx rfl ?_ (by simp [Value.oneCell']) (by simp only [maxLen]; omega) (by omega) hbase fun v' w' h3 h4 h5 => h v' w' (OwnT.snoc h2 h3 h4 h5 hc hk hL hB hown1) h4 h5
  intro j u hu
  rw [add_none, cell_of_row _ _ _ _ _ _ hbx]
  simpa using hu
theorem OwnT.some {w : World} {base : Nat} {v : Value} {f : Fo} (h : OwnT w base v f) (hn : 0 < f.len) : ∃ g cap, v = .slice (some ⟨g, 0, none⟩) f.len cap ∧ base ≤ g ∧ g < w.heap.size := by
  obtain ⟨xs, h1, _⟩ := h
  exact World.ownsRow.form h1 hn
/-- one more node, at a step of a region that draws -/
theorem step_append_node {w : World} {ops : Array Oper} {o : Oper} {a : Act} {K : Act → World → Prop} {Q : Exit → Act → World → Prop} {E : Prop} (hgd : o.guard = none) (s x : Operand)
    (ho : o.op = .call { callee := .builtin .append, args := #[s, x], argTypes := #[40, 40] })
    (base : Nat) (v : Value) (f : Fo) (hs : a.eval s = v) (hown : OwnT w base v f) (g c1 : Nat) (hx : a.eval x = .slice (some ⟨g, 0, none⟩) 1 c1)
    (k : Int) (t : ByteArray) (ks : Fo) (ad : Option Addr) (n c L1 B1 : Nat) {T : TypeId} (hbx : w.heap[g]? = some (.cells #[.int .i64 k, .string t, .slice ad n c] T (0, 0))) (hc : n ≤ c) (hk : KA w L1 B1 ks ad n) (hL : base ≤ L1) (hB : B1 ≤ w.heap.size) (hown1 : ∀ g, v.ownBlock = some g → g < L1 ∨ B1 ≤ g)
    (h63 : f.len ≤ 1000000000) (hbase : base ≤ w.heap.size)
    (h : ∀ g cap w', OwnT w' base (.slice (some ⟨g, 0, none⟩) (f.len + 1) cap) (f.snoc k t ks) → w.grownBy w' v.ownBlock → g < w'.heap.size → base ≤ g → K (a.put o.dst (.slice (some ⟨g, 0, none⟩) (f.len + 1) cap)) w') :
    if Region.wanted o (yielded ops a.tmps) = true then Oper.wp Tryz.prog o a w K Q else E := by
  have hw : Region.wanted o (yielded ops a.tmps) = true := by simp [Region.wanted, hgd]
  rw [if_pos hw]
  obtain ⟨i, hi, hz0, hz1, hz2⟩ := info_parts expr_info3
  obtain ⟨xs, h1, h2⟩ := hown
  refine wp_append_at s x 40 ho base 42 i _ 3 48 exprs_under hi hz0 hz1 hz2 rfl (by decide) v f.len xs hs h1 ⟨g, 0, none⟩ 1 c1 [.int .i64 k, .string t, .slice ad n c] hx rfl ?_ (by simp [Value.oneCell']) (by simp only [maxLen]; omega) (by omega) hbase fun v' w' h3 h4 h5 => ?_
  · intro j u hu
    rw [add_none, cell_of_row _ _ _ _ _ _ hbx]
    simpa using hu
  · have h6 := OwnT.snoc h2 h3 h4 h5 hc hk hL hB hown1
    obtain ⟨g', cap', rfl, h7, h8⟩ := h6.some (by rw [Fo.snoc_len]; omega)
    rw [Fo.snoc_len] at h6 ⊢
    exact h g' cap' w' h6 h4 h8 h7
end Go.Proofs.YtmmjeokmoffdpaaGreat

namespace Go.Proofs.YtmmjeokmoffdpaaGreat
set_option linter.unusedVariables false
open Go.RowKit

/-- a rule: its target, and the kind, the text and the operands of its body -/
abbrev Ru := ByteArray × Int × ByteArray × Fo
/-- the bytes and operands of a rule -/
def ruSz (x : Ru) : Nat := x.1.size + (x.2.2.1.size + x.2.2.2.len + x.2.2.2.tot)
def ruTot : List Ru → Nat
  | [] => 0
  | x :: r => ruSz x + ruTot r
/-- texts and lists that a machine holds -/
def RuFits (rs : List Ru) : Prop := ∀ x ∈ rs, x.1.size ≤ maxLen ∧ x.2.2.1.size ≤ maxLen ∧ x.2.2.2.len ≤ maxLen ∧ x.2.2.2.Fits
theorem ruTot_drop {rs : List Ru} {j : Nat} {x : Ru} (h : rs[j]? = some x) : ruTot (rs.drop j) = ruSz x + ruTot (rs.drop (j + 1)) := by
  obtain ⟨hl, rfl⟩ := List.getElem?_eq_some_iff.1 h
  rw [List.drop_eq_getElem_cons hl]
  rfl
theorem ruTot_le (rs : List Ru) (j : Nat) : ruTot (rs.drop j) ≤ ruTot rs := by
  induction rs generalizing j with
  | nil => simp [ruTot]
  | cons x r ih =>
    cases j with
    | zero => exact Nat.le_refl _
    | succ j => have := ih j; simp only [List.drop_succ_cons, ruTot]; omega
theorem RuFits.get {rs : List Ru} {j : Nat} {t s : ByteArray} {k : Int} {ks : Fo} (h : RuFits rs) (hg : rs[j]? = some (t, k, s, ks)) : t.size ≤ maxLen ∧ s.size ≤ maxLen ∧ ks.len ≤ maxLen ∧ ks.Fits := h _ (List.mem_of_getElem? hg)
theorem ruTot_get {rs : List Ru} {j : Nat} {x : Ru} (h : rs[j]? = some x) : ruSz x ≤ ruTot rs := by
  have := ruTot_drop h
  have := ruTot_le rs j
  omega

/-- a rule at a place -/
def RuleAt (w : World) (L B : Nat) (t : ByteArray) (k : Int) (s : ByteArray) (ks : Fo) (b off : Nat) : Prop :=
  w.cell? ⟨b, off, none⟩ = some (.string t) ∧ w.cell? ⟨b, off + 1, none⟩ = some (.int .i64 k) ∧ w.cell? ⟨b, off + 2, none⟩ = some (.string s) ∧ ∃ a n c, w.cell? ⟨b, off + 3, none⟩ = some (.slice a n c) ∧ n ≤ c ∧ KA w L B ks a n
/-- a slice whose elements are these rules -/
def RuAt (w : World) (L B : Nat) (rs : List Ru) (a : Option Addr) (n : Nat) : Prop :=
  rs.length = n ∧ (0 < n → ∃ b off, a = some ⟨b, off, none⟩ ∧ L ≤ b ∧ b < B ∧ ∀ j t k s ks, rs[j]? = some (t, k, s, ks) → RuleAt w L B t k s ks b (off + j * 4))
section
variable {w w' : World} {L L' B B' b off n : Nat} {a : Option Addr} {rs : List Ru} {k : Int} {s t : ByteArray} {ks : Fo}
theorem RuleAt.keep (h : RuleAt w L B t k s ks b off) (hL : L' ≤ L) (hB : B ≤ B') (h1 : L ≤ b) (h2 : b < B) (hk : ∀ p : Addr, L ≤ p.block → p.block < B → w'.cell? p = w.cell? p) : RuleAt w' L' B' t k s ks b off := by
  obtain ⟨c0, c1, c2, a, n, c, c3, hc, hks⟩ := h
  exact ⟨(hk ⟨b, off, none⟩ h1 h2).trans c0, (hk ⟨b, off + 1, none⟩ h1 h2).trans c1, (hk ⟨b, off + 2, none⟩ h1 h2).trans c2, a, n, c, (hk ⟨b, off + 3, none⟩ h1 h2).trans c3, hc, hks.keep hL hB hk⟩
theorem RuAt.keep (h : RuAt w L B rs a n) (hL : L' ≤ L) (hB : B ≤ B') (hk : ∀ p : Addr, L ≤ p.block → p.block < B → w'.cell? p = w.cell? p) : RuAt w' L' B' rs a n :=
  ⟨h.1, fun hn => let ⟨b, off, ha, h1, h2, hs⟩ := h.2 hn; ⟨b, off, ha, by omega, by omega, fun j t k s ks hg => (hs j t k s ks hg).keep hL hB h1 h2 hk⟩⟩
theorem RuAt.more (h : RuAt w L B rs a n) (hL : L' ≤ L) (hB : B ≤ B') : RuAt w L' B' rs a n := h.keep hL hB fun _ _ _ => rfl
theorem RuAt.below (h : RuAt w L B rs a n) (hb : Below B w w') : RuAt w' L B rs a n := h.keep (Nat.le_refl _) (Nat.le_refl _) fun _ _ hp => hb.cell hp
theorem RuAt.next (h : RuAt w L w.heap.size rs a n) (hb : Below w.heap.size w w') : RuAt w' L w'.heap.size rs a n := (h.below hb).more (Nat.le_refl _) hb.size
theorem RuAt.alloc (h : RuAt w L B rs a n) (hB : B ≤ w.heap.size) (o : Obj) : RuAt (w.alloc o) L B rs a n := h.keep (Nat.le_refl _) (Nat.le_refl _) fun p _ hp => World.cell?_alloc_lt w o p (by omega)
theorem RuAt.setCell (h : RuAt w L B rs a n) {g : Nat} (hg : g < L ∨ B ≤ g) (i : Nat) (u : Value) : RuAt (w.setCell ⟨g, i, none⟩ u) L B rs a n :=
  h.keep (Nat.le_refl _) (Nat.le_refl _) fun p h1 h2 => World.cell?_setCell_other w _ _ _ (by rintro rfl; simp at h1 h2; omega)
theorem RuAt.get (h : RuAt w L B rs a n) {j : Nat} (hj : j < n) :
    ∃ b off t k s ks a' n' c', a = some ⟨b, off, none⟩ ∧ L ≤ b ∧ b < B ∧ rs[j]? = some (t, k, s, ks) ∧ w.cell? ⟨b, off + j * 4, none⟩ = some (.string t) ∧ w.cell? ⟨b, off + j * 4 + 1, none⟩ = some (.int .i64 k) ∧ w.cell? ⟨b, off + j * 4 + 2, none⟩ = some (.string s) ∧
      w.cell? ⟨b, off + j * 4 + 3, none⟩ = some (.slice a' n' c') ∧ n' ≤ c' ∧ KA w L B ks a' n' := by
  obtain ⟨b, off, ha, hb, hc, hs⟩ := h.2 (by omega)
  have hl : j < rs.length := by have := h.1; omega
  obtain ⟨⟨t, k, s, ks⟩, hg⟩ : ∃ x, rs[j]? = some x := ⟨_, List.getElem?_eq_getElem hl⟩
  obtain ⟨h0, h1, h2, a', n', c', h3, h4, h5⟩ := hs j t k s ks hg
  exact ⟨b, off, t, k, s, ks, a', n', c', ha, hb, hc, hg, h0, h1, h2, h3, h4, h5⟩
end
/-- the rules before a place stand in a row being filled -/
def DoneRu (w : World) (L B : Nat) (rs : List Ru) (cur : Array Value) (j : Nat) : Prop := ∀ i t k s ks, i < j → rs[i]? = some (t, k, s, ks) →
  cur[i * 4]? = some (.string t) ∧ cur[i * 4 + 1]? = some (.int .i64 k) ∧ cur[i * 4 + 2]? = some (.string s) ∧ ∃ a n c, cur[i * 4 + 3]? = some (.slice a n c) ∧ n ≤ c ∧ KA w L B ks a n
section
variable {w w' : World} {L B : Nat} {rs : List Ru} {cur : Array Value} {j : Nat} {k : Int} {s t : ByteArray} {ks : Fo}
theorem DoneRu.zero : DoneRu w L B rs cur 0 := fun i _ _ _ _ h => absurd h (by omega)
theorem DoneRu.keep {L' B' : Nat} (h : DoneRu w L B rs cur j) (hL : L' ≤ L) (hB : B ≤ B') (hk : ∀ p : Addr, L ≤ p.block → p.block < B → w'.cell? p = w.cell? p) : DoneRu w' L' B' rs cur j := fun i t k s ks hi hg =>
  let ⟨h0, h1, h2, a, n, c, h3, h4, h5⟩ := h i t k s ks hi hg
  ⟨h0, h1, h2, a, n, c, h3, h4, h5.keep hL hB hk⟩
theorem DoneRu.step {g : Nat} (h : DoneRu w L B rs cur j) (hg : rs[j]? = some (t, k, s, ks)) {a : Option Addr} {n c : Nat} (hc : n ≤ c) (hk : KA w L B ks a n) (hs : j * 4 + 3 < cur.size) (hL : g < L) (x y z u : Value) :
    DoneRu ((((w.setCell ⟨g, j * 4, none⟩ x).setCell ⟨g, j * 4 + 1, none⟩ y).setCell ⟨g, j * 4 + 2, none⟩ z).setCell ⟨g, j * 4 + 3, none⟩ u) L B rs
      ((((cur.setIfInBounds (j * 4) (.string t)).setIfInBounds (j * 4 + 1) (.int .i64 k)).setIfInBounds (j * 4 + 2) (.string s)).setIfInBounds (j * 4 + 3) (.slice a n c)) (j + 1) := by
  intro i t' k' s' ks' hi hgi
  by_cases e : i = j
  · subst e
    rw [hg] at hgi
    simp only [Option.some.injEq, Prod.mk.injEq] at hgi
    obtain ⟨rfl, rfl, rfl, rfl⟩ := hgi
    refine ⟨?_, ?_, ?_, a, n, c, ?_, hc, (((hk.setCell (.inl hL) _ _).setCell (.inl hL) _ _).setCell (.inl hL) _ _).setCell (.inl hL) _ _⟩
    · rw [Array.getElem?_setIfInBounds_ne (by omega), Array.getElem?_setIfInBounds_ne (by omega), Array.getElem?_setIfInBounds_ne (by omega), Array.getElem?_setIfInBounds_self_of_lt (by omega)]
    · rw [Array.getElem?_setIfInBounds_ne (by omega), Array.getElem?_setIfInBounds_ne (by omega), Array.getElem?_setIfInBounds_self_of_lt (by simp; omega)]
    · rw [Array.getElem?_setIfInBounds_ne (by omega), Array.getElem?_setIfInBounds_self_of_lt (by simp; omega)]
    · rw [Array.getElem?_setIfInBounds_self_of_lt (by simp; omega)]
  · obtain ⟨h0, h1, h2, a', n', c', h3, h4, h5⟩ := h i t' k' s' ks' (by omega) hgi
    refine ⟨?_, ?_, ?_, a', n', c', ?_, h4, (((h5.setCell (.inl hL) _ _).setCell (.inl hL) _ _).setCell (.inl hL) _ _).setCell (.inl hL) _ _⟩
    · rw [Array.getElem?_setIfInBounds_ne (by omega), Array.getElem?_setIfInBounds_ne (by omega), Array.getElem?_setIfInBounds_ne (by omega), Array.getElem?_setIfInBounds_ne (by omega)]; exact h0
    · rw [Array.getElem?_setIfInBounds_ne (by omega), Array.getElem?_setIfInBounds_ne (by omega), Array.getElem?_setIfInBounds_ne (by omega), Array.getElem?_setIfInBounds_ne (by omega)]; exact h1
    · rw [Array.getElem?_setIfInBounds_ne (by omega), Array.getElem?_setIfInBounds_ne (by omega), Array.getElem?_setIfInBounds_ne (by omega), Array.getElem?_setIfInBounds_ne (by omega)]; exact h2
    · rw [Array.getElem?_setIfInBounds_ne (by omega), Array.getElem?_setIfInBounds_ne (by omega), Array.getElem?_setIfInBounds_ne (by omega), Array.getElem?_setIfInBounds_ne (by omega)]; exact h3
theorem DoneRu.all {g : Nat} {T : TypeId} (h : DoneRu w L B rs cur rs.length) (hb : w.heap[g]? = some (.cells cur T (0, 0))) (hL : L ≤ g) (hB : g < B) : RuAt w L B rs (some ⟨g, 0, none⟩) rs.length := by
  refine ⟨rfl, fun _ => ⟨g, 0, rfl, hL, hB, fun j t k s ks hg => ?_⟩⟩
  obtain ⟨h0, h1, h2, a, n, c, h3, h4, h5⟩ := h j t k s ks (List.getElem?_eq_some_iff.1 hg).1 hg
  rw [Nat.zero_add]
  exact ⟨(cell_of_row _ _ _ _ _ _ hb).trans h0, (cell_of_row _ _ _ _ _ _ hb).trans h1, (cell_of_row _ _ _ _ _ _ hb).trans h2, a, n, c, (cell_of_row _ _ _ _ _ _ hb).trans h3, h4, h5⟩
end
end Go.Proofs.YtmmjeokmoffdpaaGreat

namespace Go.Proofs.YtmmjeokmoffdpaaGreat
set_option linter.unusedVariables false
set_option linter.unusedSimpArgs false
open Go.RowKit

/-- the cells of a row of rules; og: the block of the row -/
def RowR (w : World) (L B : Nat) (og : Option Nat) : List Ru → List Value → Prop
  | [], xs => xs = []
  | x :: rs, xs => ∃ a c ys, xs = .string x.1 :: .int .i64 x.2.1 :: .string x.2.2.1 :: .slice a x.2.2.2.len c :: ys ∧ x.2.2.2.len ≤ c ∧ (∃ L1 B1, KA w L1 B1 x.2.2.2 a x.2.2.2.len ∧ L ≤ L1 ∧ B1 ≤ B ∧ ∀ g, og = some g → g < L1 ∨ B1 ≤ g) ∧ RowR w L B og rs ys
section
variable {w w' : World} {L L' B B' b : Nat} {og og' : Option Nat} {rs : List Ru} {xs : List Value}
theorem rowR_len : ∀ {rs : List Ru} {xs : List Value}, RowR w L B og rs xs → xs.length = rs.length * 4
  | [], _, h => by simp only [RowR] at h; subst h; rfl
  | x :: rs, _, ⟨a, c, ys, e, _, _, h⟩ => by subst e; have := rowR_len h; simp only [List.length_cons, this]; omega
theorem rowR_keep (hL : L' ≤ L) (hB : B ≤ B') (ho : ∀ g, og' = some g → og = some g ∨ g < L ∨ B ≤ g) (hk : ∀ p : Addr, L ≤ p.block → p.block < B → og ≠ some p.block → w'.cell? p = w.cell? p) : ∀ {rs : List Ru} {xs : List Value}, RowR w L B og rs xs → RowR w' L' B' og' rs xs
  | [], _, h => h
  | x :: rs, _, ⟨a, c, ys, e, hc, ⟨L1, B1, h1, h2, h3, h4⟩, h⟩ =>
    ⟨a, c, ys, e, hc, ⟨L1, B1, h1.keep (Nat.le_refl _) (Nat.le_refl _) fun p h5 h6 => hk p (by omega) (by omega) (fun e => by have := h4 _ e; omega), by omega, by omega, fun g hg => by
      rcases ho g hg with h | h | h
      · exact h4 g h
      · exact .inl (by omega)
      · exact .inr (by omega)⟩, rowR_keep hL hB ho hk h⟩
theorem rowR_snoc {a : Option Addr} {c L1 B1 : Nat} {t s : ByteArray} {k : Int} {ks : Fo} (hc : ks.len ≤ c) (h1 : KA w L1 B1 ks a ks.len) (h2 : L ≤ L1) (h3 : B1 ≤ B) (h4 : ∀ g, og = some g → g < L1 ∨ B1 ≤ g) :
    ∀ {rs : List Ru} {xs : List Value}, RowR w L B og rs xs → RowR w L B og (rs ++ [(t, k, s, ks)]) (xs ++ [.string t, .int .i64 k, .string s, .slice a ks.len c])
  | [], _, h => by simp only [RowR] at h; subst h; exact ⟨a, c, [], rfl, hc, ⟨L1, B1, h1, h2, h3, h4⟩, rfl⟩
  | x :: rs, _, ⟨a', c', ys, e, hc', h7, h⟩ => by subst e; exact ⟨a', c', _, rfl, hc', h7, rowR_snoc hc h1 h2 h3 h4 h⟩
theorem rowR_get : ∀ {rs : List Ru} {xs : List Value} {j : Nat} {x : Ru}, RowR w L B og rs xs → rs[j]? = some x →
    ∃ a c, xs[j * 4]? = some (.string x.1) ∧ xs[j * 4 + 1]? = some (.int .i64 x.2.1) ∧ xs[j * 4 + 2]? = some (.string x.2.2.1) ∧ xs[j * 4 + 3]? = some (.slice a x.2.2.2.len c) ∧ x.2.2.2.len ≤ c ∧ KA w L B x.2.2.2 a x.2.2.2.len
  | x :: rs, _, 0, _, ⟨a, c, ys, e, hc, ⟨L1, B1, h1, h2, h3, h4⟩, h⟩, hx => by
    simp only [List.getElem?_cons_zero, Option.some.injEq] at hx
    subst hx e
    exact ⟨a, c, rfl, rfl, rfl, rfl, hc, h1.more h2 h3⟩
  | x :: rs, _, j + 1, _, ⟨a, c, ys, e, hc, _, h⟩, hx => by
    subst e
    have := rowR_get (j := j) h (by simpa using hx)
    simpa only [show (j + 1) * 4 = j * 4 + 4 from by omega, show j * 4 + 4 + 1 = (j * 4 + 1) + 4 from by omega, show j * 4 + 4 + 2 = (j * 4 + 2) + 4 from by omega, show j * 4 + 4 + 3 = (j * 4 + 3) + 4 from by omega, List.getElem?_cons_succ] using this
  | [], _, _, _, _, hx => by simp at hx
end
/-- a list of rules of one's own -/
def OwnR (w : World) (base : Nat) (v : Value) (rs : List Ru) : Prop := ∃ xs, w.ownsRow base 44 4 v rs.length xs ∧ RowR w base w.heap.size v.ownBlock rs xs
theorem rules_under_ : Tryz.prog.underlying 34 = some (.slice 44) := by kernel_rfl
theorem rule_info4_ : (Tryz.prog.info? 44).map (fun i => (i.zero, i.size, i.bytes)) = some (some (.agg #[.string .empty, .int .i64 0, .string .empty, .slice none 0 0]), 4, 64) := by kernel_rfl
section
variable {w w' : World} {base base' : Nat} {v v' : Value} {rs : List Ru} {r : Option Nat}
theorem OwnR.nil (w : World) (base : Nat) : OwnR w base (.slice none 0 0) [] := ⟨[], World.ownsRow_nil _ _ _ _, rfl⟩
theorem OwnR.lt (h : OwnR w base v rs) : ∀ g, v.ownBlock = some g → base ≤ g ∧ g < w.heap.size := by
  obtain ⟨xs, h1, _⟩ := h
  exact World.ownsRow.lt h1
theorem OwnR.grown (h : OwnR w base v rs) (hg : w.grownBy w' r) (hr : ∀ g, r = some g → g < base ∨ w.heap.size ≤ g) : OwnR w' base v rs := by
  obtain ⟨xs, h1, h2⟩ := h
  refine ⟨xs, World.ownsRow.kept h1 hg ?_, rowR_keep (Nat.le_refl _) hg.size (fun g hg => .inl hg) (fun p h3 h4 _ => World.cell?_of_block (hg.block p.block h4 (fun e => by have := hr _ e.symm; omega))) h2⟩
  cases hv : v.ownBlock with
  | none => exact .inl rfl
  | some g => exact .inr fun e => by have := World.ownsRow.lt h1 g hv; have := hr g e.symm; omega
theorem OwnR.alloc (h : OwnR w base v rs) (o : Obj) : OwnR (w.alloc o) base v rs := h.grown (World.grownBy_alloc w o none) fun g e => by cases e
theorem OwnR.below (h : OwnR w base v rs) (hb : Below w.heap.size w w') : OwnR w' base v rs := h.grown (r := none) ⟨hb.os, hb.tape, hb.output, hb.size, fun i hi _ => hb.block i hi⟩ fun g e => by cases e
theorem OwnR.setCell (h : OwnR w base v rs) {g : Nat} (hg : g < base) (i : Nat) (u : Value) : OwnR (w.setCell ⟨g, i, none⟩ u) base v rs :=
  h.grown (r := some g) (grown_set (World.grownBy.refl w _) (.inl rfl) u) fun j e => by injection e with e; omega
theorem OwnR.drewN (h : OwnR w base v rs) (m : Nat) : OwnR (w.drewN m) base v rs := h.grown (grown_drewN (World.grownBy.refl w none) m) fun j e => by cases e
theorem OwnR.mono (h : OwnR w base v rs) (hb : base' ≤ base) : OwnR w base' v rs := by
  obtain ⟨xs, h1, h2⟩ := h
  exact ⟨xs, World.ownsRow.mono h1 hb, rowR_keep hb (Nat.le_refl _) (fun g hg => .inl hg) (fun _ _ _ _ => rfl) h2⟩
/-- as a slice that can be read -/
theorem OwnR.form (h : OwnR w base v rs) : ∃ a c, v = .slice a rs.length c ∧ rs.length ≤ c ∧ c ≤ maxLen ∧ RuAt w base w.heap.size rs a rs.length := by
  obtain ⟨xs, h1, h2⟩ := h
  rcases h1.2 with ⟨rfl, h0⟩ | ⟨g, cap, cur, rfl, hb, hg, hc, hm, _⟩
  · exact ⟨none, 0, by rw [h0], by omega, by simp [maxLen], rfl, fun h => absurd h (by omega)⟩
  · refine ⟨_, cap, rfl, hc, hm, rfl, fun _ => ⟨g, 0, rfl, hb, blk_lt hg, fun j t k s ks hj => ?_⟩⟩
    have hcell : ∀ j u, xs[j]? = some u → w.cell? ⟨g, j, none⟩ = some u := fun j u hu => by
      have := World.ownsRow.cells h1 (g := g) rfl j u hu
      rwa [add_none, Nat.zero_add] at this
    obtain ⟨a, c, e0, e1, e2, e3, hc', hk⟩ := rowR_get h2 hj
    rw [Nat.zero_add]
    exact ⟨hcell _ _ e0, hcell _ _ e1, hcell _ _ e2, a, _, c, hcell _ _ e3, hc', hk⟩
theorem OwnR.some (h : OwnR w base v rs) (hn : 0 < rs.length) : ∃ g cap, v = .slice (some ⟨g, 0, none⟩) rs.length cap ∧ base ≤ g ∧ g < w.heap.size := by
  obtain ⟨xs, h1, _⟩ := h
  exact World.ownsRow.form h1 hn
end
/-- one more rule -/
theorem wp_append_ru {w : World} {o : Oper} {a : Act} {K : Act → World → Prop} {Q : Exit → Act → World → Prop} (s x : Operand)
    (ho : o.op = .call { callee := .builtin .append, args := #[s, x], argTypes := #[34, 34] })
    (base : Nat) (v : Value) (rs : List Ru) (hs : a.eval s = v) (hown : OwnR w base v rs) (g i0 c1 : Nat) (hx : a.eval x = .slice (some ⟨g, i0, none⟩) 1 c1)
    (t : ByteArray) (k : Int) (y : ByteArray) (ks : Fo) (ad : Option Addr) (c L1 B1 : Nat) (hbx : ∀ j u, [Value.string t, .int .i64 k, .string y, .slice ad ks.len c][j]? = some u → w.cell? ⟨g, i0 + j, none⟩ = some u) (hc : ks.len ≤ c) (hk : KA w L1 B1 ks ad ks.len) (hL : base ≤ L1) (hB : B1 ≤ w.heap.size) (hown1 : ∀ g, v.ownBlock = some g → g < L1 ∨ B1 ≤ g)
    (h63 : rs.length ≤ 1000000000) (hbase : base ≤ w.heap.size)
    (h : ∀ g cap w', OwnR w' base (.slice (some ⟨g, 0, none⟩) (rs.length + 1) cap) (rs ++ [(t, k, y, ks)]) → w.grownBy w' v.ownBlock → g < w'.heap.size → base ≤ g → K (a.put o.dst (.slice (some ⟨g, 0, none⟩) (rs.length + 1) cap)) w') :
    Oper.wp Tryz.prog o a w K Q := by
  obtain ⟨i, hi, hz0, hz1, hz2⟩ := info_parts rule_info4_
  obtain ⟨xs, h1, h2⟩ := hown
  refine wp_append_at s x 34 ho base 44 i _ 4 64 rules_under_ hi hz0 hz1 hz2 rfl (by decide) v rs.length xs hs h1 ⟨g, i0, none⟩ 1 c1 [.string t, .int .i64 k, .string y, .slice ad ks.len c] hx rfl ?_ (by simp [Value.oneCell']) (by simp only [maxLen]; omega) (by omega) hbase fun v' w' h8 h9 h10 => ?_
  · intro j u hu
    rw [add_none]
    exact hbx j u hu
  · have h11 := rowR_snoc (t := t) (k := k) (s := y) hc hk hL hB hown1 h2
    have h12 : RowR w' base w'.heap.size v'.ownBlock (rs ++ [(t, k, y, ks)]) (xs ++ [.string t, .int .i64 k, .string y, .slice ad ks.len c]) := by
      refine rowR_keep (Nat.le_refl _) h9.size (fun g e => ?_) (fun p h4 h5 h6 => World.cell?_of_block (h9.block p.block h5 (fun e => h6 e.symm))) h11
      rcases h10 with ho | ho
      · exact .inl (ho ▸ e)
      · exact .inr (.inr (ho g e))
    have h14 : w'.ownsRow base 44 4 v' (rs ++ [(t, k, y, ks)]).length (xs ++ [.string t, .int .i64 k, .string y, .slice ad ks.len c]) := by rw [List.length_append]; exact h8
    obtain ⟨g', cap', rfl, h15, h16⟩ := World.ownsRow.form h8 (by omega)
    exact h g' cap' w' ⟨_, h14, h12⟩ h9 h16 h15
/-- .. at a step of a region that draws -/
theorem step_append_ru {w : World} {ops : Array Oper} {o : Oper} {a : Act} {K : Act → World → Prop} {Q : Exit → Act → World → Prop} {E : Prop} (hgd : o.guard = none) (s x : Operand)
    (ho : o.op = .call { callee := .builtin .append, args := #[s, x], argTypes := #[34, 34] })
    (base : Nat) (v : Value) (rs : List Ru) (hs : a.eval s = v) (hown : OwnR w base v rs) (g c1 : Nat) (hx : a.eval x = .slice (some ⟨g, 0, none⟩) 1 c1)
    (t : ByteArray) (k : Int) (y : ByteArray) (ks : Fo) (ad : Option Addr) (c L1 B1 : Nat) {T : TypeId} (hbx : w.heap[g]? = some (.cells #[.string t, .int .i64 k, .string y, .slice ad ks.len c] T (0, 0))) (hc : ks.len ≤ c) (hk : KA w L1 B1 ks ad ks.len) (hL : base ≤ L1) (hB : B1 ≤ w.heap.size) (hown1 : ∀ g, v.ownBlock = some g → g < L1 ∨ B1 ≤ g)
    (h63 : rs.length ≤ 1000000000) (hbase : base ≤ w.heap.size)
    (h : ∀ g cap w', OwnR w' base (.slice (some ⟨g, 0, none⟩) (rs.length + 1) cap) (rs ++ [(t, k, y, ks)]) → w.grownBy w' v.ownBlock → g < w'.heap.size → base ≤ g → K (a.put o.dst (.slice (some ⟨g, 0, none⟩) (rs.length + 1) cap)) w') :
    if Region.wanted o (yielded ops a.tmps) = true then Oper.wp Tryz.prog o a w K Q else E := by
  have hw : Region.wanted o (yielded ops a.tmps) = true := by simp [Region.wanted, hgd]
  rw [if_pos hw]
  exact wp_append_ru s x ho base v rs hs hown g 0 c1 hx t k y ks ad c L1 B1 (fun j u hu => by rw [cell_of_row _ _ _ _ _ _ hbx]; simpa using hu) hc hk hL hB hown1 h63 hbase h
end Go.Proofs.YtmmjeokmoffdpaaGreat

namespace Go.Proofs.YtmmjeokmoffdpaaGreat
set_option linter.unusedVariables false
open Go.RowKit

/-- block g is a box with an expression -/
def BxE (w : World) (g : Nat) (k : Int) (s : ByteArray) (v : Value) (T : TypeId) : Prop := w.heap[g]? = some (.cells #[.int .i64 k, .string s, v] T (0, 0))
section
variable {w w' : World} {g : Nat} {k : Int} {s : ByteArray} {v : Value} {T : TypeId}
theorem BxE.new (w : World) (k : Int) (s : ByteArray) (v : Value) (T : TypeId) : BxE (w.alloc (.cells #[.int .i64 k, .string s, v] T)) w.heap.size k s v T := heap_alloc_new w _
theorem BxE.next (h : BxE w g k s v T) (hB : Below w.heap.size w w') : BxE w' g k s v T := (hB.block g (blk_lt h)).trans h
theorem BxE.c0 (h : BxE w g k s v T) : w.cell? ⟨g, 0, none⟩ = some (.int .i64 k) := by rw [cell_of_row _ _ _ _ _ _ h]; rfl
theorem BxE.c1 (h : BxE w g k s v T) : w.cell? ⟨g, 1, none⟩ = some (.string s) := by rw [cell_of_row _ _ _ _ _ _ h]; rfl
theorem BxE.c2 (h : BxE w g k s v T) : w.cell? ⟨g, 2, none⟩ = some v := by rw [cell_of_row _ _ _ _ _ _ h]; rfl
end
end Go.Proofs.YtmmjeokmoffdpaaGreat

namespace Go.Proofs.YtmmjeokmoffdpaaGreat
set_option linter.unusedVariables false
set_option linter.unusedSimpArgs false
open Go.RowKit

section
variable {w w' : World} {g : Nat} {k : Int} {s : ByteArray} {v : Value} {T : TypeId}
theorem BxE.facts (h : BxE w g k s v T) : w.cell? ⟨g, 0, none⟩ = some (.int .i64 k) ∧ w.cell? ⟨g, 1, none⟩ = some (.string s) ∧ w.cell? ⟨g, 2, none⟩ = some v ∧ w.frozen? ⟨g, 0, none⟩ = false ∧ w.frozen? ⟨g, 1, none⟩ = false ∧ w.frozen? ⟨g, 2, none⟩ = false ∧ g < w.heap.size :=
  ⟨h.c0, h.c1, h.c2, blk_frozen h 0, blk_frozen h 1, blk_frozen h 2, blk_lt h⟩
theorem BxE.grown {r : Option Nat} (h : BxE w g k s v T) (hg : w.grownBy w' r) (hr : r ≠ some g) : BxE w' g k s v T := (hg.block g (blk_lt h) (fun e => hr e.symm)).trans h
theorem BxE.alloc (h : BxE w g k s v T) (o : Obj) : BxE (w.alloc o) g k s v T := h.grown (World.grownBy_alloc w o none) (by simp)
theorem BxE.set2 (h : BxE w g k s v T) (u : Value) : BxE (w.setCell ⟨g, 2, none⟩ u) g k s u T := blk_set h 2 u
theorem BxE.other (h : BxE w g k s v T) {g' : Nat} (hne : g ≠ g') (i : Nat) (u : Value) : BxE (w.setCell ⟨g', i, none⟩ u) g k s v T := (Below.heap_setCell w _ _ g (fun e => hne (by simpa using e))).trans h
end
theorem Fo.size_len : ∀ f : Fo, f.len ≤ f.size
  | .nil => Nat.le_refl _
  | .node k s ks r => by have := Fo.size_len r; simp only [Fo.len, Fo.size]; omega

/-- what l2Copy leaves: the same expression, in memory of its own -/
def CopyP (k : Int) (s : ByteArray) (ks : Fo) (w : World) (e : Ending) (w' : World) : Prop := ∃ v, e = .returned (.agg #[.int .i64 k, .string s, v]) ∧ OwnT w' w.heap.size v ks ∧ Below w.heap.size w w'
/-- between two rounds of l2Copy -/
def CpI (w : World) (k : Int) (s : ByteArray) (ks : Fo) (a : Option Addr) (n c : Nat) (i : Value) (wr : World) : Prop :=
  ∃ (j : Nat) (v : Value) (f : Fo), j ≤ n ∧ i = .int .i64 j ∧ f.len = j ∧ (∀ i, i < j → f.get i = ks.get i) ∧ OwnT wr (w.heap.size + 1 + 1 + 1) v f ∧ BxE wr w.heap.size k s (.slice a n c) 42 ∧ BxE wr (w.heap.size + 1) 0 .empty (.slice none 0 0) 42 ∧ BxE wr (w.heap.size + 1 + 1) k s v 42 ∧ Below w.heap.size w wr

set_option maxRecDepth 100000 in
set_option maxHeartbeats 4000000 in
theorem copy_of (k : Int) (s : ByteArray) (ks : Fo) (N : Nat) (hN : ks.size ≤ N) (hN2 : N ≤ 1048576) (ih : ∀ k' s' ks', Fo.size ks' < ks.size → ∀ (a : Option Addr) (n c : Nat) (w : World), KA w 0 w.heap.size ks' a n → n ≤ c → Calls Tryz.prog 57 #[.agg #[.int .i64 k', .string s', .slice a n c]] w (CopyP k' s' ks' w))
    (a : Option Addr) (n c : Nat) (w : World) (hk : KA w 0 w.heap.size ks a n) (hnc : n ≤ c) :
    Calls Tryz.prog 57 #[.agg #[.int .i64 k, .string s, .slice a n c]] w (CopyP k s ks w) := by
  have hn : n ≤ 1048576 := by have := Fo.size_len ks; have := hk.1; omega
  have hP0 := ((BxE.new w k s (.slice a n c) 42).alloc (.cells #[.int .i64 0, .string .empty, .slice none 0 0] 42)).alloc (.cells #[.int .i64 k, .string s, .slice none 0 0] 42)
  have hG0 := (BxE.new (w.alloc (.cells #[.int .i64 k, .string s, .slice a n c] 42)) 0 .empty (.slice none 0 0) 42).alloc (.cells #[.int .i64 k, .string s, .slice none 0 0] 42)
  have hE0 := BxE.new ((w.alloc (.cells #[.int .i64 k, .string s, .slice a n c] 42)).alloc (.cells #[.int .i64 0, .string .empty, .slice none 0 0] 42)) k s (.slice none 0 0) 42
  have hB0 := (((Below.refl w.heap.size w).alloc (Nat.le_refl _) (.cells #[.int .i64 k, .string s, .slice a n c] 42)).alloc (by simp) (.cells #[.int .i64 0, .string .empty, .slice none 0 0] 42)).alloc (by simp; omega) (.cells #[.int .i64 k, .string s, .slice none 0 0] 42)
  simp only [World.size_alloc] at hG0 hE0
  have Hall := Lib.hid (And.intro hP0 (And.intro hG0 (And.intro hE0 hB0)))
  clear hP0 hG0 hE0 hB0
  go_enter Tryz.func57, Tryz.ntmps57
  go_wp2_with fail
  go_loopw [4] (fun i wr => CpI w k s ks a n c i wr) (fun i _ => n - (intOf i).toNat)
  case atStart => exact ⟨0, _, .nil, Nat.zero_le _, rfl, rfl, fun i h => absurd h (by omega), OwnT.nil _ _, Hall.out.1, Hall.out.2.1, Hall.out.2.2.1, Hall.out.2.2.2⟩
  case round =>
    obtain ⟨j, v, f, hj, rfl, hfl, hget, hown, hpx, hgx, hex, hB⟩ := hrel
    obtain ⟨p0, p1, p2, pf0, pf1, pf2, hpl⟩ := hpx.facts
    obtain ⟨e0, e1, e2, g0, g1, g2, hel⟩ := hex.facts
    by_cases hlt : j < n
    · obtain ⟨b, off, k3, s3, ks3, a3, n3, c3, rfl, _, hb3, hg3, hc1, hc2, hc3, hcap3, hk3⟩ := (hk.below hB).get hlt
      have hjj : (j : Int) < (n : Int) := by omega
      have hj0 : (0 : Int) ≤ (j : Int) := by omega
      have hsz3 := Fo.get_size hg3
      have Hk3 := Lib.hid (show KA wr.drew 0 wr.drew.heap.size ks3 a3 n3 from hk3.keep (Nat.le_refl _) hB.size fun p _ _ => rfl)
      have Hih := Lib.hid (ih k3 s3 ks3 (by omega) a3 n3 c3)
      clear hk3 ih
      go_wp2_with fail
      go_region_law (first
        | (go_simp; go_at_call 57; refine Calls.mono (Hih.out _ Hk3.out hcap3) ?_; rintro e w4 ⟨v4, rfl, hown4, hB4⟩; obtain ⟨a4, d4, rfl, hd4, hm4, hk4⟩ := hown4.form; have hB4' : Below wr.heap.size wr w4 := ((Below.refl wr.heap.size wr).drew).trans hB4; have hown5 := hown.below hB4'; have hex5 := hex.next hB4'; obtain ⟨y0, y1, y2, z0, z1, z2, hl5⟩ := hex5.facts)
        | (refine step_append_node rfl _ _ (by rfl) (w.heap.size + 1 + 1 + 1) v f (by rfl) (hown5.alloc _) w4.heap.size 1 (by rfl) k3 s3 ks3 a4 ks3.len d4 _ _ (heap_alloc_new w4 _) hd4 (hk4.alloc (Nat.le_refl _) _) (by show _ ≤ wr.heap.size; omega) (by simp) (fun g hg => .inl (hown.lt g hg).2) (by omega) (by simp; omega) ?_; intro g cap w6 hown6 hgrow6 hlt6 hbg6; have hex6 := (hex5.alloc (.cells #[.int .i64 k3, .string s3, .slice a4 ks3.len d4] 42)).grown hgrow6 (fun e => by have := (hown.lt _ e).1; omega); obtain ⟨x0, x1, x2, v0, v1, v2, hl6⟩ := hex6.facts))
      all_goals go_wp2_with fail
      all_goals
        rw [hfl] at hown6
        exact ⟨⟨j + 1, _, _, by omega, by go_num, by rw [Fo.snoc_len]; omega, Fo.snoc_drop hg3 f hget hfl, hown6.setCell (Nat.lt_succ_self _) 2 _, (((hpx.next hB4').alloc _).grown hgrow6 (fun e => by have := (hown.lt _ e).1; omega)).other (by omega) 2 _, (((hgx.next hB4').alloc _).grown hgrow6 (fun e => by have := (hown.lt _ e).1; omega)).other (by omega) 2 _, hex6.set2 _, ((((hB.trans (hB4'.mono hB.size)).alloc (by omega) _).grown hgrow6 (by simp; omega) (fun g' e => by have := (hown.lt _ e).1; omega)).setCell (Nat.le_trans (Nat.le_succ _) (Nat.le_succ _)) _)⟩, by simp [intOf]; omega⟩
    · obtain rfl : f = ks := Fo.ext fun i => by
        by_cases hi : i < j
        · exact hget i hi
        · have h1 : f.get i = none := by
            cases hh : f.get i with
            | none => rfl
            | some x => have := Fo.get_lt hh; omega
          have h2 : ks.get i = none := by
            cases hh : ks.get i with
            | none => rfl
            | some x => have := Fo.get_lt hh; have := hk.1; omega
          rw [h1, h2]
      obtain ⟨c0, c1, c2, f0, f1, f2, hl⟩ := hgx.facts
      obtain ⟨av, dv, rfl, hdv, hmv, hkv⟩ := hown.form
      have hjj : ¬ (j : Int) < (n : Int) := by omega
      go_wp2_with fail
      refine bodyPost_ret (v := .agg #[.int .i64 k, .string s, .slice av f.len dv]) (by simp [results, Tryz.results57, go_sem, *]) rfl ?_
      refine ⟨_, rfl, OwnT.mono ?_ (Nat.le_trans (Nat.le_succ _) (Nat.le_trans (Nat.le_succ _) (Nat.le_succ _))), ((hB.setCell (Nat.le_succ _) _).setCell (Nat.le_succ _) _).setCell (Nat.le_succ _) _⟩
      exact ((hown.setCell (by omega) 0 _).setCell (by omega) 1 _).setCell (by omega) 2 _
theorem copy_all (N : Nat) (hN : N ≤ 1048576) : ∀ (k : Int) (s : ByteArray) (ks : Fo), ks.size ≤ N → ∀ (a : Option Addr) (n c : Nat) (w : World), KA w 0 w.heap.size ks a n → n ≤ c → Calls Tryz.prog 57 #[.agg #[.int .i64 k, .string s, .slice a n c]] w (CopyP k s ks w) := by
  induction N with
  | zero => exact fun k s ks h => copy_of k s ks 0 h hN fun k' s' ks' h' => absurd h' (by omega)
  | succ N ih => exact fun k s ks h => copy_of k s ks (N + 1) h hN fun k' s' ks' h' => ih (by omega) k' s' ks' (by omega)

end Go.Proofs.YtmmjeokmoffdpaaGreat

namespace Go.Proofs.YtmmjeokmoffdpaaGreat
set_option linter.unusedVariables false
open Go.RowKit

/-- the decimal digits of k ahead of acc -/
def mkD : Nat → Nat → List UInt8 → List UInt8
  | 0, _, acc => acc
  | fuel + 1, k, acc => if k = 0 then acc else mkD fuel (k / 10) (UInt8.ofNat (48 + k % 10) :: acc)
/-- the mark k -/
def mkS (k : Nat) : ByteArray := ⟨#[109]⟩ ++ ⟨(mkD k k []).toArray⟩

theorem conv_digit (k : Nat) (w : World) : (convert 103 9 (.slice (some ⟨w.heap.size, 0, none⟩) 1 1)).run Tryz.prog (w.alloc (.cells #[.int .u8 (48 + (k : Int) % 10)] 5)) = .ok (.string ⟨#[UInt8.ofNat (48 + k % 10)]⟩) (w.alloc (.cells #[.int .u8 (48 + (k : Int) % 10)] 5)) := by
  refine run_convert_bytes_back _ 103 9 5 ⟨w.heap.size, 0, none⟩ 1 [UInt8.ofNat (48 + k % 10)] Tryz.underlying103 Tryz.underlying5 Tryz.underlying9 (fun j hj => ?_)
  obtain rfl : j = 0 := by simpa using hj
  rw [add_none, cell_of_row _ _ _ _ _ _ (heap_alloc_new w _)]
  have h : (UInt8.ofNat (48 + k % 10)).toNat = 48 + k % 10 := by rw [UInt8.toNat_ofNat']; omega
  simp only [List.getElem_cons_zero, h]
  simp

set_option maxRecDepth 100000 in
set_option maxHeartbeats 400000 in
theorem markText_any (k : Nat) (w : World) (h0 : 1 ≤ k) (h1 : k ≤ 8388608) :
    Calls Tryz.prog 51 #[.int .i64 k] w fun e w' => e = .returned (.string (mkS k)) ∧ Below w.heap.size w w' := by
  go_enter Tryz.func51, Tryz.ntmps51
  go_wp2_with fail
  go_loopw [0, 3] (fun x s wr => ∃ (fuel kk : Nat) (acc : List UInt8), x = .int .i64 kk ∧ s = .string ⟨acc.toArray⟩ ∧ kk ≤ fuel ∧ mkD fuel kk acc = mkD k k [] ∧ acc.length + fuel = k ∧ Below w.heap.size w wr) (fun x _ _ => (intOf x).toNat)
  case atStart => exact ⟨k, k, [], rfl, rfl, Nat.le_refl _, rfl, by simp, Below.refl _ _⟩
  case round =>
    obtain ⟨fuel, kk, acc, rfl, rfl, hkf, hd, hacc, hB⟩ := hrel
    by_cases hk : 0 < kk
    · have hcv := fun W => conv_digit kk W
      have q := fun W => run_string_add_sum (P := Tryz.prog) W ⟨#[UInt8.ofNat (48 + kk % 10)]⟩ ⟨acc.toArray⟩ (by simp [ByteArray.size]; omega)
      have HD := Lib.hid hd; clear hd
      go_wp2_with fail
      obtain ⟨f, rfl⟩ : ∃ f, fuel = f + 1 := ⟨fuel - 1, by omega⟩
      exact ⟨⟨f, kk / 10, UInt8.ofNat (48 + kk % 10) :: acc, by go_num, by rw [ByteArray.mk_append_mk]; simp, by omega, by rw [← HD.out, mkD, if_neg (by omega)], by simp; omega, hB.alloc hB.size _⟩, by simp [intOf]; omega⟩
    · obtain rfl : kk = 0 := by omega
      have HD : Hid (acc = mkD k k []) := by
        have : mkD fuel 0 acc = acc := by cases fuel <;> simp [mkD]
        exact Lib.hid (this ▸ hd)
      clear hd
      have q := fun W => run_string_add_sum (P := Tryz.prog) W ⟨#[109]⟩ ⟨acc.toArray⟩ (by simp [ByteArray.size]; omega)
      go_wp2_with fail
      go_ret
      exact ⟨ret_str (by unfold mkS; rw [← HD.out]), hB⟩

theorem markText_at {z : Int} (m : Nat) (w : World) (hz : z = (m : Int)) (h0 : 1 ≤ m) (h1 : m ≤ 8388608) :
    Calls Tryz.prog 51 #[.int .i64 z] w fun e w' => e = .returned (.string (mkS m)) ∧ Below w.heap.size w w' := by
  subst hz; exact markText_any m w h0 h1
end Go.Proofs.YtmmjeokmoffdpaaGreat

namespace Go.Proofs.YtmmjeokmoffdpaaGreat
set_option linter.unusedVariables false
open Go.RowKit

/-- block b is a row of n expressions -/
def RowE (w : World) (b n : Nat) : Prop := ∃ cs : Array Value, w.heap[b]? = some (.cells cs 42 (0, 0)) ∧ cs.size = n * 3
/-- the slices of operands, from a place of a row on: each begins a row of its own -/
def SkS (w : World) (L B : Nat) : Fo → Nat → Nat → Prop
  | .nil, _, _ => True
  | .node k s ks r, b, j => (∃ a n c, w.cell? ⟨b, j * 3 + 2, none⟩ = some (.slice a n c) ∧ ks.len = n ∧ (0 < n → ∃ b', a = some ⟨b', 0, none⟩ ∧ L ≤ b' ∧ b' < B ∧ RowE w b' n ∧ SkS w L B ks b' 0)) ∧ SkS w L B r b (j + 1)
def SkA (w : World) (L B : Nat) (f : Fo) (a : Option Addr) (n : Nat) : Prop := f.len = n ∧ (0 < n → ∃ b, a = some ⟨b, 0, none⟩ ∧ L ≤ b ∧ b < B ∧ RowE w b n ∧ SkS w L B f b 0)
/-- what marks may turn: kinds and texts of expressions in blocks from L to B -/
structure MkStep (L B : Nat) (w w' : World) : Prop where
  os : w'.os = w.os
  tape : w'.tape = w.tape
  output : w'.output = w.output
  size : w.heap.size ≤ w'.heap.size
  out : ∀ g : Nat, g < w.heap.size → g < L ∨ B ≤ g → w'.heap[g]? = w.heap[g]?
  row : ∀ (g : Nat) (cs : Array Value), w.heap[g]? = some (.cells cs 42 (0, 0)) → ∃ cs' : Array Value, w'.heap[g]? = some (.cells cs' 42 (0, 0)) ∧ cs'.size = cs.size ∧ ∀ i, i % 3 = 2 → cs'[i]? = cs[i]?
section
variable {w w' w'' : World} {L B b j n i : Nat} {f ks : Fo} {k : Int} {s : ByteArray} {a : Option Addr}
theorem MkStep.refl (L B : Nat) (w : World) : MkStep L B w w := ⟨rfl, rfl, rfl, Nat.le_refl _, fun _ _ _ => rfl, fun g cs h => ⟨cs, h, rfl, fun _ _ => rfl⟩⟩
theorem MkStep.trans (h : MkStep L B w w') (h2 : MkStep L B w' w'') : MkStep L B w w'' := ⟨h2.os.trans h.os, h2.tape.trans h.tape, h2.output.trans h.output, Nat.le_trans h.size h2.size,
  fun g hg ho => (h2.out g (Nat.lt_of_lt_of_le hg h.size) ho).trans (h.out g hg ho), fun g cs hg => by
    obtain ⟨c1, h3, h4, h5⟩ := h.row g cs hg
    obtain ⟨c2, h6, h7, h8⟩ := h2.row g c1 h3
    exact ⟨c2, h6, h7.trans h4, fun i hi => (h8 i hi).trans (h5 i hi)⟩⟩
theorem MkStep.of (h : Below w.heap.size w w') : MkStep L B w w' := ⟨h.os, h.tape, h.output, h.size, fun g hg _ => h.block g hg, fun g cs hg => ⟨cs, (h.block g (Array.getElem?_eq_some_iff.1 hg).1).trans hg, rfl, fun _ _ => rfl⟩⟩
theorem set_block (w : World) (g i : Nat) (v : Value) (h : g < w.heap.size) : (w.setCell ⟨g, i, none⟩ v).heap[g]? = match w.heap[g]? with
    | some (.cells c e fr) => some (.cells (c.setIfInBounds i v) e fr)
    | o => o := by
  simp only [World.setCell]
  rw [Array.getElem?_modify, if_pos rfl]
  cases hx : w.heap[g]? with
  | none => rfl
  | some o => cases o <;> rfl
theorem MkStep.set (hL : L ≤ b) (hB : b < B) (hi : i % 3 ≠ 2) (v : Value) : MkStep L B w (w.setCell ⟨b, i, none⟩ v) := by
  refine ⟨rfl, rfl, rfl, by simp, fun g hg ho => Below.heap_setCell w ⟨b, i, none⟩ v g (by show g ≠ b; omega), fun g cs hg => ?_⟩
  by_cases hgb : g = b
  · subst hgb
    refine ⟨cs.setIfInBounds i v, ?_, by simp, fun i' hi' => by rw [Array.getElem?_setIfInBounds_ne (by rintro rfl; exact hi hi')]⟩
    have := (Array.getElem?_eq_some_iff.1 hg).1
    rw [set_block w g i v this, hg]
  · exact ⟨cs, (Below.heap_setCell w ⟨b, i, none⟩ v g hgb).trans hg, rfl, fun _ _ => rfl⟩
theorem RowE.step (h : RowE w b n) (hs : MkStep L B w w') : RowE w' b n := by
  obtain ⟨cs, h1, h2⟩ := h
  obtain ⟨c2, h3, h4, _⟩ := hs.row b cs h1
  exact ⟨c2, h3, h4.trans h2⟩
theorem RowE.slice (h : RowE w b n) (hs : MkStep L B w w') {v : Value} (hc : w.cell? ⟨b, j * 3 + 2, none⟩ = some v) : w'.cell? ⟨b, j * 3 + 2, none⟩ = some v := by
  obtain ⟨cs, h1, h2⟩ := h
  obtain ⟨c2, h3, h4, h5⟩ := hs.row b cs h1
  rw [cell_of_row _ _ _ _ _ _ h3, h5 _ (by omega), ← cell_of_row _ _ _ _ _ _ h1]
  exact hc
theorem sk_step (hs : MkStep L B w w') : ∀ {f : Fo} {b j n : Nat}, RowE w b n → SkS w L B f b j → SkS w' L B f b j
  | .nil, _, _, _, _, _ => trivial
  | .node k s ks r, b, j, n, hr, ⟨⟨a, m, c, h1, h2, h3⟩, h4⟩ => ⟨⟨a, m, c, hr.slice hs h1, h2, fun hm => let ⟨b', e, hl, hb, hr', hk⟩ := h3 hm; ⟨b', e, hl, hb, hr'.step hs, sk_step hs hr' hk⟩⟩, sk_step hs hr h4⟩
theorem SkA.step (h : SkA w L B f a n) (hs : MkStep L B w w') : SkA w' L B f a n := ⟨h.1, fun hn => let ⟨b, e, hl, hb, hr, hk⟩ := h.2 hn; ⟨b, e, hl, hb, hr.step hs, sk_step hs hr hk⟩⟩
theorem sk_get : ∀ {f : Fo} {b j i : Nat}, SkS w L B f b j → i < f.len → ∃ k s ks a n c, f.get i = some (k, s, ks) ∧ w.cell? ⟨b, (j + i) * 3 + 2, none⟩ = some (.slice a n c) ∧ SkA w L B ks a n
  | .node k s ks r, b, j, 0, ⟨⟨a, m, c, h1, h2, h3⟩, _⟩, _ => ⟨k, s, ks, a, m, c, rfl, h1, h2, h3⟩
  | .node k s ks r, b, j, i + 1, ⟨_, h4⟩, hi => by
    obtain ⟨k', s', ks', a, n, c, h1, h2, h3⟩ := sk_get (f := r) (i := i) h4 (by simp only [Fo.len] at hi; omega)
    exact ⟨k', s', ks', a, n, c, h1, by rw [show j + (i + 1) = j + 1 + i from by omega]; exact h2, h3⟩
  | .nil, _, _, _, _, h => absurd h (by simp [Fo.len])
theorem RowE.cells (h : RowE w b n) (hi : i < n * 3) : ∃ v, w.cell? ⟨b, i, none⟩ = some v := by
  obtain ⟨cs, h1, h2⟩ := h
  rw [cell_of_row _ _ _ _ _ _ h1]
  exact ⟨_, Array.getElem?_eq_getElem (by omega)⟩
theorem RowE.frozen (h : RowE w b n) (i : Nat) : w.frozen? ⟨b, i, none⟩ = false := by
  obtain ⟨cs, h1, h2⟩ := h
  exact blk_frozen h1 i
end
/-- the contract of markExprS at one list -/
def MkC (f : Fo) : Prop := ∀ (a : Option Addr) (n c k L B : Nat) (w : World), SkA w L B f a n → B ≤ w.heap.size → 1 ≤ k → k + 2 * f.size ≤ 8388600 → n ≤ maxLen →
  Calls Tryz.prog 52 #[.slice a n c, .int .i64 k] w fun e w' => e = .returned (.int .i64 (k + 2 * f.size : Nat)) ∧ MkStep L B w w'

set_option maxRecDepth 100000 in
set_option maxHeartbeats 2000000 in
theorem mk_of (f : Fo) (ih : ∀ f' : Fo, f'.size < f.size → MkC f') : MkC f := by
  intro a n c k L B w hk hB h1 hb hn
  obtain rfl : f.len = n := hk.1
  unfold maxLen at hn
  go_enter Tryz.func52, Tryz.ntmps52
  go_wp2_with fail
  go_loopw [1, 5] (fun x i wr => ∃ (j m : Nat), j ≤ f.len ∧ i = .int .i64 j ∧ x = .int .i64 m ∧ m + 2 * (f.drop j).size = k + 2 * f.size ∧ 1 ≤ m ∧ MkStep L B w wr) (fun _ i _ => f.len - (intOf i).toNat)
  case atStart => exact ⟨0, k, Nat.zero_le _, rfl, rfl, by rw [Fo.drop_zero], h1, MkStep.refl _ _ _⟩
  case round =>
    obtain ⟨j, m, hj, rfl, rfl, hm, hm1, hst⟩ := hrel
    have hwr : B ≤ wr.heap.size := Nat.le_trans hB hst.size
    by_cases hlt : j < f.len
    · obtain ⟨b, rfl, hLb, hbB, hrow, hsk⟩ := (hk.step hst).2 (by omega)
      obtain ⟨k', s', ks', a', n', c', hg, hc, hka⟩ := sk_get hsk hlt
      rw [Nat.zero_add] at hc
      have hsz := Fo.get_size hg
      have hds : (f.drop j).size = ks'.size + (f.drop (j + 1)).size + 1 := by rw [Fo.drop_get hg]; rfl
      have hmm : m + 2 * ks'.size + 2 ≤ 8388600 := by omega
      have hln : f.len ≤ f.size := f.len_size
      obtain ⟨v0, hv0⟩ := hrow.cells (i := j * 3) (by omega)
      have hf0 := hrow.frozen (j * 3)
      have hs1 : MkStep L B wr (wr.setCell ⟨b, j * 3, none⟩ (.int .i64 m)) := MkStep.set hLb hbB (by omega) _
      have Hf := Lib.hid (And.intro hst (And.intro hrow (And.intro hka (And.intro hg (And.intro hc hs1)))))
      clear hst hrow hsk hka hg hc hs1
      go_wp2_with fail
      refine (markText_at (m + 1) _ (by omega) (by omega) (by omega)).mono ?_
      rintro e w2 ⟨rfl, hB2⟩
      have hr2 := (Hf.out.2.1.step Hf.out.2.2.2.2.2).step (MkStep.of (L := L) (B := B) hB2)
      obtain ⟨v1, hv1⟩ := hr2.cells (i := j * 3 + 1) (by omega)
      have hf1 := hr2.frozen (j * 3 + 1)
      have hs2 : MkStep L B wr (w2.setCell ⟨b, j * 3 + 1, none⟩ (.string (mkS (m + 1)))) := (Hf.out.2.2.2.2.2.trans (MkStep.of hB2)).trans (MkStep.set hLb hbB (by omega) _)
      have hc2 := Hf.out.2.1.slice hs2 Hf.out.2.2.2.2.1
      have hw2 := hs2.size
      have Hih := Lib.hid (ih ks' (by omega) a' n' c' (m + 2) L B _ (Hf.out.2.2.1.step hs2) (by omega) (by omega) (by omega) (by have := Hf.out.2.2.1.1; have := ks'.len_size; unfold maxLen; omega))
      have Hs2 := Lib.hid hs2
      clear hr2 hs2 hB2
      go_wp2_with fail
      rw [show ((m : Int) + 1 + 1) = ((m + 2 : Nat) : Int) by omega]
      refine Hih.out.mono ?_
      rintro e w4 ⟨rfl, hs4⟩
      have Hs4 := Lib.hid (Hf.out.1.trans (Hs2.out.trans hs4))
      clear hs4
      go_wp2_with fail
      go_roundw
      case rel => exact ⟨j + 1, m + 2 + 2 * ks'.size, by omega, by go_num, by go_num, by omega, by omega, Hs4.out⟩
      case measure => simp [intOf]; omega
    · have e0 : j = f.len := by omega
      rw [Fo.drop_all (by omega)] at hm
      have hge : ¬ ((j : Int) < (f.len : Int)) := by omega
      go_wp2_with fail
      go_ret
      exact ⟨ret_int (by simp only [Fo.size] at hm; omega), hst⟩
theorem mk_all (N : Nat) : ∀ f : Fo, f.size ≤ N → MkC f := by
  induction N with
  | zero => exact fun f hN => mk_of f fun f' h => absurd h (by omega)
  | succ N ih => exact fun f hN => mk_of f fun f' h => ih f' (by omega)

set_option maxHeartbeats 400000 in
/-- markExpr: the operands are marked, below and nowhere else -/
theorem markE_any (k : Int) (s : ByteArray) (f : Fo) (a : Option Addr) (n c m L B : Nat) (w : World) (hk : SkA w L B f a n) (hB : B ≤ w.heap.size) (h1 : 1 ≤ m) (hb : m + 2 * f.size ≤ 8388600) (hn : n ≤ maxLen) :
    Calls Tryz.prog 34 #[.agg #[.int .i64 k, .string s, .slice a n c], .int .i64 m] w fun e w' => e = .returned (.int .i64 (m + 2 * f.size : Nat)) ∧ MkStep L B w w' := by
  have hs0 : MkStep L B w (w.alloc (.cells #[.int .i64 k, .string s, .slice a n c] 42)) := MkStep.of ((Below.refl w.heap.size w).alloc (Nat.le_refl _) _)
  have Hm := Lib.hid (mk_all f.size f (Nat.le_refl _) a n c m L B _ (hk.step hs0) (by simp; omega) h1 hb hn)
  have Hs := Lib.hid hs0
  clear hk hs0
  go_enter Tryz.func34, Tryz.ntmps34
  go_wp2_with fail
  refine Hm.out.mono ?_
  rintro e w1 ⟨rfl, hs1⟩
  have Hs1 := Lib.hid (Hs.out.trans hs1)
  clear hs1
  go_wp2_with fail
  go_ret
  exact ⟨ret_int (by omega), Hs1.out⟩
end Go.Proofs.YtmmjeokmoffdpaaGreat

namespace Go.Proofs.YtmmjeokmoffdpaaGreat
set_option linter.unusedVariables false
set_option linter.unusedSimpArgs false
open Go.RowKit

/-- the blocks of the rows below (a node's kind is the block of its operands' row) -/
def Fo.blks : Fo → List Nat
  | .nil => []
  | .node k _ ks r => (if ks.len = 0 then [] else k.toNat :: ks.blks) ++ r.blks
/-- the blocks of a list whose row is block g -/
def blksA (g : Nat) (bk : Fo) : List Nat := if bk.len = 0 then [] else g :: bk.blks
/-- block b is a row with room for n expressions -/
def RowC (w : World) (b n : Nat) : Prop := ∃ cs : Array Value, w.heap[b]? = some (.cells cs 42 (0, 0)) ∧ n * 3 ≤ cs.size
/-- the slices of operands, each with a row of its own -/
def Sep (w : World) : Fo → Nat → Nat → Prop
  | .nil, _, _ => True
  | .node k _ ks r, b, j => (∃ a c, w.cell? ⟨b, j * 3 + 2, none⟩ = some (.slice a ks.len c) ∧ (0 < ks.len → a = some ⟨k.toNat, 0, none⟩ ∧ RowC w k.toNat ks.len ∧ Sep w ks k.toNat 0)) ∧ Sep w r b (j + 1)
def SepA (w : World) (bk : Fo) (g : Nat) (a : Option Addr) (n : Nat) : Prop := bk.len = n ∧ (0 < n → a = some ⟨g, 0, none⟩ ∧ RowC w g n ∧ Sep w bk g 0)
def SepN (w : World) (b i g : Nat) (ks : Fo) : Prop := ∃ a c, w.cell? ⟨b, i * 3 + 2, none⟩ = some (.slice a ks.len c) ∧ SepA w ks g a ks.len
/-- the same rows, marked -/
def Mkd (w : World) : Fo → Nat → Nat → Nat → Prop
  | .nil, _, _, _ => True
  | .node k _ ks r, b, j, m => (w.cell? ⟨b, j * 3, none⟩ = some (.int .i64 m) ∧ w.cell? ⟨b, j * 3 + 1, none⟩ = some (.string (mkS (m + 1))) ∧
      ∃ a c, w.cell? ⟨b, j * 3 + 2, none⟩ = some (.slice a ks.len c) ∧ (0 < ks.len → a = some ⟨k.toNat, 0, none⟩ ∧ RowC w k.toNat ks.len ∧ Mkd w ks k.toNat 0 (m + 2))) ∧ Mkd w r b (j + 1) (m + 2 + 2 * ks.size)
def MkdA (w : World) (bk : Fo) (g : Nat) (a : Option Addr) (n m : Nat) : Prop := bk.len = n ∧ (0 < n → a = some ⟨g, 0, none⟩ ∧ RowC w g n ∧ Mkd w bk g 0 m)
def MkdN (w : World) (b i m g : Nat) (ks : Fo) : Prop := w.cell? ⟨b, i * 3, none⟩ = some (.int .i64 m) ∧ w.cell? ⟨b, i * 3 + 1, none⟩ = some (.string (mkS (m + 1))) ∧ ∃ a c, w.cell? ⟨b, i * 3 + 2, none⟩ = some (.slice a ks.len c) ∧ MkdA w ks g a ks.len (m + 2)
section
variable {w w' w'' : World} {b j i g n m : Nat} {bk ks : Fo} {k : Int} {s : ByteArray} {a : Option Addr}
theorem RowC.lt (h : RowC w b n) : b < w.heap.size := by
  obtain ⟨cs, h1, _⟩ := h
  exact blk_lt h1
theorem RowC.keep (h : RowC w b n) (hb : w'.heap[b]? = w.heap[b]?) : RowC w' b n := by
  obtain ⟨cs, h1, h2⟩ := h
  exact ⟨cs, hb.trans h1, h2⟩
theorem RowC.cells (h : RowC w b n) (hi : i < n * 3) : ∃ v, w.cell? ⟨b, i, none⟩ = some v := by
  obtain ⟨cs, h1, h2⟩ := h
  rw [cell_of_row _ _ _ _ _ _ h1]
  exact ⟨_, Array.getElem?_eq_getElem (by omega)⟩
theorem RowC.frozen (h : RowC w b n) (i : Nat) : w.frozen? ⟨b, i, none⟩ = false := by
  obtain ⟨cs, h1, h2⟩ := h
  exact blk_frozen h1 i
theorem RowC.set (h : RowC w b n) (g i : Nat) (v : Value) : RowC (w.setCell ⟨g, i, none⟩ v) b n := by
  obtain ⟨cs, h1, h2⟩ := h
  by_cases e : b = g
  · subst e
    exact ⟨_, blk_set h1 i v, by simpa using h2⟩
  · exact ⟨cs, (Below.heap_setCell w ⟨g, i, none⟩ v b e).trans h1, h2⟩
theorem cell_same (hb : w'.heap[b]? = w.heap[b]?) : w'.cell? ⟨b, i, none⟩ = w.cell? ⟨b, i, none⟩ := World.cell?_of_block hb
theorem blks_mem (h : bk.get i = some (k, s, ks)) : ∀ x, x ∈ blksA k.toNat ks → x ∈ bk.blks := by
  induction bk generalizing i with
  | nil => simp [Fo.get] at h
  | node k' s' ks' r _ ih =>
    intro x hx
    cases i with
    | zero =>
      simp only [Fo.get, Option.some.injEq, Prod.mk.injEq] at h
      obtain ⟨rfl, rfl, rfl⟩ := h
      exact List.mem_append_left _ hx
    | succ i => exact List.mem_append_right _ (ih h x hx)
theorem blks_nodup (hn : bk.blks.Nodup) (h : bk.get i = some (k, s, ks)) : (blksA k.toNat ks).Nodup := by
  induction bk generalizing i with
  | nil => simp [Fo.get] at h
  | node k' s' ks' r _ ih =>
    have hn' := List.nodup_append.1 hn
    cases i with
    | zero =>
      simp only [Fo.get, Option.some.injEq, Prod.mk.injEq] at h
      obtain ⟨rfl, rfl, rfl⟩ := h
      exact hn'.1
    | succ i => exact ih hn'.2.1 h
theorem blks_apart {i' : Nat} {k' : Int} {s' : ByteArray} {ks' : Fo} (hn : bk.blks.Nodup) (h : bk.get i = some (k, s, ks)) (h' : bk.get i' = some (k', s', ks')) (hi : i ≠ i') : ∀ x, x ∈ blksA k.toNat ks → x ∉ blksA k'.toNat ks' := by
  induction bk generalizing i i' with
  | nil => simp [Fo.get] at h
  | node k0 s0 ks0 r _ ih =>
    have hn' := List.nodup_append.1 hn
    intro x hx hx'
    cases i with
    | zero =>
      cases i' with
      | zero => exact hi rfl
      | succ i' =>
        simp only [Fo.get, Option.some.injEq, Prod.mk.injEq] at h
        obtain ⟨rfl, rfl, rfl⟩ := h
        exact hn'.2.2 x hx x (blks_mem (bk := r) h' x hx') rfl
    | succ i =>
      cases i' with
      | zero =>
        simp only [Fo.get, Option.some.injEq, Prod.mk.injEq] at h'
        obtain ⟨rfl, rfl, rfl⟩ := h'
        exact hn'.2.2 x hx' x (blks_mem (bk := r) h x hx) rfl
      | succ i' => exact ih hn'.2.1 h h' (by omega) x hx hx'
theorem sep_keep : ∀ {bk : Fo} {b j : Nat}, b < w.heap.size → (∀ x, x ∈ b :: bk.blks → x < w.heap.size → w'.heap[x]? = w.heap[x]?) → Sep w bk b j → Sep w' bk b j
  | .nil, _, _, _, _, _ => trivial
  | .node k s ks r, b, j, hb, hk, ⟨⟨a, c, h1, h2⟩, h3⟩ => by
    refine ⟨⟨a, c, (cell_same (hk b (List.mem_cons_self ..) hb)).trans h1, fun hn => ?_⟩, sep_keep hb (fun x hx => hk x ?_) h3⟩
    · obtain ⟨h4, h5, h6⟩ := h2 hn
      have hin : ∀ x, x ∈ k.toNat :: ks.blks → x ∈ b :: (Fo.node k s ks r).blks := fun x hx => List.mem_cons_of_mem _ (List.mem_append_left _ (by rw [if_neg (by omega)]; exact hx))
      exact ⟨h4, h5.keep (hk _ (hin _ (List.mem_cons_self ..)) h5.lt), sep_keep h5.lt (fun x hx => hk x (hin x hx)) h6⟩
    · rcases List.mem_cons.1 hx with rfl | hx
      · exact List.mem_cons_self ..
      · exact List.mem_cons_of_mem _ (List.mem_append_right _ hx)
theorem SepA.keep (h : SepA w bk g a n) (hk : ∀ x, x ∈ blksA g bk → x < w.heap.size → w'.heap[x]? = w.heap[x]?) : SepA w' bk g a n := by
  refine ⟨h.1, fun hn => ?_⟩
  obtain ⟨h4, h5, h6⟩ := h.2 hn
  have e : blksA g bk = g :: bk.blks := by unfold blksA; rw [if_neg (by have := h.1; omega)]
  rw [e] at hk
  exact ⟨h4, h5.keep (hk _ (List.mem_cons_self ..) h5.lt), sep_keep h5.lt hk h6⟩
theorem mkd_keep : ∀ {bk : Fo} {b j m : Nat}, b < w.heap.size → (∀ x, x ∈ b :: bk.blks → x < w.heap.size → w'.heap[x]? = w.heap[x]?) → Mkd w bk b j m → Mkd w' bk b j m
  | .nil, _, _, _, _, _, _ => trivial
  | .node k s ks r, b, j, m, hb, hk, ⟨⟨h00, h01, a, c, h1, h2⟩, h3⟩ => by
    have hbb := hk b (List.mem_cons_self ..) hb
    refine ⟨⟨(cell_same hbb).trans h00, (cell_same hbb).trans h01, a, c, (cell_same hbb).trans h1, fun hn => ?_⟩, mkd_keep hb (fun x hx => hk x ?_) h3⟩
    · obtain ⟨h4, h5, h6⟩ := h2 hn
      have hin : ∀ x, x ∈ k.toNat :: ks.blks → x ∈ b :: (Fo.node k s ks r).blks := fun x hx => List.mem_cons_of_mem _ (List.mem_append_left _ (by rw [if_neg (by omega)]; exact hx))
      exact ⟨h4, h5.keep (hk _ (hin _ (List.mem_cons_self ..)) h5.lt), mkd_keep h5.lt (fun x hx => hk x (hin x hx)) h6⟩
    · rcases List.mem_cons.1 hx with rfl | hx
      · exact List.mem_cons_self ..
      · exact List.mem_cons_of_mem _ (List.mem_append_right _ hx)
theorem MkdA.keep (h : MkdA w bk g a n m) (hk : ∀ x, x ∈ blksA g bk → x < w.heap.size → w'.heap[x]? = w.heap[x]?) : MkdA w' bk g a n m := by
  refine ⟨h.1, fun hn => ?_⟩
  obtain ⟨h4, h5, h6⟩ := h.2 hn
  have e : blksA g bk = g :: bk.blks := by unfold blksA; rw [if_neg (by have := h.1; omega)]
  rw [e] at hk
  exact ⟨h4, h5.keep (hk _ (List.mem_cons_self ..) h5.lt), mkd_keep h5.lt hk h6⟩
theorem sep_get : ∀ {bk : Fo} {b j i : Nat} {k : Int} {s : ByteArray} {ks : Fo}, Sep w bk b j → bk.get i = some (k, s, ks) → SepN w b (j + i) k.toNat ks
  | .nil, _, _, _, _, _, _, _, h => by simp [Fo.get] at h
  | .node k s ks r, b, j, 0, _, _, _, ⟨⟨a, c, h1, h2⟩, _⟩, h => by
    simp only [Fo.get, Option.some.injEq, Prod.mk.injEq] at h
    obtain ⟨rfl, rfl, rfl⟩ := h
    exact ⟨a, c, h1, rfl, h2⟩
  | .node k s ks r, b, j, i + 1, _, _, _, ⟨_, h3⟩, h => by
    have := sep_get (bk := r) (i := i) h3 h
    rwa [show j + (i + 1) = j + 1 + i from by omega]
theorem mkd_get : ∀ {bk : Fo} {b j i m : Nat} {k : Int} {s : ByteArray} {ks : Fo}, Mkd w bk b j m → bk.get i = some (k, s, ks) → MkdN w b (j + i) (m + 2 * bk.size - 2 * (bk.drop i).size) k.toNat ks
  | .nil, _, _, _, _, _, _, _, _, h => by simp [Fo.get] at h
  | .node k s ks r, b, j, 0, m, _, _, _, ⟨⟨h00, h01, a, c, h1, h2⟩, _⟩, h => by
    simp only [Fo.get, Option.some.injEq, Prod.mk.injEq] at h
    obtain ⟨rfl, rfl, rfl⟩ := h
    rw [Fo.drop_zero, Nat.add_sub_cancel]
    exact ⟨h00, h01, a, c, h1, rfl, h2⟩
  | .node k s ks r, b, j, i + 1, m, _, _, _, ⟨_, h3⟩, h => by
    have h4 := mkd_get (bk := r) (i := i) h3 h
    have hd : (Fo.node k s ks r).drop (i + 1) = r.drop i := rfl
    rw [hd, show j + (i + 1) = j + 1 + i from by omega, show m + 2 * (Fo.node k s ks r).size - 2 * (r.drop i).size = m + 2 + 2 * ks.size + 2 * r.size - 2 * (r.drop i).size from by simp only [Fo.size]; omega]
    exact h4
theorem drop_size_le : ∀ (bk : Fo) (i : Nat), (bk.drop i).size ≤ bk.size
  | .nil, 0 => Nat.le_refl _
  | .nil, _ + 1 => Nat.le_refl _
  | .node _ _ _ _, 0 => Nat.le_refl _
  | .node k s ks r, i + 1 => by have := drop_size_le r i; simp only [Fo.drop, Fo.size]; omega
theorem mkd_of : ∀ {bk : Fo} {b j m : Nat}, (∀ i k s ks, bk.get i = some (k, s, ks) → MkdN w b (j + i) (m + 2 * bk.size - 2 * (bk.drop i).size) k.toNat ks) → Mkd w bk b j m
  | .nil, _, _, _, _ => trivial
  | .node k s ks r, b, j, m, h => by
    have h0 := h 0 k s ks rfl
    rw [Fo.drop_zero, Nat.add_sub_cancel, Nat.add_zero] at h0
    obtain ⟨h00, h01, a, c, h1, h2⟩ := h0
    refine ⟨⟨h00, h01, a, c, h1, h2.2⟩, mkd_of fun i k' s' ks' hg => ?_⟩
    have h4 := h (i + 1) k' s' ks' hg
    have hd : (Fo.node k s ks r).drop (i + 1) = r.drop i := rfl
    rw [hd, show j + (i + 1) = j + 1 + i from by omega, show m + 2 * (Fo.node k s ks r).size - 2 * (r.drop i).size = m + 2 + 2 * ks.size + 2 * r.size - 2 * (r.drop i).size from by simp only [Fo.size]; omega] at h4
    exact h4
/-- only these blocks may have been written to -/
structure TchL (bs : List Nat) (w w' : World) : Prop where
  os : w'.os = w.os
  tape : w'.tape = w.tape
  output : w'.output = w.output
  size : w.heap.size ≤ w'.heap.size
  out : ∀ g : Nat, g < w.heap.size → g ∉ bs → w'.heap[g]? = w.heap[g]?
theorem TchL.refl (bs : List Nat) (w : World) : TchL bs w w := ⟨rfl, rfl, rfl, Nat.le_refl _, fun _ _ _ => rfl⟩
theorem TchL.trans {bs : List Nat} (h : TchL bs w w') (h2 : TchL bs w' w'') : TchL bs w w'' := ⟨h2.os.trans h.os, h2.tape.trans h.tape, h2.output.trans h.output, Nat.le_trans h.size h2.size, fun g hg ho => (h2.out g (Nat.lt_of_lt_of_le hg h.size) ho).trans (h.out g hg ho)⟩
theorem TchL.of {bs : List Nat} (h : Below w.heap.size w w') : TchL bs w w' := ⟨h.os, h.tape, h.output, h.size, fun g hg _ => h.block g hg⟩
theorem TchL.set {bs : List Nat} (hL : g ∈ bs) (v : Value) : TchL bs w (w.setCell ⟨g, i, none⟩ v) := ⟨rfl, rfl, rfl, by simp, fun g' hg ho => Below.heap_setCell w ⟨g, i, none⟩ v g' (by show g' ≠ g; rintro rfl; exact ho hL)⟩
theorem TchL.more {bs bs' : List Nat} (h : TchL bs w w') (hL : ∀ x, x ∈ bs → x ∈ bs') : TchL bs' w w' := ⟨h.os, h.tape, h.output, h.size, fun g hg ho => h.out g hg fun hx => ho (hL g hx)⟩
end
end Go.Proofs.YtmmjeokmoffdpaaGreat

namespace Go.Proofs.YtmmjeokmoffdpaaGreat
set_option linter.unusedVariables false
set_option linter.unusedSimpArgs false
open Go.RowKit

/-- the cells of a row of nodes whose operands have rows of their own -/
def RowB (w : World) : Fo → List Value → Prop
  | .nil, xs => xs = []
  | .node k _ ks r, xs => ∃ x y a c ys, xs = x :: y :: .slice a ks.len c :: ys ∧ SepA w ks k.toNat a ks.len ∧ RowB w r ys
section
variable {w w' : World} {b g : Nat} {bk ks : Fo} {a : Option Addr}
theorem rowB_keep : ∀ {bk : Fo} {xs : List Value}, (∀ x, x ∈ bk.blks → x < w.heap.size → w'.heap[x]? = w.heap[x]?) → RowB w bk xs → RowB w' bk xs
  | .nil, _, _, h => h
  | .node k s ks r, _, hk, ⟨x, y, a, c, ys, e, h1, h2⟩ => ⟨x, y, a, c, ys, e, h1.keep fun x hx => hk x (List.mem_append_left _ hx), rowB_keep (fun x hx => hk x (List.mem_append_right _ hx)) h2⟩
theorem rowB_snoc {x y : Value} {c : Nat} (h1 : SepA w ks g a ks.len) : ∀ {bk : Fo} {xs : List Value}, RowB w bk xs → RowB w (bk.snoc (g : Int) .empty ks) (xs ++ [x, y, .slice a ks.len c])
  | .nil, _, h => by simp only [RowB] at h; subst h; exact ⟨x, y, a, c, [], rfl, by simpa using h1, rfl⟩
  | .node k s ks' r, _, ⟨x', y', a', c', ys, e, h2, h3⟩ => by subst e; exact ⟨x', y', a', c', _, rfl, h2, rowB_snoc h1 h3⟩
theorem rowB_sep : ∀ {bk : Fo} {xs : List Value} {j0 : Nat}, RowB w bk xs → (∀ j u, xs[j]? = some u → w.cell? ⟨b, j0 * 3 + j, none⟩ = some u) → Sep w bk b j0
  | .nil, _, _, _, _ => trivial
  | .node k s ks r, _, j0, ⟨x, y, a, c, ys, e, h1, h2⟩, hcell => by
    subst e
    refine ⟨⟨a, c, hcell 2 _ rfl, h1.2⟩, rowB_sep h2 fun j u hu => ?_⟩
    have := hcell (j + 3) u (by simpa using hu)
    rwa [show (j0 + 1) * 3 + j = j0 * 3 + (j + 3) from by omega]
theorem blks_snoc (g : Nat) (s : ByteArray) (ks : Fo) : ∀ bk : Fo, (bk.snoc (g : Int) s ks).blks = bk.blks ++ blksA g ks
  | .nil => by simp [Fo.snoc, Fo.blks, blksA]
  | .node k' s' ks' r => by simp only [Fo.snoc, Fo.blks, blks_snoc g s ks r, List.append_assoc]
end
/-- a list of expressions of one's own whose rows share no block -/
def OwnB (w : World) (base : Nat) (v : Value) (f bk : Fo) : Prop := ∃ xs, w.ownsRow base 42 3 v f.len xs ∧ RowT w base w.heap.size v.ownBlock f xs ∧ RowB w bk xs ∧ bk.len = f.len ∧ bk.size = f.size ∧ bk.blks.Nodup ∧ ∀ x ∈ bk.blks, base ≤ x ∧ x < w.heap.size ∧ v.ownBlock ≠ some x
section
variable {w w' : World} {base base' : Nat} {v v' : Value} {f bk : Fo} {r : Option Nat}
theorem OwnB.own (h : OwnB w base v f bk) : OwnT w base v f := by
  obtain ⟨xs, h1, h2, _⟩ := h
  exact ⟨xs, h1, h2⟩
theorem OwnB.nil (w : World) (base : Nat) : OwnB w base (.slice none 0 0) .nil .nil := ⟨[], World.ownsRow_nil _ _ _ _, rfl, rfl, rfl, rfl, List.nodup_nil, fun _ h => by simp [Fo.blks] at h⟩
theorem OwnB.grown (h : OwnB w base v f bk) (hg : w.grownBy w' r) (hr : ∀ g, r = some g → g < base ∨ w.heap.size ≤ g) : OwnB w' base v f bk := by
  obtain ⟨xs, h1, h2, h3, h4, h5, h6, h7⟩ := h
  refine ⟨xs, World.ownsRow.kept h1 hg ?_, rowT_keep (Nat.le_refl _) hg.size (fun g hg => .inl hg) (fun p h3 h4 _ => World.cell?_of_block (hg.block p.block h4 (fun e => by have := hr _ e.symm; omega))) h2,
    rowB_keep (fun x hx hxs => hg.block x hxs (fun e => by have := hr _ e.symm; have := h7 x hx; omega)) h3, h4, h5, h6, fun x hx => ⟨(h7 x hx).1, Nat.lt_of_lt_of_le (h7 x hx).2.1 hg.size, (h7 x hx).2.2⟩⟩
  cases hv : v.ownBlock with
  | none => exact .inl rfl
  | some g => exact .inr fun e => by have := World.ownsRow.lt h1 g hv; have := hr g e.symm; omega
theorem OwnB.alloc (h : OwnB w base v f bk) (o : Obj) : OwnB (w.alloc o) base v f bk := h.grown (World.grownBy_alloc w o none) fun g e => by cases e
theorem OwnB.below (h : OwnB w base v f bk) (hb : Below w.heap.size w w') : OwnB w' base v f bk := h.grown (r := none) ⟨hb.os, hb.tape, hb.output, hb.size, fun i hi _ => hb.block i hi⟩ fun g e => by cases e
theorem OwnB.setCell (h : OwnB w base v f bk) {g : Nat} (hg : g < base) (i : Nat) (u : Value) : OwnB (w.setCell ⟨g, i, none⟩ u) base v f bk :=
  h.grown (r := some g) (grown_set (World.grownBy.refl w _) (.inl rfl) u) fun j e => by injection e with e; omega
theorem OwnB.mono (h : OwnB w base v f bk) (hb : base' ≤ base) : OwnB w base' v f bk := by
  obtain ⟨xs, h1, h2, h3, h4, h5, h6, h7⟩ := h
  exact ⟨xs, World.ownsRow.mono h1 hb, rowT_keep hb (Nat.le_refl _) (fun g hg => .inl hg) (fun _ _ _ _ => rfl) h2, h3, h4, h5, h6, fun x hx => ⟨Nat.le_trans hb (h7 x hx).1, (h7 x hx).2⟩⟩
theorem OwnB.bound (h : OwnB w base v f bk) : ∀ x ∈ bk.blks, x < w.heap.size := by
  obtain ⟨xs, h1, h2, h3, h4, h5, h6, h7⟩ := h
  exact fun x hx => (h7 x hx).2.1
/-- what a copied list is told of -/
def CopX (w : World) (base : Nat) (f : Fo) (a : Option Addr) (c : Nat) (bk : Fo) (g : Nat) : Prop := f.len ≤ c ∧ c ≤ maxLen ∧ KA w base w.heap.size f a f.len ∧ SepA w bk g a f.len ∧ (blksA g bk).Nodup ∧ (∀ x ∈ blksA g bk, base ≤ x ∧ x < w.heap.size) ∧ bk.size = f.size
theorem CopX.setCell {w : World} {base c g g' : Nat} {f bk : Fo} {a : Option Addr} (h : CopX w base f a c bk g) (hg : g' < base) (i : Nat) (u : Value) : CopX (w.setCell ⟨g', i, none⟩ u) base f a c bk g := by
  obtain ⟨h1, h2, h3, h4, h5, h6, h7⟩ := h
  have hsz : (w.setCell ⟨g', i, none⟩ u).heap.size = w.heap.size := by simp [World.setCell]
  refine ⟨h1, h2, (h3.setCell (.inl hg) i u).more (Nat.le_refl _) (by omega), h4.keep fun x hx _ => Below.heap_setCell w _ _ x (by have := h6 x hx; show x ≠ g'; omega), h5, fun x hx => ⟨(h6 x hx).1, by rw [hsz]; exact (h6 x hx).2⟩, h7⟩
theorem CopX.mono {w : World} {base base' c g : Nat} {f bk : Fo} {a : Option Addr} (h : CopX w base f a c bk g) (hb : base' ≤ base) : CopX w base' f a c bk g := by
  obtain ⟨h1, h2, h3, h4, h5, h6, h7⟩ := h
  exact ⟨h1, h2, h3.more hb (Nat.le_refl _), h4, h5, fun x hx => ⟨Nat.le_trans hb (h6 x hx).1, (h6 x hx).2⟩, h7⟩
theorem OwnB.form (h : OwnB w base v f bk) : ∃ a c g, v = .slice a f.len c ∧ CopX w base f a c bk g := by
  obtain ⟨a, c, rfl, h8, h9, h10⟩ := h.own.form
  obtain ⟨xs, h1, h2, h3, h4, h5, h6, h7⟩ := h
  rcases h1.2 with ⟨e, h0⟩ | ⟨g, cap, cur, e, hb, hg, hc, hm, hcs, _⟩
  · refine ⟨a, c, 0, rfl, h8, h9, h10, ⟨h4, fun hn => absurd hn (by omega)⟩, ?_, ?_, h5⟩
    · unfold blksA; rw [if_pos (by omega)]; exact List.nodup_nil
    · unfold blksA; rw [if_pos (by omega)]; intro x hx; simp at hx
  · simp only [Value.slice.injEq] at e
    obtain ⟨rfl, -, rfl⟩ := e
    refine ⟨_, c, g, rfl, h8, h9, h10, ⟨h4, fun hn => ⟨rfl, ⟨cur, hg, by rw [hcs]; exact Nat.mul_le_mul_right _ hc⟩, rowB_sep h3 fun j u hu => ?_⟩⟩, ?_, ?_, h5⟩
    · have := World.ownsRow.cells h1 (g := g) rfl j u hu
      rw [add_none] at this
      rwa [show 0 * 3 + j = 0 + j from by omega]
    · unfold blksA
      by_cases h0 : bk.len = 0
      · rw [if_pos h0]; exact List.nodup_nil
      · rw [if_neg h0]; exact List.nodup_cons.2 ⟨fun hx => (h7 g hx).2.2 rfl, h6⟩
    · intro x hx
      unfold blksA at hx
      by_cases h0 : bk.len = 0
      · rw [if_pos h0] at hx; simp at hx
      · rw [if_neg h0] at hx
        rcases List.mem_cons.1 hx with rfl | hx
        · exact ⟨hb, blk_lt hg⟩
        · exact ⟨(h7 x hx).1, (h7 x hx).2.1⟩
end
/-- one more node -/
theorem wp_append_bk {w : World} {o : Oper} {a : Act} {K : Act → World → Prop} {Q : Exit → Act → World → Prop} (s x : Operand)
    (ho : o.op = .call { callee := .builtin .append, args := #[s, x], argTypes := #[40, 40] })
    (base : Nat) (v : Value) (f bk : Fo) (hs : a.eval s = v) (hown : OwnB w base v f bk) (g c1 : Nat) (hx : a.eval x = .slice (some ⟨g, 0, none⟩) 1 c1)
    (k : Int) (t : ByteArray) (ks : Fo) (ad : Option Addr) (c L1 : Nat) (bk1 : Fo) (g1 : Nat) {T : TypeId} (hbx : w.heap[g]? = some (.cells #[.int .i64 k, .string t, .slice ad ks.len c] T (0, 0))) (hc : ks.len ≤ c) (hk : KA w L1 w.heap.size ks ad ks.len) (hL : base ≤ L1) (hown1 : ∀ g, v.ownBlock = some g → g < L1) (hown2 : ∀ x ∈ bk.blks, x < L1)
    (hsep : SepA w bk1 g1 ad ks.len) (hnd : (blksA g1 bk1).Nodup) (hin : ∀ x ∈ blksA g1 bk1, L1 ≤ x ∧ x < w.heap.size) (hz : bk1.size = ks.size)
    (h63 : f.len ≤ 1000000000) (hbase : base ≤ w.heap.size)
    (h : ∀ g cap w', OwnB w' base (.slice (some ⟨g, 0, none⟩) (f.len + 1) cap) (f.snoc k t ks) (bk.snoc (g1 : Int) .empty bk1) → w.grownBy w' v.ownBlock → g < w'.heap.size → base ≤ g → K (a.put o.dst (.slice (some ⟨g, 0, none⟩) (f.len + 1) cap)) w') :
    Oper.wp Tryz.prog o a w K Q := by
  obtain ⟨i, hi, hz0, hz1, hz2⟩ := info_parts expr_info3
  obtain ⟨xs, h1, h2, h3, h4, h5, h6, h7⟩ := hown
  refine wp_append_at s x 40 ho base 42 i _ 3 48 exprs_under hi hz0 hz1 hz2 rfl (by decide) v f.len xs hs h1 ⟨g, 0, none⟩ 1 c1 [.int .i64 k, .string t, .slice ad ks.len c] hx rfl ?_ (by simp [Value.oneCell']) (by simp only [maxLen]; omega) (by omega) hbase fun v' w' h8 h9 h10 => ?_
  · intro j u hu
    rw [add_none, cell_of_row _ _ _ _ _ _ hbx]
    simpa using hu
  · have h11 : RowT w' base w'.heap.size v'.ownBlock (f.snoc k t ks) (xs ++ [.int .i64 k, .string t, .slice ad ks.len c]) := by
      refine rowT_keep (Nat.le_refl _) h9.size (fun g e => ?_) (fun p h4 h5 h6 => World.cell?_of_block (h9.block p.block h5 (fun e => h6 e.symm))) (rowT_snoc (k := k) (s := t) hc hk hL (Nat.le_refl _) (fun g hg => .inl (hown1 g hg)) h2)
      rcases h10 with ho | ho
      · exact .inl (ho ▸ e)
      · exact .inr (.inr (ho g e))
    have h12 : RowB w' (bk.snoc (g1 : Int) .empty bk1) (xs ++ [.int .i64 k, .string t, .slice ad ks.len c]) := by
      have h13 := rowB_snoc (x := .int .i64 k) (y := .string t) (c := c) (g := g1) (a := ad) (ks := bk1) (by rw [hsep.1]; exact hsep) h3
      rw [hsep.1] at h13
      refine rowB_keep (fun x hx hxs => h9.block x hxs (fun e => ?_)) h13
      rw [blks_snoc] at hx
      rcases List.mem_append.1 hx with hx | hx
      · exact (h7 x hx).2.2 e.symm
      · have := hin x hx; have := hown1 x e.symm; omega
    have h14 : w'.ownsRow base 42 3 v' (f.snoc k t ks).len (xs ++ [.int .i64 k, .string t, .slice ad ks.len c]) := by rw [Fo.snoc_len]; exact h8
    obtain ⟨g', cap', rfl, h15, h16⟩ := World.ownsRow.form h8 (by omega)
    refine h g' cap' w' ⟨_, h14, h11, h12, by rw [Fo.snoc_len, Fo.snoc_len, h4], by rw [Fo.snoc_size, Fo.snoc_size, h5, hz], ?_, fun x hx => ?_⟩ h9 h16 h15
    · rw [blks_snoc]
      exact List.nodup_append.2 ⟨h6, hnd, fun x hx y hy e => by have := hown2 x hx; have := hin y hy; omega⟩
    · rw [blks_snoc] at hx
      have hxs : base ≤ x ∧ x < w.heap.size ∧ v.ownBlock ≠ some x := by
        rcases List.mem_append.1 hx with hx | hx
        · exact h7 x hx
        · have h17 := hin x hx
          exact ⟨by omega, h17.2, fun e => by have := hown1 x e; omega⟩
      refine ⟨hxs.1, Nat.lt_of_lt_of_le hxs.2.1 h9.size, fun e => ?_⟩
      rcases h10 with ho | ho
      · exact hxs.2.2 (ho ▸ e)
      · have := ho x e; omega

theorem wpList_append_bk {w : World} {ops : Array Oper} {rest : List Oper} {o : Oper} {a : Act} {Q : Exit → Act → World → Prop} (hgd : o.guard = none) (s x : Operand)
    (ho : o.op = .call { callee := .builtin .append, args := #[s, x], argTypes := #[40, 40] })
    (base : Nat) (v : Value) (f bk : Fo) (hs : a.eval s = v) (hown : OwnB w base v f bk) (g c1 : Nat) (hx : a.eval x = .slice (some ⟨g, 0, none⟩) 1 c1)
    (k : Int) (t : ByteArray) (ks : Fo) (ad : Option Addr) (c L1 : Nat) (bk1 : Fo) (g1 : Nat) {T : TypeId} (hbx : w.heap[g]? = some (.cells #[.int .i64 k, .string t, .slice ad ks.len c] T (0, 0))) (hc : ks.len ≤ c) (hk : KA w L1 w.heap.size ks ad ks.len) (hL : base ≤ L1) (hown1 : ∀ g, v.ownBlock = some g → g < L1) (hown2 : ∀ x ∈ bk.blks, x < L1)
    (hsep : SepA w bk1 g1 ad ks.len) (hnd : (blksA g1 bk1).Nodup) (hin : ∀ x ∈ blksA g1 bk1, L1 ≤ x ∧ x < w.heap.size) (hz : bk1.size = ks.size)
    (h63 : f.len ≤ 1000000000) (hbase : base ≤ w.heap.size)
    (h : ∀ g cap w', OwnB w' base (.slice (some ⟨g, 0, none⟩) (f.len + 1) cap) (f.snoc k t ks) (bk.snoc (g1 : Int) .empty bk1) → w.grownBy w' v.ownBlock → g < w'.heap.size → base ≤ g → wpList Tryz.prog ops Q rest (a.put o.dst (.slice (some ⟨g, 0, none⟩) (f.len + 1) cap)) w') :
    wpList Tryz.prog ops Q (o :: rest) a w :=
  wpList_plain hgd fun _ hK => wp_append_bk s x ho base v f bk hs hown g c1 hx k t ks ad c L1 bk1 g1 hbx hc hk hL hown1 hown2 hsep hnd hin hz h63 hbase fun g cap w' h1 h2 h3 h4 => hK _ _ (h g cap w' h1 h2 h3 h4)
theorem bxE_three {w : World} {g : Nat} {k : Int} {s : ByteArray} {v : Value} {T : TypeId} (h : BxE w g k s v T) : w.cell? ⟨g, 0, none⟩ = some (.int .i64 k) ∧ w.cell? ⟨g, 1, none⟩ = some (.string s) ∧ w.cell? ⟨g, 2, none⟩ = some v := ⟨h.c0, h.c1, h.c2⟩
/-- what copyExpr leaves -/
def CopP (k : Int) (s : ByteArray) (ks : Fo) (w : World) (e : Ending) (w' : World) : Prop := ∃ a c bk g, e = .returned (.agg #[.int .i64 k, .string s, .slice a ks.len c]) ∧ CopX w' w.heap.size ks a c bk g ∧ Below w.heap.size w w'
/-- what copyList leaves -/
def CopL (ks : Fo) (w : World) (e : Ending) (w' : World) : Prop := ∃ a c bk g, e = .returned (.slice a ks.len c) ∧ CopX w' w.heap.size ks a c bk g ∧ Below w.heap.size w w'

set_option maxRecDepth 100000 in
set_option maxHeartbeats 4000000 in
theorem cpl_of (ks : Fo) (hN2 : ks.size ≤ 1048576) (ih : ∀ k' s' ks', Fo.size ks' < ks.size → ∀ (a : Option Addr) (n c : Nat) (w : World), KA w 0 w.heap.size ks' a n → n ≤ c → Calls Tryz.prog 74 #[.agg #[.int .i64 k', .string s', .slice a n c]] w (CopP k' s' ks' w))
    (a : Option Addr) (n c : Nat) (w : World) (hk : KA w 0 w.heap.size ks a n) (hnc : n ≤ c) (fv : Value) (hfv : fv = .func (.func 74) #[] #[]) :
    Calls Tryz.prog 81 #[.slice a n c, fv] w (CopL ks w) := by
  have hn : n ≤ 1048576 := by have := Fo.size_len ks; have := hk.1; omega
  go_enter Tryz.func81, Tryz.ntmps81
  subst hfv
  go_wp2_with fail
  go_loopw [5, 10] (fun v i wr => ∃ (j : Nat) (f bk : Fo), j ≤ n ∧ i = .int .i64 j ∧ f.len = j ∧ (∀ i, i < j → f.get i = ks.get i) ∧ OwnB wr w.heap.size v f bk ∧ Below w.heap.size w wr) (fun _ i _ => n - (intOf i).toNat)
  case atStart => exact ⟨0, .nil, .nil, Nat.zero_le _, rfl, rfl, fun i h => absurd h (by omega), OwnB.nil _ _, Below.refl _ _⟩
  case round =>
    obtain ⟨j, f, bk, hj, rfl, hfl, hget, hown, hB⟩ := hrel
    by_cases hlt : j < n
    · obtain ⟨b, off, k3, s3, ks3, a3, n3, c3, rfl, _, hb3, hg3, hc1, hc2, hc3, hcap3, hk3⟩ := (hk.below hB).get hlt
      have hjj : (j : Int) < (n : Int) := by omega
      have hj0 : (0 : Int) ≤ (j : Int) := by omega
      have hsz3 := Fo.get_size hg3
      have hn3 := hk3.1
      have Hown := Lib.hid hown
      have Hg3 := Lib.hid hg3
      have Hk3 := Lib.hid hk3
      have hbl : b < wr.heap.size := by have := hB.size; omega
      clear hown hg3 hk3
      go_wp2_with fail
      refine (ih k3 s3 ks3 (by omega) a3 n3 c3 _ ((Hk3.out.more (Nat.le_refl _) hB.size).alloc (Nat.le_refl _) _ |>.more (Nat.le_refl _) (by simp)) hcap3).mono ?_
      rintro e w4 ⟨a4, c4, bk4, g4, rfl, ⟨hl4, hm4, hk4, hs4, hnd4, hin4, hz4⟩, hB4⟩
      have hBx := (Below.refl wr.heap.size wr).alloc (Nat.le_refl _) (.cells #[.int .i64 k3, .string s3, .slice a3 n3 c3] 42)
      have B4 := hBx.trans (hB4.mono hBx.size)
      have hs4w := hB4.size
      simp only [World.size_alloc] at hk4 hin4 hs4w
      have Hown4 := Lib.hid (Hown.out.below B4)
      have hlo := Hown.out.own.lt
      have hin := Hown.out.bound
      subst hn3
      clear hc1 hc2 hc3
      go_wp2_with (at_builtin; refine wpList_append_bk rfl _ _ rfl w.heap.size _ f bk rfl (Hown4.out.alloc _) w4.heap.size 1 rfl k3 s3 ks3 a4 c4 (wr.heap.size + 1) bk4 g4 (heap_alloc_new w4 _) hl4 ((hk4.alloc (Nat.le_refl _) _).more (Nat.le_refl _) (by simp)) (by have := hB.size; omega) (fun g hg => by have := (hlo g hg).2; omega) (fun x hx => by have := hin x hx; omega) (hs4.keep fun x _ hx => Below.heap_alloc w4 _ x hx) hnd4 (fun x hx => ⟨(hin4 x hx).1, by have := (hin4 x hx).2; simp; omega⟩) hz4 (by omega) (by have := hB.size; simp; omega) ?_; intro g6 cap6 w6 hown6 hgrow6 hlt6 hbg6)
      have hB6 : Below w.heap.size w w6 := ((hB.trans (B4.mono hB.size)).alloc (by have := hB.size; omega) _).grown hgrow6 (by have := hB.size; simp; omega) (fun g' e => by have := (hlo _ e).1; omega)
      rw [hfl] at hown6
      exact ⟨⟨j + 1, _, _, by omega, by go_num, by rw [Fo.snoc_len]; omega, Fo.snoc_drop Hg3.out f hget hfl, hown6, hB6⟩, by simp [intOf]; omega⟩
    · obtain rfl : f = ks := Fo.ext fun i => by
        by_cases hi : i < j
        · exact hget i hi
        · have h1 : f.get i = none := by
            cases hh : f.get i with
            | none => rfl
            | some x => have := Fo.get_lt hh; omega
          have h2 : ks.get i = none := by
            cases hh : ks.get i with
            | none => rfl
            | some x => have := Fo.get_lt hh; have := hk.1; omega
          rw [h1, h2]
      obtain ⟨av, dv, gv, rfl, hcv⟩ := hown.form
      have hjj : ¬ (j : Int) < (n : Int) := by omega
      have Hcv := Lib.hid hcv
      clear hown hcv
      go_wp2_with fail
      go_ret
      exact ⟨av, dv, bk, gv, by rw [hfl]; rfl, Hcv.out, hB⟩

set_option maxHeartbeats 1000000 in
theorem cpx_of (k : Int) (s : ByteArray) (ks : Fo) (hN2 : ks.size ≤ 1048576) (ih : ∀ k' s' ks', Fo.size ks' < ks.size → ∀ (a : Option Addr) (n c : Nat) (w : World), KA w 0 w.heap.size ks' a n → n ≤ c → Calls Tryz.prog 74 #[.agg #[.int .i64 k', .string s', .slice a n c]] w (CopP k' s' ks' w))
    (a : Option Addr) (n c : Nat) (w : World) (hk : KA w 0 w.heap.size ks a n) (hnc : n ≤ c) :
    Calls Tryz.prog 74 #[.agg #[.int .i64 k, .string s, .slice a n c]] w (CopP k s ks w) := by
  have hB0 := ((Below.refl w.heap.size w).alloc (Nat.le_refl _) (.cells #[.int .i64 k, .string s, .slice a n c] 42)).alloc (by simp) (.cells #[.int .i64 0, .string .empty, .slice none 0 0] 42)
  have hP0 := (BxE.new w k s (.slice a n c) 42).alloc (.cells #[.int .i64 0, .string .empty, .slice none 0 0] 42)
  have hE0 := BxE.new (w.alloc (.cells #[.int .i64 k, .string s, .slice a n c] 42)) 0 .empty (.slice none 0 0) 42
  simp only [World.size_alloc] at hE0
  have hD := (Below.refl ((w.alloc (.cells #[.int .i64 k, .string s, .slice a n c] 42)).alloc (.cells #[.int .i64 0, .string .empty, .slice none 0 0] 42)).heap.size ((w.alloc (.cells #[.int .i64 k, .string s, .slice a n c] 42)).alloc (.cells #[.int .i64 0, .string .empty, .slice none 0 0] 42))).drew
  have hBD := hB0.trans (hD.mono hB0.size)
  have Hl := Lib.hid (cpl_of ks hN2 ih a n c _ (hk.next hBD) hnc _ rfl)
  have hPD := hP0.next hD
  have hED := hE0.next hD
  have HC0 := Lib.hid (And.intro hPD.c0 (And.intro hPD.c1 hPD.c2))
  clear ih hk
  go_enter Tryz.func74, Tryz.ntmps74
  go_wp2_with fail
  go_region_held3 (fun w' => w'.cell? ⟨w.heap.size, 0, none⟩ = some (.int .i64 k) ∧ w'.cell? ⟨w.heap.size, 1, none⟩ = some (.string s) ∧ w'.cell? ⟨w.heap.size, 2, none⟩ = some (.slice a n c)) (first | exact HC0.out | exact HC1.out | exact bxE_three (((hP1.other (by omega) 0 _).other (by omega) 1 _).other (by omega) 2 _))
    ((first
      | (go_at_call 81; refine Hl.out.mono ?_; rintro e v1 ⟨a4, c4, bk4, g4, rfl, hcx, hC1⟩; have hP1 := hPD.next hC1; have hE1 := hED.next hC1; have HC1 := Lib.hid (And.intro hP1.c0 (And.intro hP1.c1 hP1.c2)); obtain ⟨y0, y1, y2, z0, z1, z2, hel⟩ := hE1.facts)))
  all_goals go_wp2_with fail
  all_goals
    have hcx' := ((hcx.setCell (g' := w.heap.size + 1) (by simp) 0 (.int .i64 k)).setCell (g' := w.heap.size + 1) (by simp) 1 (.string s)).setCell (g' := w.heap.size + 1) (by simp) 2 (.slice a4 ks.len c4)
    have B1 := hBD.trans (hC1.mono hBD.size)
    refine bodyPost_ret (v := .agg #[.int .i64 k, .string s, .slice a4 ks.len c4]) (by simp [results, Tryz.results74, go_sem, *]) rfl ?_
    exact ⟨a4, c4, bk4, g4, rfl, hcx'.mono (by simp; omega), ((B1.setCell (Nat.le_succ _) _).setCell (Nat.le_succ _) _).setCell (Nat.le_succ _) _⟩
theorem cpx_all (N : Nat) (hN : N ≤ 1048576) : ∀ (k : Int) (s : ByteArray) (ks : Fo), ks.size ≤ N → ∀ (a : Option Addr) (n c : Nat) (w : World), KA w 0 w.heap.size ks a n → n ≤ c → Calls Tryz.prog 74 #[.agg #[.int .i64 k, .string s, .slice a n c]] w (CopP k s ks w) := by
  induction N with
  | zero => exact fun k s ks h => cpx_of k s ks (by omega) fun k' s' ks' h' => absurd h' (by omega)
  | succ N ih => exact fun k s ks h => cpx_of k s ks (by omega) fun k' s' ks' h' => ih (by omega) k' s' ks' (by omega)
end Go.Proofs.YtmmjeokmoffdpaaGreat

namespace Go.Proofs.YtmmjeokmoffdpaaGreat
set_option linter.unusedVariables false
open Go.RowKit

/-- one round of l1Put -/
def putStep (f : Fl) (s : List Fl × Bool) (x : Fl) : List Fl × Bool :=
  let s1 := if s.2 = false ∧ sLess x.1 f.1 = false then (s.1 ++ [f], true) else s
  (if x.1 = f.1 then s1.1 else s1.1 ++ [x], s1.2)
def putTo (f : Fl) (fs : List Fl) : List Fl × Bool := fs.foldl (putStep f) ([], false)
def putF (f : Fl) (fs : List Fl) : List Fl := if (putTo f fs).2 = true then (putTo f fs).1 else (putTo f fs).1 ++ [f]
theorem putTo_succ {f : Fl} {fs : List Fl} {k : Nat} {p t : ByteArray} (h : fs[k]? = some (p, t)) : putTo f (fs.take (k + 1)) = putStep f (putTo f (fs.take k)) (p, t) := by
  unfold putTo
  rw [List.take_add_one, h, List.foldl_append]
  rfl
def owed : Bool → Nat | true => 0 | false => 1
theorem putStep_length (f : Fl) (s : List Fl × Bool) (x : Fl) : (putStep f s x).1.length + owed (putStep f s x).2 ≤ s.1.length + owed s.2 + 1 := by
  obtain ⟨l, b⟩ := s
  unfold putStep
  cases b <;> cases sLess x.1 f.1 <;> by_cases h : x.1 = f.1 <;> simp [h, owed]
theorem putTo_owed (f : Fl) (l : List Fl) : ∀ s : List Fl × Bool, (l.foldl (putStep f) s).1.length + owed (l.foldl (putStep f) s).2 ≤ s.1.length + owed s.2 + l.length := by
  induction l with
  | nil => intro s; simp
  | cons x l ih =>
    intro s
    have h1 := ih (putStep f s x)
    have h2 := putStep_length f s x
    simp only [List.foldl_cons, List.length_cons]
    omega
theorem putTo_length (f : Fl) (fs : List Fl) : (putTo f fs).1.length ≤ fs.length + 1 := by
  have := putTo_owed f fs ([], false)
  unfold putTo
  simp [owed] at this ⊢
  omega

theorem fput_info : (Tryz.prog.info? 83).map (fun i => (i.zero, i.size, i.bytes)) = some (some (.agg #[.string .empty, .string .empty]), 2, 32) := by kernel_rfl

/-- the slice v is the call's own row of the files fs -/
def OwnsF (w : World) (base : Nat) (v : Value) (fs : List Fl) : Prop := w.ownsRow base 83 2 v fs.length (fcells fs)
theorem two_new (w : World) (x y : Value) (t : TypeId) : ∀ j u, [x, y][j]? = some u → (w.alloc (.cells #[x, y] t)).cell? ((⟨w.heap.size, 0, none⟩ : Addr).add j) = some u := by
  intro j u h
  rw [add_none, cell_of_row _ _ _ _ _ _ (heap_alloc_new w _)]
  simpa using h

theorem OwnsF.drewN {w : World} {base : Nat} {v : Value} {fs : List Fl} (h : OwnsF w base v fs) (k : Nat) : OwnsF (w.drewN k) base v fs := h
theorem OwnsF.row {w : World} {base : Nat} {v : Value} {fs : List Fl} (h : OwnsF w base v fs) (k : Nat) (o : Obj) : ((w.drewN k).alloc o).ownsRow base 83 2 v fs.length (fcells fs) := World.ownsRow.alloc (h.drewN k) o
theorem OwnsF.grew {w : World} {base : Nat} {v : Value} {fs : List Fl} {p t : ByteArray} (h : w.ownsRow base 83 2 v (fs.length + 1) (fcells fs ++ [.string p, .string t])) : OwnsF w base v (fs ++ [(p, t)]) := by
  unfold OwnsF
  rw [fcells_append, List.length_append]
  exact h
theorem own_at {w : World} {base e size n : Nat} {v : Value} {xs : List Value} (h : w.ownsRow base e size v n xs) : ∀ k, v.ownBlock = some k → base ≤ k := fun k hk => (h.lt k hk).1

theorem kept_cell {wr w2 : World} {base k : Nat} {v : Value} {fs : List Fl} {o : Obj} {i : Addr} {x : Value} (hown : OwnsF wr base v fs) (hg : ((wr.drewN k).alloc o).grownBy w2 v.ownBlock) (h : wr.cell? i = some x) (hi : i.block < base) : w2.cell? i = some x := by
  have hlt := World.block_lt_of_cell? wr i h
  refine World.grownBy.cell hg ((World.cell?_alloc_lt (wr.drewN k) o i hlt).trans h) (fun e => ?_)
  have := own_at hown _ e.symm
  omega
theorem kept_below {a wr w2 : World} {base k : Nat} {v : Value} {fs : List Fl} {o : Obj} (hB : Below base a wr) (hs : base ≤ wr.heap.size) (hown : OwnsF wr base v fs) (hg : ((wr.drewN k).alloc o).grownBy w2 v.ownBlock) : Below base a w2 :=
  ((below_drewN hB k).alloc hs o).grown hg (by rw [World.size_alloc]; exact Nat.le_succ_of_le hs) (own_at hown)

theorem row_below {w w' : World} {B base size n g m cap : Nat} {e : TypeId} {xs : List Value} (h : w.ownsRow base e size (.slice (some ⟨g, 0, none⟩) m cap) n xs) (hB : Below B w w') (hb : g < B) : w'.ownsRow base e size (.slice (some ⟨g, 0, none⟩) m cap) n xs := by
  refine ⟨h.1, h.2.imp id ?_⟩
  rintro ⟨g', cap', cur, e1, h1, h2, r⟩
  cases e1
  exact ⟨g, cap, cur, rfl, h1, (hB.block g hb).trans h2, r⟩
theorem row_cells {w : World} {base size n g m cap : Nat} {e : TypeId} {xs : List Value} (h : w.ownsRow base e size (.slice (some ⟨g, 0, none⟩) m cap) n xs) (j : Nat) (u : Value) (hu : xs[j]? = some u) : w.cell? ⟨g, j, none⟩ = some u := by
  have := World.ownsRow.cells h (g := g) rfl j u hu
  rwa [add_none, Nat.zero_add] at this

end Go.Proofs.YtmmjeokmoffdpaaGreat

namespace Go.Proofs.YtmmjeokmoffdpaaGreat
set_option linter.unusedVariables false
open Go.RowKit

theorem OwnsF.form {w : World} {base : Nat} {v : Value} {fs : List Fl} (h : OwnsF w base v fs) : ∃ a c, v = .slice a fs.length c ∧ FilesAt w w.heap.size a fs.length fs := by
  rcases h.2 with ⟨rfl, h0⟩ | ⟨g, cap, cur, rfl, hb, hg, hn, hc, hs, ht⟩
  · exact ⟨none, 0, by rw [h0], rfl, fun hn => absurd hn (by omega)⟩
  · refine ⟨_, _, rfl, rfl, fun _ => ⟨g, 0, rfl, blk_lt hg, fun j u hu => ?_⟩⟩
    have := World.ownsRow.cells h (g := g) rfl j u hu
    rwa [add_none] at this

/-- what a function leaves that hands back a new list and a bool -/
def ListB (r : List Fl × Bool) (w : World) (e : Ending) (w' : World) : Prop :=
  ∃ v, e = .returned (.tuple #[v, .bool r.2]) ∧ OwnsF w' w.heap.size v r.1 ∧ Below w.heap.size w w'
theorem ListB.none {r : List Fl × Bool} {w w' : World} (h : r = ([], false)) (hb : Below w.heap.size w w') : ListB r w (.returned (.tuple #[.slice none 0 0, .bool false])) w' := by
  subst h
  exact ⟨_, rfl, World.ownsRow_nil _ _ _ _, hb⟩
theorem ListB.some {r : List Fl × Bool} {gs : List Fl} {v : Value} {w w' : World} (h : r = (gs, true)) (ho : OwnsF w' w.heap.size v gs) (hb : Below w.heap.size w w') : ListB r w (.returned (.tuple #[v, .bool true])) w' := by
  subst h
  exact ⟨v, rfl, ho, hb⟩
theorem ListB.empty {r : List Fl × Bool} {v : Value} {w w' : World} (h : r = ([], false)) (ho : OwnsF w' w.heap.size v []) (hb : Below w.heap.size w w') : ListB r w (.returned (.tuple #[v, .bool false])) w' := by
  subst h
  exact ⟨v, rfl, ho, hb⟩
theorem FilesAt.in1 {w : World} {a : Option Addr} {n : Nat} {fs : List Fl} (h : FilesAt w w.heap.size a n fs) (o : Obj) : FilesAt (w.alloc o) (w.alloc o).heap.size a n fs := (h.alloc (Nat.le_refl _) o).more (by simp)
theorem own_raise {w w' : World} {B : Nat} {v : Value} {fs : List Fl} (h : OwnsF w B v fs) (hb : Below w.heap.size w w') : OwnsF w' B v fs := by
  refine ⟨h.1, h.2.imp id ?_⟩
  rintro ⟨g, cap, cur, e1, h1, h2, r⟩
  exact ⟨g, cap, cur, e1, h1, (hb.block g (blk_lt h2)).trans h2, r⟩
theorem own_lower {w : World} {B C : Nat} {v : Value} {fs : List Fl} (h : OwnsF w B v fs) (hc : C ≤ B) : OwnsF w C v fs := World.ownsRow.mono h hc

/-- what a function leaves that hands back a readable list and a bool -/
def ListR (xs : List Fl) (xb : Bool) (w : World) (e : Ending) (w' : World) : Prop :=
  ∃ a c, e = .returned (.tuple #[.slice a xs.length c, .bool xb]) ∧ FilesAt w' w'.heap.size a xs.length xs ∧ Below w.heap.size w w'
theorem ListB.open {r : List Fl × Bool} {xs : List Fl} {xb : Bool} {w : World} {e : Ending} {w' : World} (h : ListB r w e w') (hr : r = (xs, xb)) : ListR xs xb w e w' := by
  subst hr
  obtain ⟨v, rfl, ho, hb⟩ := h
  obtain ⟨a, c, rfl, hf⟩ := ho.form
  exact ⟨a, c, rfl, hf, hb⟩

/-- what a function leaves that hands back a list of its own and a bool -/
def ListO (xs : List Fl) (xb : Bool) (w : World) (e : Ending) (w' : World) : Prop :=
  ∃ a c, e = .returned (.tuple #[.slice a xs.length c, .bool xb]) ∧ OwnsF w' w.heap.size (.slice a xs.length c) xs ∧ Below w.heap.size w w'
theorem ListB.openO {r : List Fl × Bool} {xs : List Fl} {xb : Bool} {w : World} {e : Ending} {w' : World} (h : ListB r w e w') (hr : r = (xs, xb)) : ListO xs xb w e w' := by
  subst hr
  obtain ⟨v, rfl, ho, hb⟩ := h
  obtain ⟨a, c, rfl, hf⟩ := ho.form
  exact ⟨a, c, rfl, ho, hb⟩

end Go.Proofs.YtmmjeokmoffdpaaGreat

namespace Go.Proofs.YtmmjeokmoffdpaaGreat
set_option linter.unusedVariables false
set_option linter.unusedSimpArgs false
open Go.RowKit

theorem files_under : Tryz.prog.underlying 33 = some (.slice 83) := by kernel_rfl
theorem copyFile_any (p t : ByteArray) (w : World) :
    Calls Tryz.prog 63 #[.agg #[.string p, .string t]] w fun e w' => e = .returned (.agg #[.string p, .string t]) ∧ Below w.heap.size w w' := by
  go_enter Tryz.func63, Tryz.ntmps63
  go_wp2_with fail
  exact bodyPost_ret (v := .agg #[.string p, .string t]) (by simp [results, Tryz.results63, go_sem]) rfl ⟨rfl, ((Below.refl _ _).alloc (Nat.le_refl _) _).alloc (by simp) _⟩

set_option maxRecDepth 100000 in
set_option maxHeartbeats 4000000 in
theorem copyFiles_any (a : Option Addr) (n c : Nat) (fs : List Fl) (w : World) (hf : FilesAt w w.heap.size a n fs) (hn : n ≤ 1048576) :
    Calls Tryz.prog 62 #[.slice a n c, .func (.func 63) #[] #[]] w fun e w' => ∃ v, e = .returned v ∧ OwnsF w' w.heap.size v fs ∧ Below w.heap.size w w' := by
  obtain ⟨i0, hi, hz0, hz1, hz2⟩ := info_parts fput_info
  have hlen := hf.1
  go_enter Tryz.func62, Tryz.ntmps62
  go_wp2_with fail
  go_loopw [5, 10] (fun v i wr => ∃ j : Nat, j ≤ n ∧ i = .int .i64 j ∧ OwnsF wr w.heap.size v (fs.take j) ∧ Below w.heap.size w wr) (fun _ i _ => n - (intOf i).toNat)
  case atStart => exact ⟨0, Nat.zero_le _, rfl, World.ownsRow_nil _ _ _ _, Below.refl _ _⟩
  case round =>
    obtain ⟨j, hj, rfl, hown, hB⟩ := hrel
    have hsw := hB.size
    have htl : (fs.take j).length = j := by simp; omega
    by_cases hlt : j < n
    · obtain ⟨b, off, p, t, rfl, hb, hg, hc1, hc2⟩ := (hf.below hB).get hlt
      have hjj : (j : Int) < (n : Int) := by omega
      have hj0 : (0 : Int) ≤ (j : Int) := by omega
      have Hst := Lib.hid (show fs.take (j + 1) = fs.take j ++ [(p, t)] from by rw [List.take_add_one, hg]; simp)
      have Hown := Lib.hid hown
      clear hown hg
      go_wp2_with fail
      refine (copyFile_any p t _).mono ?_
      rintro e w4 ⟨rfl, hB4⟩
      have hBx := (Below.refl wr.heap.size wr).alloc (Nat.le_refl _) (.cells #[.string p, .string t] 83)
      have B4 := hBx.trans (hB4.mono hBx.size)
      have Hown4 := Lib.hid (own_raise Hown.out B4)
      have hs4 := B4.size
      clear hc1 hc2
      go_wp2_with (at_builtin; refine wpList_append_own _ rfl _ _ 33 rfl w.heap.size 83 i0 _ 2 32 files_under hi hz0 hz1 hz2 rfl (by decide) _ _ _ rfl (World.ownsRow.alloc Hown4.out _) ⟨w4.heap.size, 0, none⟩ 1 1 [.string p, .string t] rfl rfl (two_new _ _ _ _) (by simp [Value.oneCell']) (by simp only [maxLen]; omega) (by omega) (by simp; omega) ?_; intro v2 w2 hown2 hgrow _)
      have hB6 := ((hB.trans (B4.mono hsw)).alloc (by omega) (.cells #[.string p, .string t] 83)).grown hgrow (by simp; omega) (own_at Hown4.out)
      exact ⟨⟨j + 1, by omega, by go_num, by rw [Hst.out]; exact OwnsF.grew hown2, hB6⟩, by simp [intOf]; omega⟩
    · have hjn : ¬ (j : Int) < (n : Int) := by omega
      have hall : fs.take j = fs := List.take_of_length_le (by omega)
      rw [hall] at hown
      have Hown := Lib.hid hown
      clear hown hall htl
      go_wp2_with fail
      go_ret
      exact ⟨_, rfl, Hown.out, hB⟩
theorem fmade_zero (w : World) : OwnsF (w.alloc (.cells #[] 83)) w.heap.size (.slice (some ⟨w.heap.size, 0, none⟩) 0 0) [] := World.ownsRow_made w _ _ (Nat.le_refl _) (by simp [maxLen]) rfl
theorem ownsF_alloc {w : World} {base : Nat} {v : Value} {fs : List Fl} (h : OwnsF w base v fs) (o : Obj) : OwnsF (w.alloc o) base v fs := World.ownsRow.alloc h o
theorem ownsF_ne {w w' : World} {base : Nat} {v : Value} {fs : List Fl} {r : Option Nat} (h : OwnsF w base v fs) (hg : w.grownBy w' r) (hne : ∀ g, v.ownBlock = some g → r ≠ some g) : OwnsF w' base v fs := by
  refine World.ownsRow.kept (row := r) h hg ?_
  cases hv : v.ownBlock with
  | none => exact .inl rfl
  | some b => exact .inr fun e => hne b hv e.symm
/-- all files of a list behind those of one's own -/
theorem wpList_append_files {w : World} {ops : Array Oper} {rest : List Oper} {o : Oper} {a : Act} {Q : Exit → Act → World → Prop} (hgd : o.guard = none) (s x : Operand)
    (ho : o.op = .call { callee := .builtin .append, args := #[s, x], argTypes := #[33, 33] })
    (base : Nat) (v : Value) (gs fs : List Fl) (hs : a.eval s = v) (hown : OwnsF w base v gs) (ad : Option Addr) (n c B : Nat) (hx : a.eval x = .slice ad n c) (hnil : ad = none → n = 0 ∧ c = 0) (hf : FilesAt w B ad n fs)
    (hn : gs.length + n ≤ 1000000000) (hbase : base ≤ w.heap.size)
    (h : ∀ v' w', OwnsF w' base v' (gs ++ fs) → w.grownBy w' v.ownBlock → wpList Tryz.prog ops Q rest (a.put o.dst v') w') : wpList Tryz.prog ops Q (o :: rest) a w := by
  obtain ⟨i0, hi, hz0, hz1, hz2⟩ := info_parts fput_info
  have hl := hf.1
  cases ad with
  | none =>
    obtain ⟨rfl, rfl⟩ := hnil rfl
    obtain rfl : fs = [] := List.eq_nil_of_length_eq_zero hl
    refine wpList_append_own_none hgd s x 33 ho base 83 i0 2 files_under hi v gs.length (fcells gs) hs hown hx ?_
    exact h v w (by simpa using hown) (World.grownBy.refl w _)
  | some ad =>
    refine wpList_append_own (P := Tryz.prog) w hgd s x 33 ho base 83 i0 _ 2 32 files_under hi hz0 hz1 hz2 rfl (by decide) v gs.length (fcells gs) hs hown ad n c (fcells fs) hx (by rw [fcells_length]; omega) (fun j u hu => ?_) (fcells_oneCell fs) (by simp only [maxLen]; omega) (by omega) hbase fun v' w' h1 h2 _ => h v' w' ?_ h2
    · have hj := (List.getElem?_eq_some_iff.1 hu).1
      rw [fcells_length] at hj
      obtain ⟨b, off, e, _, hc⟩ := hf.2 (by omega)
      cases e
      rw [add_none]
      exact hc j u hu
    · show w'.ownsRow base 83 2 v' (gs ++ fs).length (fcells (gs ++ fs))
      rw [fcells_append, List.length_append, hl]
      exact h1
end Go.Proofs.YtmmjeokmoffdpaaGreat

namespace Go.Proofs.YtmmjeokmoffdpaaGreat
set_option linter.unusedVariables false
open Go.RowKit

theorem set_size (w : World) (p : Addr) (u : Value) : (w.setCell p u).heap.size = w.heap.size := by simp [World.setCell]
/-- the nodes up to a place stand in these cells -/
def DoneTo (w : World) (L B : Nat) (f : Fo) (cur : Array Value) (j : Nat) : Prop := ∀ i k s ks, i < j → f.get i = some (k, s, ks) →
  cur[i * 3]? = some (.int .i64 k) ∧ cur[i * 3 + 1]? = some (.string s) ∧ ∃ a n, cur[i * 3 + 2]? = some (.slice a n n) ∧ KA w L B ks a n
section
variable {w w' : World} {L B B' g j n : Nat} {f ks : Fo} {k : Int} {s : ByteArray} {cur : Array Value} {a : Option Addr}
theorem DoneTo.zero : DoneTo w L B f cur 0 := fun i k s ks h => absurd h (by omega)
theorem DoneTo.next (h : DoneTo w L w.heap.size f cur j) (hb : Below w.heap.size w w') : DoneTo w' L w'.heap.size f cur j := fun i k s ks hi hg =>
  let ⟨h1, h2, a, n, h3, h4⟩ := h i k s ks hi hg
  ⟨h1, h2, a, n, h3, h4.next hb⟩
theorem DoneTo.step (h : DoneTo w L B f cur j) (hg : f.get j = some (k, s, ks)) (hk : KA w L B ks a n) (hs : j * 3 + 2 < cur.size) (hL : g < L) (x y z : Value) :
    DoneTo (((w.setCell ⟨g, j * 3, none⟩ x).setCell ⟨g, j * 3 + 1, none⟩ y).setCell ⟨g, j * 3 + 2, none⟩ z) L B f
      (((cur.setIfInBounds (j * 3) (.int .i64 k)).setIfInBounds (j * 3 + 1) (.string s)).setIfInBounds (j * 3 + 2) (.slice a n n)) (j + 1) := by
  intro i k' s' ks' hi hgi
  by_cases e : i = j
  · subst e
    rw [hg] at hgi
    simp only [Option.some.injEq, Prod.mk.injEq] at hgi
    obtain ⟨rfl, rfl, rfl⟩ := hgi
    refine ⟨?_, ?_, a, n, ?_, ((hk.setCell (.inl hL) _ _).setCell (.inl hL) _ _).setCell (.inl hL) _ _⟩
    · rw [Array.getElem?_setIfInBounds_ne (by omega), Array.getElem?_setIfInBounds_ne (by omega), Array.getElem?_setIfInBounds_self_of_lt (by omega)]
    · rw [Array.getElem?_setIfInBounds_ne (by omega), Array.getElem?_setIfInBounds_self_of_lt (by simp; omega)]
    · rw [Array.getElem?_setIfInBounds_self_of_lt (by simp; omega)]
  · obtain ⟨h1, h2, a', n', h3, h4⟩ := h i k' s' ks' (by omega) hgi
    refine ⟨?_, ?_, a', n', ?_, ((h4.setCell (.inl hL) _ _).setCell (.inl hL) _ _).setCell (.inl hL) _ _⟩
    · rw [Array.getElem?_setIfInBounds_ne (by omega), Array.getElem?_setIfInBounds_ne (by omega), Array.getElem?_setIfInBounds_ne (by omega)]; exact h1
    · rw [Array.getElem?_setIfInBounds_ne (by omega), Array.getElem?_setIfInBounds_ne (by omega), Array.getElem?_setIfInBounds_ne (by omega)]; exact h2
    · rw [Array.getElem?_setIfInBounds_ne (by omega), Array.getElem?_setIfInBounds_ne (by omega), Array.getElem?_setIfInBounds_ne (by omega)]; exact h3
/-- a row of cells that holds all the nodes is the list -/
theorem DoneTo.all {e : TypeId} (h : DoneTo w (g + 1) w.heap.size f cur n) (hl : f.len = n) (hb : w.heap[g]? = some (.cells cur e (0, 0))) (hL : L ≤ g) : KA w L w.heap.size f (some ⟨g, 0, none⟩) n := by
  refine ⟨hl, fun hn => ⟨g, 0, rfl, hL, blk_lt hb, seg_of fun j k s ks hg => ?_⟩⟩
  obtain ⟨h1, h2, a, m, h3, h4⟩ := h j k s ks (by have := Fo.get_lt hg; omega) hg
  refine ⟨?_, ?_, a, m, m, ?_, Nat.le_refl _, h4.more (by omega) (Nat.le_refl _)⟩
  · rw [Nat.zero_add, cell_of_row _ _ _ _ _ _ hb]; exact h1
  · rw [Nat.zero_add, cell_of_row _ _ _ _ _ _ hb]; exact h2
  · rw [Nat.zero_add, cell_of_row _ _ _ _ _ _ hb]; exact h3
end
/-- the contract of toExprS at one list -/
def ToC (f : Fo) : Prop := ∀ (a : Option Addr) (n c : Nat) (w : World), KA w 0 w.heap.size f a n → f.len + f.tot ≤ 1048576 →
  Calls Tryz.prog 44 #[.slice a n c] w fun e w' => ∃ g, e = .returned (.slice (some ⟨g, 0, none⟩) n n) ∧ KA w' w.heap.size w'.heap.size f (some ⟨g, 0, none⟩) n ∧ Below w.heap.size w w'
/-- what toExpr leaves -/
def ToP (k : Int) (s : ByteArray) (ks : Fo) (w : World) (e : Ending) (w' : World) : Prop :=
  ∃ g, e = .returned (.agg #[.int .i64 k, .string s, .slice (some ⟨g, 0, none⟩) ks.len ks.len]) ∧ KA w' w.heap.size w'.heap.size ks (some ⟨g, 0, none⟩) ks.len ∧ Below w.heap.size w w'

theorem expr_info : (Tryz.prog.info? 42).map (fun i => (i.zero, i.size, i.bytes)) = some (some (.agg #[.int .i64 0, .string .empty, .slice none 0 0]), 3, 48) := by kernel_rfl

set_option maxHeartbeats 400000 in
theorem toE_of (k : Int) (s : ByteArray) (ks : Fo) (ih : ToC ks) (a : Option Addr) (n c : Nat) (w : World) (hk : KA w 0 w.heap.size ks a n) (ht : ks.len + ks.tot ≤ 1048576) :
    Calls Tryz.prog 24 #[.agg #[.int .i64 k, .string s, .slice a n c]] w (ToP k s ks w) := by
  obtain rfl : ks.len = n := hk.1
  have B3 := (((Below.refl w.heap.size w).alloc (Nat.le_refl _) (.cells #[.int .i64 k, .string s, .slice a ks.len c] 28)).alloc (by simp) (.cells #[.int .i64 0, .string .empty, .slice none 0 0] 42)).alloc (by simp; omega) (.cells #[.int .i64 k, .string s, .slice none 0 0] 42)
  have hz : (((w.alloc (.cells #[.int .i64 k, .string s, .slice a ks.len c] 28)).alloc (.cells #[.int .i64 0, .string .empty, .slice none 0 0] 42)).alloc (.cells #[.int .i64 k, .string s, .slice none 0 0] 42)).heap.size = w.heap.size + 3 := by simp
  have hb3 := heap_alloc_new ((w.alloc (.cells #[.int .i64 k, .string s, .slice a ks.len c] 28)).alloc (.cells #[.int .i64 0, .string .empty, .slice none 0 0] 42)) (.cells #[.int .i64 k, .string s, .slice none 0 0] 42)
  rw [show ((w.alloc (.cells #[.int .i64 k, .string s, .slice a ks.len c] 28)).alloc (.cells #[.int .i64 0, .string .empty, .slice none 0 0] 42)).heap.size = w.heap.size + 1 + 1 from by simp] at hb3
  have hr2 : ((w.alloc (.cells #[.int .i64 k, .string s, .slice a ks.len c] 28)).alloc (.cells #[.int .i64 0, .string .empty, .slice none 0 0] 42)).heap[w.heap.size + 1]? = some (.cells #[.int .i64 0, .string .empty, .slice none 0 0] 42 (0, 0)) := by
    have := heap_alloc_new (w.alloc (.cells #[.int .i64 k, .string s, .slice a ks.len c] 28)) (.cells #[.int .i64 0, .string .empty, .slice none 0 0] 42)
    rw [show (w.alloc (.cells #[.int .i64 k, .string s, .slice a ks.len c] 28)).heap.size = w.heap.size + 1 from by simp] at this
    exact this
  have hr3 := (Below.heap_alloc ((w.alloc (.cells #[.int .i64 k, .string s, .slice a ks.len c] 28)).alloc (.cells #[.int .i64 0, .string .empty, .slice none 0 0] 42)) (.cells #[.int .i64 k, .string s, .slice none 0 0] 42) (w.heap.size + 1) (by simp)).trans hr2
  have hk3 := hk.next B3
  go_enter Tryz.func24, Tryz.ntmps24
  go_wp2_with fail
  refine (ih a ks.len c _ hk3 ht).mono ?_
  rintro e w1 ⟨g, rfl, hg, hB1⟩
  rw [hz] at hg hB1
  have hb1 : w1.heap[w.heap.size + 1 + 1]? = _ := (hB1.block (w.heap.size + 1 + 1) (by omega)).trans hb3
  have hc0 : w1.cell? ⟨w.heap.size + 1 + 1, 0, none⟩ = some (.int .i64 k) := by rw [cell_of_row _ _ _ _ _ _ hb1]; rfl
  have hc1 : w1.cell? ⟨w.heap.size + 1 + 1, 1, none⟩ = some (.string s) := by rw [cell_of_row _ _ _ _ _ _ hb1]; rfl
  have hc2 : w1.cell? ⟨w.heap.size + 1 + 1, 2, none⟩ = some (.slice none 0 0) := by rw [cell_of_row _ _ _ _ _ _ hb1]; rfl
  have hf2 := blk_frozen hb1 2
  have hr1 := (hB1.block (w.heap.size + 1) (by omega)).trans hr3
  have hd0 : w1.cell? ⟨w.heap.size + 1, 0, none⟩ = some (.int .i64 0) := by rw [cell_of_row _ _ _ _ _ _ hr1]; rfl
  have hd1 : w1.cell? ⟨w.heap.size + 1, 1, none⟩ = some (.string .empty) := by rw [cell_of_row _ _ _ _ _ _ hr1]; rfl
  have hd2 : w1.cell? ⟨w.heap.size + 1, 2, none⟩ = some (.slice none 0 0) := by rw [cell_of_row _ _ _ _ _ _ hr1]; rfl
  have he0 := blk_frozen hr1 0
  have he1 := blk_frozen hr1 1
  have he2 := blk_frozen hr1 2
  have Bx := B3.trans (hB1.mono (by omega))
  clear hb1 hb3 hk3 hr2 hr3 hr1
  go_wp2_with fail
  refine bodyPost_ret (v := .agg #[.int .i64 k, .string s, .slice (some ⟨g, 0, none⟩) ks.len ks.len]) (by simp [results, Tryz.results24, go_sem, hd0, hd1, hd2]) rfl ?_
  refine ⟨g, rfl, ((((hg.setCell (g := w.heap.size + 1 + 1) (.inl (by omega)) _ _).setCell (g := w.heap.size + 1) (.inl (by omega)) _ _).setCell (g := w.heap.size + 1) (.inl (by omega)) _ _).setCell (g := w.heap.size + 1) (.inl (by omega)) _ _).more (by omega) (by simp [World.setCell]), ?_⟩
  exact (((Bx.setCell (by simp; omega) _).setCell (by simp) _).setCell (by simp) _).setCell (by simp) _

set_option maxHeartbeats 800000 in
theorem toS_of (f : Fo) (ih : ∀ ks : Fo, ks.size < f.size → ToC ks) : ToC f := by
    intro a n c w hf ht
    have hlen := Lib.hid hf.1
    have hn : n ≤ 1048576 := by have := hf.1; omega
    have hL := Nat.le_refl w.heap.size
    obtain ⟨i0, hi, hz0, hz1, hz2⟩ := info_parts expr_info
    have hmk := fun W => make_row (P := Tryz.prog) 40 42 i0 _ Tryz.underlying40 hi hz0 .i64 .i64 n n (Nat.le_refl _) (by rw [hz2]; omega) (by omega) W
    go_enter Tryz.func44, Tryz.ntmps44
    go_wp2_with fail
    go_loopw [4] (fun i wr => ∃ (j : Nat) (cur : Array Value), j ≤ n ∧ i = .int .i64 j ∧ wr.heap[w.heap.size]? = some (.cells cur 42 (0, 0)) ∧ cur.size = n * 3 ∧ DoneTo wr (w.heap.size + 1) wr.heap.size f cur j ∧ Below w.heap.size w wr) (fun i _ => n - (intOf i).toNat)
    case atStart => exact ⟨0, _, Nat.zero_le _, rfl, heap_alloc_new w _, by simp [madeCells], DoneTo.zero, (Below.refl _ _).alloc (Nat.le_refl _) _⟩
    case round =>
      obtain ⟨j, cur, hj, rfl, hblk, hsz, hdone, hB⟩ := hrel
      by_cases hlt : j < n
      · obtain ⟨b, off, k, s, ks, a', n', c', rfl, _, hb, hg, hc1, hc2, hc3, hcap, hks⟩ := (hf.below hB).get hlt
        have Hg := Lib.hid hg
        have hsk := Fo.get_size hg
        have htk := Fo.get_tot hg
        have hks' := hks.more (Nat.le_refl 0) hB.size
        have Hsz := Lib.hid hsz
        have Hblk := Lib.hid hblk
        have Hdone := Lib.hid hdone
        have hgl : w.heap.size < wr.heap.size := blk_lt hblk
        have hx1 : wr.cell? ⟨w.heap.size, j * 3, none⟩ = some (cur[j * 3]'(by omega)) := by rw [cell_of_row wr _ _ _ _ _ hblk]; simp
        have hx2 : wr.cell? ⟨w.heap.size, j * 3 + 1, none⟩ = some (cur[j * 3 + 1]'(by omega)) := by rw [cell_of_row wr _ _ _ _ _ hblk]; simp
        have hx3 : wr.cell? ⟨w.heap.size, j * 3 + 2, none⟩ = some (cur[j * 3 + 2]'(by omega)) := by rw [cell_of_row wr _ _ _ _ _ hblk]; simp
        generalize cur[j * 3]'(by omega) = v1 at hx1
        generalize cur[j * 3 + 1]'(by omega) = v2 at hx2
        generalize cur[j * 3 + 2]'(by omega) = v3 at hx3
        have hz1a := blk_frozen hblk (j * 3)
        have hz1b := blk_frozen hblk (j * 3 + 1)
        have hz1c := blk_frozen hblk (j * 3 + 2)
        have hsl : s.size + ks.len + ks.tot ≤ 1048576 := by omega
        clear hblk hsz hg hdone
        go_wp2_with fail
        refine (toE_of k s ks (ih ks (by omega)) a' n' c' _ hks' (by omega)).mono ?_
        rintro e w1 ⟨g1, rfl, hk1, hB1⟩
        have hy1 := (hB1.cell (p := ⟨w.heap.size, j * 3, none⟩) hgl).trans hx1
        have hy2 := (hB1.cell (p := ⟨w.heap.size, j * 3 + 1, none⟩) hgl).trans hx2
        have hy3 := (hB1.cell (p := ⟨w.heap.size, j * 3 + 2, none⟩) hgl).trans hx3
        have hf1 := (hB1.frozen (p := ⟨w.heap.size, j * 3, none⟩) hgl).trans hz1a
        have hf2 := (hB1.frozen (p := ⟨w.heap.size, j * 3 + 1, none⟩) hgl).trans hz1b
        have hf3 := (hB1.frozen (p := ⟨w.heap.size, j * 3 + 2, none⟩) hgl).trans hz1c
        have hb1 := Lib.hid ((hB1.block w.heap.size hgl).trans Hblk.out)
        have hdn := Lib.hid ((Hdone.out.next hB1).step (g := w.heap.size) Hg.out (hk1.more (by omega) (Nat.le_refl _)) (by have := Hsz.out; omega) (by omega) (.int .i64 k) (.string s) (.slice (some ⟨g1, 0, none⟩) ks.len ks.len))
        have hBB := hB.trans (hB1.mono hB.size)
        clear hx1 hx2 hx3 hz1a hz1b hz1c
        go_wp2_with fail
        exact ⟨⟨j + 1, _, by omega, by go_num, blk_set (blk_set (blk_set hb1.out _ _) _ _) _ _, by simp [Hsz.out], by rw [set_size, set_size, set_size]; exact hdn.out, ((hBB.setCell (Nat.le_refl _) _).setCell (Nat.le_refl _) _).setCell (Nat.le_refl _) _⟩, by simp [intOf]; omega⟩
      · have e : j = n := by omega
        have Hblk := Lib.hid hblk
        have Hdone := Lib.hid hdone
        clear hsz hblk hdone
        subst e
        go_wp2_with fail
        go_ret
        exact ⟨_, rfl, Hdone.out.all hlen.out Hblk.out (Nat.le_refl _), hB⟩
theorem toS_all (N : Nat) : ∀ f : Fo, f.size ≤ N → ToC f := by
  induction N with
  | zero => exact fun f hN => toS_of f fun ks h => absurd h (by omega)
  | succ N ih => exact fun f hN => toS_of f fun ks h => ih ks (by omega)
theorem toExpr_any (k : Int) (s : ByteArray) (ks : Fo) (a : Option Addr) (n c : Nat) (w : World) (hk : KA w 0 w.heap.size ks a n) (ht : ks.len + ks.tot ≤ 1048576) :
    Calls Tryz.prog 24 #[.agg #[.int .i64 k, .string s, .slice a n c]] w (ToP k s ks w) :=
  toE_of k s ks (toS_all ks.size ks (Nat.le_refl _)) a n c w hk ht
end Go.Proofs.YtmmjeokmoffdpaaGreat

namespace Go.Proofs.YtmmjeokmoffdpaaGreat
set_option linter.unusedVariables false
open Go.RowKit

/-- the contract of eqExprS at one list -/
def EqC (f : Fo) : Prop := ∀ (a b : Option Addr) (n c d : Nat) (w : World), KA w 0 w.heap.size f a n → KA w 0 w.heap.size f b n → f.Fits → n ≤ maxLen →
  Calls Tryz.prog 50 #[.slice a n c, .slice b n d] w fun e w' => e = .returned (.bool true) ∧ Below w.heap.size w w'

set_option maxHeartbeats 400000 in
theorem eqE_of (k : Int) (s : ByteArray) (ks : Fo) (ih : EqC ks) (a b : Option Addr) (n c d : Nat) (w : World) (hk : KA w 0 w.heap.size ks a n) (hk2 : KA w 0 w.heap.size ks b n) (hfit : ks.Fits) (hn : n ≤ maxLen) :
    Calls Tryz.prog 31 #[.agg #[.int .i64 k, .string s, .slice a n c], .agg #[.int .i64 k, .string s, .slice b n d]] w fun e w' => e = .returned (.bool true) ∧ Below w.heap.size w w' := by
  have hB := ((Below.refl w.heap.size w).alloc (Nat.le_refl _) (.cells #[.int .i64 k, .string s, .slice a n c] 42)).alloc (by simp) (.cells #[.int .i64 k, .string s, .slice b n d] 42)
  have hd : (s.toList == s.toList) = true := by simp
  have hkk : (k == k) = true := by simp
  go_enter Tryz.func31, Tryz.ntmps31
  go_wp2_with fail
  refine (ih a b n c d _ (hk.next hB) (hk2.next hB) hfit hn).mono ?_
  rintro e w1 ⟨rfl, hB1⟩
  have hBB := hB.trans (hB1.mono hB.size)
  go_wp2_with fail
  go_ret
  exact ⟨rfl, hBB⟩

set_option maxHeartbeats 800000 in
set_option maxRecDepth 100000 in
theorem eqS_of (f : Fo) (ih : ∀ ks : Fo, ks.size < f.size → EqC ks) : EqC f := by
  intro a b n c d w hf hg hfit hn
  unfold maxLen at hn
  go_enter Tryz.func50, Tryz.ntmps50
  go_wp2_with fail
  go_loopw [5] (fun i wr => ∃ j : Nat, j ≤ n ∧ i = .int .i64 j ∧ Below w.heap.size w wr) (fun i _ => n - (intOf i).toNat)
  case atStart => exact ⟨0, Nat.zero_le _, rfl, Below.refl _ _⟩
  case round =>
    obtain ⟨j, hj, rfl, hB⟩ := hrel
    by_cases hlt : j < n
    · obtain ⟨b1, o1, k, s, ks, a', n', c', rfl, _, hb1, hg1, hc1, hc2, hc3, hcap, hks⟩ := (hf.below hB).get hlt
      obtain ⟨b2, o2, k2, s2, ks2, a2, n2, c2, rfl, _, hb2, hg2, hd1, hd2, hd3, hcap2, hks2⟩ := (hg.below hB).get hlt
      rw [hg1] at hg2
      simp only [Option.some.injEq, Prod.mk.injEq] at hg2
      obtain ⟨rfl, rfl, rfl⟩ := hg2
      have hsz := Fo.get_size hg1
      obtain ⟨_, hfl, hfk⟩ := hfit.get hg1
      have hkl := hks.1
      have hkl2 := hks2.1
      subst hkl
      subst hkl2
      have hBd : Below w.heap.size w wr.drew := hB.drew
      have hks' : KA wr.drew 0 wr.drew.heap.size ks a' ks.len := hks.keep (Nat.le_refl 0) hBd.size fun _ _ _ => rfl
      have hks2' : KA wr.drew 0 wr.drew.heap.size ks a2 ks.len := hks2.keep (Nat.le_refl 0) hBd.size fun _ _ _ => rfl
      clear hg1
      go_wp2_with fail
      go_still_tail 8, (by kernel_rfl)
      change wpList _ _ _ _ _ wr.drew
      go_wp2_with fail
      refine (eqE_of k s ks (ih ks (by omega)) a' a2 ks.len c' c2 _ hks' hks2' hfk hfl).mono ?_
      rintro e w1 ⟨rfl, hB1⟩
      have hBB := hBd.trans (hB1.mono hBd.size)
      go_wp2_with fail
      go_roundw
      case rel => exact ⟨j + 1, by omega, by go_num, hBB⟩
      case measure => simp [intOf]; omega
    · go_wp2_with fail
      go_ret
      exact ⟨rfl, hB⟩
theorem eqS_all (N : Nat) : ∀ f : Fo, f.size ≤ N → EqC f := by
  induction N with
  | zero => exact fun f hN => eqS_of f fun ks h => absurd h (by omega)
  | succ N ih => exact fun f hN => eqS_of f fun ks h => ih ks (by omega)
theorem eqExpr_yes (k : Int) (s : ByteArray) (ks : Fo) (a b : Option Addr) (n c d : Nat) (w : World) (hk : KA w 0 w.heap.size ks a n) (hk2 : KA w 0 w.heap.size ks b n) (hfit : ks.Fits) (hn : n ≤ maxLen) :
    Calls Tryz.prog 31 #[.agg #[.int .i64 k, .string s, .slice a n c], .agg #[.int .i64 k, .string s, .slice b n d]] w fun e w' => e = .returned (.bool true) ∧ Below w.heap.size w w' :=
  eqE_of k s ks (eqS_all ks.size ks (Nat.le_refl _)) a b n c d w hk hk2 hfit hn
end Go.Proofs.YtmmjeokmoffdpaaGreat

namespace Go.Proofs.YtmmjeokmoffdpaaGreat
set_option linter.unusedVariables false
open Go.RowKit

section
variable {w w' : World} {L L' B B' b j n : Nat} {f ks : Fo} {k : Int} {s : ByteArray} {a : Option Addr}
theorem sk_keep (hL : L' ≤ L) (hB : B ≤ B') (hk : ∀ g : Nat, L ≤ g → g < B → w'.heap[g]? = w.heap[g]?) : ∀ {f : Fo} {b j : Nat}, L ≤ b → b < B → SkS w L B f b j → SkS w' L' B' f b j
  | .nil, _, _, _, _, _ => trivial
  | .node k s ks r, b, j, h1, h2, ⟨⟨a, m, c, h3, h4, h5⟩, h6⟩ => ⟨⟨a, m, c, (by
      have : w'.cell? ⟨b, j * 3 + 2, none⟩ = w.cell? ⟨b, j * 3 + 2, none⟩ := World.cell?_of_block (hk b h1 h2)
      exact this.trans h3), h4, fun hm => let ⟨b', e, hl, hb, ⟨cs, hr, hc⟩, hs⟩ := h5 hm; ⟨b', e, by omega, by omega, ⟨cs, (hk b' hl hb).trans hr, hc⟩, sk_keep hL hB hk hl hb hs⟩⟩, sk_keep hL hB hk h1 h2 h6⟩
theorem SkA.keep (h : SkA w L B f a n) (hL : L' ≤ L) (hB : B ≤ B') (hk : ∀ g : Nat, L ≤ g → g < B → w'.heap[g]? = w.heap[g]?) : SkA w' L' B' f a n :=
  ⟨h.1, fun hn => let ⟨b, e, hl, hb, ⟨cs, hr, hc⟩, hs⟩ := h.2 hn; ⟨b, e, by omega, by omega, ⟨cs, (hk b hl hb).trans hr, hc⟩, sk_keep hL hB hk hl hb hs⟩⟩
theorem SkA.more (h : SkA w L B f a n) (hL : L' ≤ L) (hB : B ≤ B') : SkA w L' B' f a n := h.keep hL hB fun _ _ _ => rfl
theorem SkA.setCell (h : SkA w L B f a n) {g : Nat} (hg : g < L ∨ B ≤ g) (i : Nat) (u : Value) : SkA (w.setCell ⟨g, i, none⟩ u) L B f a n :=
  h.keep (Nat.le_refl _) (Nat.le_refl _) fun g' h1 h2 => Below.heap_setCell w ⟨g, i, none⟩ u g' (by show g' ≠ g; omega)
theorem SkA.below (h : SkA w L B f a n) (hb : Below B w w') : SkA w' L B f a n := h.keep (Nat.le_refl _) (Nat.le_refl _) fun g _ hg => hb.block g hg
theorem SkA.next (h : SkA w L w.heap.size f a n) (hb : Below w.heap.size w w') : SkA w' L w'.heap.size f a n := (h.below hb).more (Nat.le_refl _) hb.size
theorem sk_of : ∀ {f : Fo} {b j : Nat}, (∀ i k s ks, f.get i = some (k, s, ks) → ∃ a n c, w.cell? ⟨b, (j + i) * 3 + 2, none⟩ = some (.slice a n c) ∧ SkA w L B ks a n) → SkS w L B f b j
  | .nil, _, _, _ => trivial
  | .node k s ks r, b, j, h => by
    obtain ⟨a, n, c, h1, h2⟩ := h 0 k s ks rfl
    exact ⟨⟨a, n, c, h1, h2.1, h2.2⟩, sk_of fun i k' s' ks' hg => by
      obtain ⟨a', n', c', h3, h4⟩ := h (i + 1) k' s' ks' hg
      exact ⟨a', n', c', by rw [show j + 1 + i = j + (i + 1) from by omega]; exact h3, h4⟩⟩
/-- these nodes, each list at the head of a row -/
def KS (w : World) (L B : Nat) (f : Fo) (a : Option Addr) (n : Nat) : Prop := KA w L B f a n ∧ SkA w L B f a n
theorem KS.more (h : KS w L B f a n) (hL : L' ≤ L) (hB : B ≤ B') : KS w L' B' f a n := ⟨h.1.more hL hB, h.2.more hL hB⟩
theorem KS.setCell (h : KS w L B f a n) {g : Nat} (hg : g < L ∨ B ≤ g) (i : Nat) (u : Value) : KS (w.setCell ⟨g, i, none⟩ u) L B f a n := ⟨h.1.setCell hg i u, h.2.setCell hg i u⟩
theorem KS.next (h : KS w L w.heap.size f a n) (hb : Below w.heap.size w w') : KS w' L w'.heap.size f a n := ⟨h.1.next hb, h.2.next hb⟩
end
/-- the nodes up to a place stand in these cells -/
def DoneTo2 (w : World) (L B : Nat) (f : Fo) (cur : Array Value) (j : Nat) : Prop := ∀ i k s ks, i < j → f.get i = some (k, s, ks) →
  cur[i * 3]? = some (.int .i64 k) ∧ cur[i * 3 + 1]? = some (.string s) ∧ ∃ a n, cur[i * 3 + 2]? = some (.slice a n n) ∧ KS w L B ks a n
section
variable {w w' : World} {L B B' g j n : Nat} {f ks : Fo} {k : Int} {s : ByteArray} {cur : Array Value} {a : Option Addr}
theorem DoneTo2.zero : DoneTo2 w L B f cur 0 := fun i k s ks h => absurd h (by omega)
theorem DoneTo2.next (h : DoneTo2 w L w.heap.size f cur j) (hb : Below w.heap.size w w') : DoneTo2 w' L w'.heap.size f cur j := fun i k s ks hi hg =>
  let ⟨h1, h2, a, n, h3, h4⟩ := h i k s ks hi hg
  ⟨h1, h2, a, n, h3, h4.next hb⟩
theorem DoneTo2.step (h : DoneTo2 w L B f cur j) (hg : f.get j = some (k, s, ks)) (hk : KS w L B ks a n) (hs : j * 3 + 2 < cur.size) (hL : g < L) (x y z : Value) :
    DoneTo2 (((w.setCell ⟨g, j * 3, none⟩ x).setCell ⟨g, j * 3 + 1, none⟩ y).setCell ⟨g, j * 3 + 2, none⟩ z) L B f
      (((cur.setIfInBounds (j * 3) (.int .i64 k)).setIfInBounds (j * 3 + 1) (.string s)).setIfInBounds (j * 3 + 2) (.slice a n n)) (j + 1) := by
  intro i k' s' ks' hi hgi
  by_cases e : i = j
  · subst e
    rw [hg] at hgi
    simp only [Option.some.injEq, Prod.mk.injEq] at hgi
    obtain ⟨rfl, rfl, rfl⟩ := hgi
    refine ⟨?_, ?_, a, n, ?_, ((hk.setCell (.inl hL) _ _).setCell (.inl hL) _ _).setCell (.inl hL) _ _⟩
    · rw [Array.getElem?_setIfInBounds_ne (by omega), Array.getElem?_setIfInBounds_ne (by omega), Array.getElem?_setIfInBounds_self_of_lt (by omega)]
    · rw [Array.getElem?_setIfInBounds_ne (by omega), Array.getElem?_setIfInBounds_self_of_lt (by simp; omega)]
    · rw [Array.getElem?_setIfInBounds_self_of_lt (by simp; omega)]
  · obtain ⟨h1, h2, a', n', h3, h4⟩ := h i k' s' ks' (by omega) hgi
    refine ⟨?_, ?_, a', n', ?_, ((h4.setCell (.inl hL) _ _).setCell (.inl hL) _ _).setCell (.inl hL) _ _⟩
    · rw [Array.getElem?_setIfInBounds_ne (by omega), Array.getElem?_setIfInBounds_ne (by omega), Array.getElem?_setIfInBounds_ne (by omega)]; exact h1
    · rw [Array.getElem?_setIfInBounds_ne (by omega), Array.getElem?_setIfInBounds_ne (by omega), Array.getElem?_setIfInBounds_ne (by omega)]; exact h2
    · rw [Array.getElem?_setIfInBounds_ne (by omega), Array.getElem?_setIfInBounds_ne (by omega), Array.getElem?_setIfInBounds_ne (by omega)]; exact h3
/-- a row of cells that holds all the nodes is the list -/
theorem DoneTo2.all (h : DoneTo2 w (g + 1) w.heap.size f cur n) (hl : f.len = n) (hb : w.heap[g]? = some (.cells cur 42 (0, 0))) (hc : cur.size = n * 3) (hL : L ≤ g) : KS w L w.heap.size f (some ⟨g, 0, none⟩) n := by
  refine ⟨⟨hl, fun hn => ⟨g, 0, rfl, hL, blk_lt hb, seg_of fun j k s ks hg => ?_⟩⟩, hl, fun hn => ⟨g, rfl, hL, blk_lt hb, ⟨cur, hb, hc⟩, sk_of fun j k s ks hg => ?_⟩⟩
  · obtain ⟨h1, h2, a, m, h3, h4⟩ := h j k s ks (by have := Fo.get_lt hg; omega) hg
    refine ⟨?_, ?_, a, m, m, ?_, Nat.le_refl _, h4.1.more (by omega) (Nat.le_refl _)⟩
    · rw [Nat.zero_add, cell_of_row _ _ _ _ _ _ hb]; exact h1
    · rw [Nat.zero_add, cell_of_row _ _ _ _ _ _ hb]; exact h2
    · rw [Nat.zero_add, cell_of_row _ _ _ _ _ _ hb]; exact h3
  · obtain ⟨h1, h2, a, m, h3, h4⟩ := h j k s ks (by have := Fo.get_lt hg; omega) hg
    refine ⟨a, m, m, ?_, h4.2.more (by omega) (Nat.le_refl _)⟩
    rw [Nat.zero_add, cell_of_row _ _ _ _ _ _ hb]; exact h3
end
/-- the contract of toExprS at one list -/
def ToC2 (f : Fo) : Prop := ∀ (a : Option Addr) (n c : Nat) (w : World), KA w 0 w.heap.size f a n → f.len + f.tot ≤ 1048576 →
  Calls Tryz.prog 44 #[.slice a n c] w fun e w' => ∃ g, e = .returned (.slice (some ⟨g, 0, none⟩) n n) ∧ KS w' w.heap.size w'.heap.size f (some ⟨g, 0, none⟩) n ∧ Below w.heap.size w w'
/-- what toExpr leaves -/
def ToP2 (k : Int) (s : ByteArray) (ks : Fo) (w : World) (e : Ending) (w' : World) : Prop :=
  ∃ g, e = .returned (.agg #[.int .i64 k, .string s, .slice (some ⟨g, 0, none⟩) ks.len ks.len]) ∧ KS w' w.heap.size w'.heap.size ks (some ⟨g, 0, none⟩) ks.len ∧ Below w.heap.size w w'


set_option maxHeartbeats 400000 in
theorem toE_of2 (k : Int) (s : ByteArray) (ks : Fo) (ih : ToC2 ks) (a : Option Addr) (n c : Nat) (w : World) (hk : KA w 0 w.heap.size ks a n) (ht : ks.len + ks.tot ≤ 1048576) :
    Calls Tryz.prog 24 #[.agg #[.int .i64 k, .string s, .slice a n c]] w (ToP2 k s ks w) := by
  obtain rfl : ks.len = n := hk.1
  have B3 := (((Below.refl w.heap.size w).alloc (Nat.le_refl _) (.cells #[.int .i64 k, .string s, .slice a ks.len c] 28)).alloc (by simp) (.cells #[.int .i64 0, .string .empty, .slice none 0 0] 42)).alloc (by simp; omega) (.cells #[.int .i64 k, .string s, .slice none 0 0] 42)
  have hz : (((w.alloc (.cells #[.int .i64 k, .string s, .slice a ks.len c] 28)).alloc (.cells #[.int .i64 0, .string .empty, .slice none 0 0] 42)).alloc (.cells #[.int .i64 k, .string s, .slice none 0 0] 42)).heap.size = w.heap.size + 3 := by simp
  have hb3 := heap_alloc_new ((w.alloc (.cells #[.int .i64 k, .string s, .slice a ks.len c] 28)).alloc (.cells #[.int .i64 0, .string .empty, .slice none 0 0] 42)) (.cells #[.int .i64 k, .string s, .slice none 0 0] 42)
  rw [show ((w.alloc (.cells #[.int .i64 k, .string s, .slice a ks.len c] 28)).alloc (.cells #[.int .i64 0, .string .empty, .slice none 0 0] 42)).heap.size = w.heap.size + 1 + 1 from by simp] at hb3
  have hr2 : ((w.alloc (.cells #[.int .i64 k, .string s, .slice a ks.len c] 28)).alloc (.cells #[.int .i64 0, .string .empty, .slice none 0 0] 42)).heap[w.heap.size + 1]? = some (.cells #[.int .i64 0, .string .empty, .slice none 0 0] 42 (0, 0)) := by
    have := heap_alloc_new (w.alloc (.cells #[.int .i64 k, .string s, .slice a ks.len c] 28)) (.cells #[.int .i64 0, .string .empty, .slice none 0 0] 42)
    rw [show (w.alloc (.cells #[.int .i64 k, .string s, .slice a ks.len c] 28)).heap.size = w.heap.size + 1 from by simp] at this
    exact this
  have hr3 := (Below.heap_alloc ((w.alloc (.cells #[.int .i64 k, .string s, .slice a ks.len c] 28)).alloc (.cells #[.int .i64 0, .string .empty, .slice none 0 0] 42)) (.cells #[.int .i64 k, .string s, .slice none 0 0] 42) (w.heap.size + 1) (by simp)).trans hr2
  have hk3 := hk.next B3
  go_enter Tryz.func24, Tryz.ntmps24
  go_wp2_with fail
  refine (ih a ks.len c _ hk3 ht).mono ?_
  rintro e w1 ⟨g, rfl, hg, hB1⟩
  rw [hz] at hg hB1
  have hb1 : w1.heap[w.heap.size + 1 + 1]? = _ := (hB1.block (w.heap.size + 1 + 1) (by omega)).trans hb3
  have hc0 : w1.cell? ⟨w.heap.size + 1 + 1, 0, none⟩ = some (.int .i64 k) := by rw [cell_of_row _ _ _ _ _ _ hb1]; rfl
  have hc1 : w1.cell? ⟨w.heap.size + 1 + 1, 1, none⟩ = some (.string s) := by rw [cell_of_row _ _ _ _ _ _ hb1]; rfl
  have hc2 : w1.cell? ⟨w.heap.size + 1 + 1, 2, none⟩ = some (.slice none 0 0) := by rw [cell_of_row _ _ _ _ _ _ hb1]; rfl
  have hf2 := blk_frozen hb1 2
  have hr1 := (hB1.block (w.heap.size + 1) (by omega)).trans hr3
  have hd0 : w1.cell? ⟨w.heap.size + 1, 0, none⟩ = some (.int .i64 0) := by rw [cell_of_row _ _ _ _ _ _ hr1]; rfl
  have hd1 : w1.cell? ⟨w.heap.size + 1, 1, none⟩ = some (.string .empty) := by rw [cell_of_row _ _ _ _ _ _ hr1]; rfl
  have hd2 : w1.cell? ⟨w.heap.size + 1, 2, none⟩ = some (.slice none 0 0) := by rw [cell_of_row _ _ _ _ _ _ hr1]; rfl
  have he0 := blk_frozen hr1 0
  have he1 := blk_frozen hr1 1
  have he2 := blk_frozen hr1 2
  have Bx := B3.trans (hB1.mono (by omega))
  clear hb1 hb3 hk3 hr2 hr3 hr1
  go_wp2_with fail
  refine bodyPost_ret (v := .agg #[.int .i64 k, .string s, .slice (some ⟨g, 0, none⟩) ks.len ks.len]) (by simp [results, Tryz.results24, go_sem, hd0, hd1, hd2]) rfl ?_
  refine ⟨g, rfl, ((((hg.setCell (g := w.heap.size + 1 + 1) (.inl (by omega)) _ _).setCell (g := w.heap.size + 1) (.inl (by omega)) _ _).setCell (g := w.heap.size + 1) (.inl (by omega)) _ _).setCell (g := w.heap.size + 1) (.inl (by omega)) _ _).more (by omega) (by simp [World.setCell]), ?_⟩
  exact (((Bx.setCell (by simp; omega) _).setCell (by simp) _).setCell (by simp) _).setCell (by simp) _

set_option maxHeartbeats 800000 in
theorem toS_of2 (f : Fo) (ih : ∀ ks : Fo, ks.size < f.size → ToC2 ks) : ToC2 f := by
    intro a n c w hf ht
    have hlen := Lib.hid hf.1
    have hn : n ≤ 1048576 := by have := hf.1; omega
    have hL := Nat.le_refl w.heap.size
    obtain ⟨i0, hi, hz0, hz1, hz2⟩ := info_parts expr_info
    have hmk := fun W => make_row (P := Tryz.prog) 40 42 i0 _ Tryz.underlying40 hi hz0 .i64 .i64 n n (Nat.le_refl _) (by rw [hz2]; omega) (by omega) W
    go_enter Tryz.func44, Tryz.ntmps44
    go_wp2_with fail
    go_loopw [4] (fun i wr => ∃ (j : Nat) (cur : Array Value), j ≤ n ∧ i = .int .i64 j ∧ wr.heap[w.heap.size]? = some (.cells cur 42 (0, 0)) ∧ cur.size = n * 3 ∧ DoneTo2 wr (w.heap.size + 1) wr.heap.size f cur j ∧ Below w.heap.size w wr) (fun i _ => n - (intOf i).toNat)
    case atStart => exact ⟨0, _, Nat.zero_le _, rfl, heap_alloc_new w _, by simp [madeCells], DoneTo2.zero, (Below.refl _ _).alloc (Nat.le_refl _) _⟩
    case round =>
      obtain ⟨j, cur, hj, rfl, hblk, hsz, hdone, hB⟩ := hrel
      by_cases hlt : j < n
      · obtain ⟨b, off, k, s, ks, a', n', c', rfl, _, hb, hg, hc1, hc2, hc3, hcap, hks⟩ := (hf.below hB).get hlt
        have Hg := Lib.hid hg
        have hsk := Fo.get_size hg
        have htk := Fo.get_tot hg
        have hks' := hks.more (Nat.le_refl 0) hB.size
        have Hsz := Lib.hid hsz
        have Hblk := Lib.hid hblk
        have Hdone := Lib.hid hdone
        have hgl : w.heap.size < wr.heap.size := blk_lt hblk
        have hx1 : wr.cell? ⟨w.heap.size, j * 3, none⟩ = some (cur[j * 3]'(by omega)) := by rw [cell_of_row wr _ _ _ _ _ hblk]; simp
        have hx2 : wr.cell? ⟨w.heap.size, j * 3 + 1, none⟩ = some (cur[j * 3 + 1]'(by omega)) := by rw [cell_of_row wr _ _ _ _ _ hblk]; simp
        have hx3 : wr.cell? ⟨w.heap.size, j * 3 + 2, none⟩ = some (cur[j * 3 + 2]'(by omega)) := by rw [cell_of_row wr _ _ _ _ _ hblk]; simp
        generalize cur[j * 3]'(by omega) = v1 at hx1
        generalize cur[j * 3 + 1]'(by omega) = v2 at hx2
        generalize cur[j * 3 + 2]'(by omega) = v3 at hx3
        have hz1a := blk_frozen hblk (j * 3)
        have hz1b := blk_frozen hblk (j * 3 + 1)
        have hz1c := blk_frozen hblk (j * 3 + 2)
        have hsl : s.size + ks.len + ks.tot ≤ 1048576 := by omega
        clear hblk hsz hg hdone
        go_wp2_with fail
        refine (toE_of2 k s ks (ih ks (by omega)) a' n' c' _ hks' (by omega)).mono ?_
        rintro e w1 ⟨g1, rfl, hk1, hB1⟩
        have hy1 := (hB1.cell (p := ⟨w.heap.size, j * 3, none⟩) hgl).trans hx1
        have hy2 := (hB1.cell (p := ⟨w.heap.size, j * 3 + 1, none⟩) hgl).trans hx2
        have hy3 := (hB1.cell (p := ⟨w.heap.size, j * 3 + 2, none⟩) hgl).trans hx3
        have hf1 := (hB1.frozen (p := ⟨w.heap.size, j * 3, none⟩) hgl).trans hz1a
        have hf2 := (hB1.frozen (p := ⟨w.heap.size, j * 3 + 1, none⟩) hgl).trans hz1b
        have hf3 := (hB1.frozen (p := ⟨w.heap.size, j * 3 + 2, none⟩) hgl).trans hz1c
        have hb1 := Lib.hid ((hB1.block w.heap.size hgl).trans Hblk.out)
        have hdn := Lib.hid ((Hdone.out.next hB1).step (g := w.heap.size) Hg.out (hk1.more (by omega) (Nat.le_refl _)) (by have := Hsz.out; omega) (by omega) (.int .i64 k) (.string s) (.slice (some ⟨g1, 0, none⟩) ks.len ks.len))
        have hBB := hB.trans (hB1.mono hB.size)
        clear hx1 hx2 hx3 hz1a hz1b hz1c
        go_wp2_with fail
        exact ⟨⟨j + 1, _, by omega, by go_num, blk_set (blk_set (blk_set hb1.out _ _) _ _) _ _, by simp [Hsz.out], by rw [set_size, set_size, set_size]; exact hdn.out, ((hBB.setCell (Nat.le_refl _) _).setCell (Nat.le_refl _) _).setCell (Nat.le_refl _) _⟩, by simp [intOf]; omega⟩
      · have e : j = n := by omega
        have Hblk := Lib.hid hblk
        have Hdone := Lib.hid hdone
        have Hsz := Lib.hid hsz
        clear hsz hblk hdone
        subst e
        go_wp2_with fail
        go_ret
        exact ⟨_, rfl, Hdone.out.all hlen.out Hblk.out Hsz.out (Nat.le_refl _), hB⟩
theorem toS_all2 (N : Nat) : ∀ f : Fo, f.size ≤ N → ToC2 f := by
  induction N with
  | zero => exact fun f hN => toS_of2 f fun ks h => absurd h (by omega)
  | succ N ih => exact fun f hN => toS_of2 f fun ks h => ih ks (by omega)
theorem toExpr_sk (k : Int) (s : ByteArray) (ks : Fo) (a : Option Addr) (n c : Nat) (w : World) (hk : KA w 0 w.heap.size ks a n) (ht : ks.len + ks.tot ≤ 1048576) :
    Calls Tryz.prog 24 #[.agg #[.int .i64 k, .string s, .slice a n c]] w (ToP2 k s ks w) :=
  toE_of2 k s ks (toS_all2 ks.size ks (Nat.le_refl _)) a n c w hk ht
end Go.Proofs.YtmmjeokmoffdpaaGreat

namespace Go.Proofs.YtmmjeokmoffdpaaGreat
set_option linter.unusedVariables false
open Go.RowKit

/-- only blocks from L to B may have been written to -/
structure Tch (L B : Nat) (w w' : World) : Prop where
  os : w'.os = w.os
  tape : w'.tape = w.tape
  output : w'.output = w.output
  size : w.heap.size ≤ w'.heap.size
  out : ∀ g : Nat, g < w.heap.size → g < L ∨ B ≤ g → w'.heap[g]? = w.heap[g]?
section
variable {w w' w'' : World} {L B L' B' g n i : Nat}
theorem Tch.refl (L B : Nat) (w : World) : Tch L B w w := ⟨rfl, rfl, rfl, Nat.le_refl _, fun _ _ _ => rfl⟩
theorem Tch.trans (h : Tch L B w w') (h2 : Tch L B w' w'') : Tch L B w w'' := ⟨h2.os.trans h.os, h2.tape.trans h.tape, h2.output.trans h.output, Nat.le_trans h.size h2.size, fun g hg ho => (h2.out g (Nat.lt_of_lt_of_le hg h.size) ho).trans (h.out g hg ho)⟩
theorem Tch.of (h : Below w.heap.size w w') : Tch L B w w' := ⟨h.os, h.tape, h.output, h.size, fun g hg _ => h.block g hg⟩
theorem Tch.set (hL : L ≤ g) (hB : g < B) (v : Value) : Tch L B w (w.setCell ⟨g, i, none⟩ v) := ⟨rfl, rfl, rfl, by simp, fun g' hg ho => Below.heap_setCell w ⟨g, i, none⟩ v g' (by show g' ≠ g; omega)⟩
theorem Tch.more (h : Tch L B w w') (hL : L' ≤ L) (hB : B ≤ B') : Tch L' B' w w' := ⟨h.os, h.tape, h.output, h.size, fun g hg ho => h.out g hg (by omega)⟩
theorem Tch.below (h : Tch L B w w') (hL : L ≤ w.heap.size) : Below L w w' := ⟨h.os, h.tape, h.output, h.size, fun g hg => h.out g (by omega) (.inl hg)⟩
end
end Go.Proofs.YtmmjeokmoffdpaaGreat

namespace Go.Proofs.YtmmjeokmoffdpaaGreat
set_option linter.unusedVariables false
open Go.RowKit

/-- no quote in it -/
def noQ (l : List UInt8) : Bool := l.all fun c => decide (c.toNat ≠ 39)
theorem noQ_succ (s : ByteArray) (k : Nat) (h : k < s.size) : noQ (s.data.toList.take (k + 1)) = (noQ (s.data.toList.take k) && decide (s[k].toNat ≠ 39)) := by
  unfold noQ
  rw [List.take_succ_eq_append_getElem (by simpa using h), List.all_append]
  congr 1
  simp only [List.all_cons, List.all_nil, Bool.and_true]
  rfl
theorem noQ_false (s : ByteArray) (k : Nat) (h : k < s.size) (hb : s[k].toNat = 39) : noQ s.data.toList = false := by
  have h1 := noQ_succ s k h
  rw [decide_eq_false (p := s[k].toNat ≠ 39) (by omega), Bool.and_false] at h1
  unfold noQ at h1 ⊢
  rw [← List.take_append_drop (k + 1) s.data.toList, List.all_append, h1, Bool.false_and]
/-- a text that can stand between quotes -/
def plainB (s : ByteArray) : Bool := noQ s.data.toList && textB s
/-- a number of operands that is right for a kind -/
def kidsB (k : Int) (n : Nat) : Bool := (decide (k = 1) && decide (n = 0)) || (decide (k = 3) && decide (n ≤ 4)) || (decide (k = 4) && decide (n = 4)) || ((decide (k = 2) || decide (k = 5) || decide (k = 6) || decide (k = 7)) && decide (n = 1))
/-- a node that is right, but for its operands -/
def nodeB (k : Int) (s : ByteArray) (n : Nat) : Bool := kidsB k n && plainB s && (decide (k = 1) || decide (s = .empty))
/-- well-formed down to a depth -/
def shape : Fo → Nat → Bool
  | .nil, _ => true
  | .node k s ks r, d => decide (1 ≤ d) && nodeB k s ks.len && shape ks (d - 1) && shape r d
/-- nodes down to a depth -/
def count : Fo → Nat → Nat
  | .nil, _ => 0
  | .node k s ks r, d => 1 + (if 0 < d then count ks (d - 1) else 0) + count r d
theorem count_le : ∀ (f : Fo) (d : Nat), count f d ≤ f.size
  | .nil, _ => Nat.le_refl _
  | .node k s ks r, d => by
    have h1 := count_le ks (d - 1)
    have h2 := count_le r d
    simp only [count, Fo.size]
    split <;> omega
theorem count_shape : ∀ (f : Fo) (d : Nat), shape f d = true → count f d = f.size
  | .nil, _, _ => rfl
  | .node k s ks r, d, h => by
    simp only [shape, Bool.and_eq_true, decide_eq_true_eq] at h
    have h1 := count_shape ks (d - 1) h.1.2
    have h2 := count_shape r d h.2
    simp only [count, Fo.size]
    rw [if_pos (by omega)]
    omega
/-- a valid expression -/
def validE (k : Int) (s : ByteArray) (ks : Fo) : Bool := shape (.node k s ks .nil) 6 && decide (ks.size + 1 ≤ 20)
/-- the count of nodes behind a list of operands at a depth, if all are right -/
def conv : Fo → Nat → Nat → Option Nat
  | .nil, _, m => some m
  | .node k s ks r, d, m => if m + 1 ≤ 20 ∧ d ≤ 6 then (conv ks (d + 1) (m + 1)).bind fun m' => if nodeB k s ks.len = true then conv r d m' else none else none
/-- one node -/
def conv1 (k : Int) (s : ByteArray) (ks : Fo) (d m : Nat) : Option Nat := if m + 1 ≤ 20 ∧ d ≤ 6 then (conv ks (d + 1) (m + 1)).bind fun m' => if nodeB k s ks.len = true then some m' else none else none
theorem conv_node (k : Int) (s : ByteArray) (ks r : Fo) (d m : Nat) : conv (.node k s ks r) d m = (conv1 k s ks d m).bind fun m' => conv r d m' := by
  unfold conv1
  rw [conv]
  split
  · cases conv ks (d + 1) (m + 1) with
    | none => rfl
    | some m' => simp only [Option.bind_some]; split <;> rfl
  · rfl
theorem conv_eq : ∀ (f : Fo) (d m : Nat), d ≤ 7 → m ≤ 20 → conv f d m = if shape f (7 - d) = true ∧ m + f.size ≤ 20 then some (m + f.size) else none
  | .nil, d, m, _, hm => by simp [conv, shape, Fo.size, hm]
  | .node k s ks r, d, m, hd, hm => by
    rw [conv]
    simp only [shape, Fo.size, Bool.and_eq_true, decide_eq_true_eq]
    by_cases h1 : m + 1 ≤ 20 ∧ d ≤ 6
    · rw [if_pos h1, conv_eq ks (d + 1) (m + 1) (by omega) h1.1, show 7 - (d + 1) = 7 - d - 1 from by omega]
      by_cases h2 : shape ks (7 - d - 1) = true ∧ m + 1 + ks.size ≤ 20
      · rw [if_pos h2, Option.bind_some]
        by_cases h3 : nodeB k s ks.len = true
        · rw [if_pos h3, conv_eq r d _ hd h2.2]
          by_cases h4 : shape r (7 - d) = true ∧ m + 1 + ks.size + r.size ≤ 20
          · rw [if_pos h4, if_pos ⟨⟨⟨⟨by omega, h3⟩, h2.1⟩, h4.1⟩, by omega⟩]; congr 1; omega
          · rw [if_neg h4, if_neg (fun h => h4 ⟨h.1.2, by omega⟩)]
        · rw [if_neg h3, if_neg (fun h => h3 h.1.1.1.2)]
      · rw [if_neg h2, Option.bind_none, if_neg (fun h => h2 ⟨h.1.1.2, by omega⟩)]
    · rw [if_neg h1, if_neg (fun h => h1 ⟨by omega, by have := h.1.1.1.1; omega⟩)]
theorem conv1_valid (k : Int) (s : ByteArray) (ks : Fo) : conv1 k s ks 1 0 = if validE k s ks = true then some (ks.size + 1) else none := by
  have h1 : conv (.node k s ks .nil) 1 0 = conv1 k s ks 1 0 := by
    rw [conv_node]
    cases conv1 k s ks 1 0 <;> rfl
  rw [← h1, conv_eq _ 1 0 (by omega) (by omega)]
  unfold validE
  simp only [Bool.and_eq_true, decide_eq_true_eq, Fo.size, show 7 - 1 = 6 from rfl]
  by_cases h : shape (.node k s ks .nil) 6 = true ∧ ks.size + 1 ≤ 20
  · rw [if_pos h, if_pos ⟨h.1, by omega⟩]; congr 1; omega
  · rw [if_neg h, if_neg (fun h2 => h ⟨h2.1, by omega⟩)]
theorem conv_le {f : Fo} {d m m' : Nat} (hd : d ≤ 7) (hm : m ≤ 20) (h : conv f d m = some m') : m' ≤ 20 := by
  rw [conv_eq f d m hd hm] at h
  split at h
  · cases h; omega
  · cases h
end Go.Proofs.YtmmjeokmoffdpaaGreat

namespace Go.Proofs.YtmmjeokmoffdpaaGreat
set_option linter.unusedVariables false
open Go.RowKit

set_option maxHeartbeats 400000 in
theorem findS0_any (a : Option Addr) (n c : Nat) (fs : List Fl) (x : ByteArray) (w : World) (hf : FilesAt w w.heap.size a n fs) (hn : n ≤ maxLen) :
    Calls Tryz.prog 41 #[.slice a n c, .string x] w fun e w' => e = .returned (.tuple #[.string (findF fs x).1, .bool (findF fs x).2]) ∧ Below w.heap.size w w' := by
  unfold maxLen at hn
  have hlen := Lib.hid hf.1
  go_enter Tryz.func41, Tryz.ntmps41
  go_wp2
  go_loopw [6] (fun i wr => ∃ k : Nat, k ≤ n ∧ i = .int .i64 k ∧ notTo fs x k ∧ Below w.heap.size w wr) (fun i _ => n - (intOf i).toNat)
  case atStart => exact ⟨0, Nat.zero_le _, rfl, notTo_zero _ _, Below.refl _ _⟩
  case round =>
    obtain ⟨k, hk, rfl, hno, hB⟩ := hrel
    have Hno := Lib.hid hno; clear hno
    by_cases hlt : k < n
    · obtain ⟨b, off, p, t, rfl, hb, hg, hc1, hc2⟩ := (hf.below hB).get hlt
      have Hg := Lib.hid hg; clear hg
      by_cases hpx : p = x
      · subst hpx
        go_wp2
        go_ret2
        exact ⟨by rw [findF_at Hno.out Hg.out]; rfl, hB⟩
      · have hd : (p.toList == x.toList) = false := by rw [sEq]; simpa using hpx
        have Hpx := Lib.hid hpx; clear hpx
        go_wp2
        go_roundw
        case rel => exact ⟨k + 1, by omega, by go_num, notTo_step Hno.out Hg.out Hpx.out, hB⟩
        case measure => simp [intOf]; omega
    · have e : n = k := by omega
      have Hall := Lib.hid (notTo_all hlen.out (e ▸ Hno.out)); clear e
      go_wp2
      go_ret2
      exact ⟨by rw [Hall.out]; rfl, hB⟩

set_option maxHeartbeats 400000 in
theorem findI_any (a : Option Addr) (n c : Nat) (fs : List Fl) (x : ByteArray) (w : World) (hf : FilesAt w w.heap.size a n fs) (hn : n ≤ maxLen) :
    Calls Tryz.prog 59 #[.slice a n c, .string x] w fun e w' => e = .returned (.tuple #[.string (findF fs x).1, .bool (findF fs x).2]) ∧ Below w.heap.size w w' := by
  unfold maxLen at hn
  have hlen := Lib.hid hf.1
  go_enter Tryz.func59, Tryz.ntmps59
  go_wp2
  go_loopw [10] (fun i wr => ∃ k : Nat, k ≤ n ∧ i = .int .i64 k ∧ notTo fs x k ∧ Below w.heap.size w wr) (fun i _ => n - (intOf i).toNat)
  case atStart => exact ⟨0, Nat.zero_le _, rfl, notTo_zero _ _, Below.refl _ _⟩
  case round =>
    obtain ⟨k, hk, rfl, hno, hB⟩ := hrel
    have Hno := Lib.hid hno; clear hno
    by_cases hlt : k < n
    · obtain ⟨b, off, p, t, rfl, hb, hg, hc1, hc2⟩ := (hf.below hB).get hlt
      have Hg := Lib.hid hg; clear hg
      by_cases hpx : p = x
      · subst hpx
        go_wp2
        go_ret2
        exact ⟨by rw [findF_at Hno.out Hg.out]; rfl, hB.alloc hB.size _⟩
      · have hd : (p.toList == x.toList) = false := by rw [sEq]; simpa using hpx
        have Hpx := Lib.hid hpx; clear hpx
        go_wp2
        go_roundw
        case rel => exact ⟨k + 1, by omega, by go_num, notTo_step Hno.out Hg.out Hpx.out, hB.alloc hB.size _⟩
        case measure => simp [intOf]; omega
    · have e : n = k := by omega
      have Hall := Lib.hid (notTo_all hlen.out (e ▸ Hno.out)); clear e
      go_wp2
      go_ret2
      exact ⟨by rw [Hall.out]; rfl, hB⟩
end Go.Proofs.YtmmjeokmoffdpaaGreat

namespace Go.Proofs.YtmmjeokmoffdpaaGreat
set_option linter.unusedVariables false
open Go.RowKit

/-- a test of each of the first numbers -/
def allTo (p : Nat → Bool) (n : Nat) : Bool := (List.range n).all p
theorem allTo_succ (p : Nat → Bool) (n : Nat) : allTo p (n + 1) = (allTo p n && p n) := by simp [allTo, List.range_succ]
theorem allTo_step {p : Nat → Bool} {n : Nat} (h : allTo p n = true) (h2 : p n = true) : allTo p (n + 1) = true := by rw [allTo_succ, h, h2]; rfl
theorem allTo_false {p : Nat → Bool} {k n : Nat} (hk : k < n) (h : p k = false) : allTo p n = false := by
  unfold allTo
  rw [List.all_eq_false]
  exact ⟨k, List.mem_range.2 hk, by simp [h]⟩
theorem allTo_and (p q : Nat → Bool) (n : Nat) : allTo (fun j => p j && q j) n = (allTo p n && allTo q n) := by
  induction n with
  | zero => rfl
  | succ n ih => rw [allTo_succ, allTo_succ, allTo_succ, ih]; cases allTo p n <;> cases allTo q n <;> cases p n <;> cases q n <;> rfl
/-- the rule at a place -/
def ruGet (rs : List Ru) (j : Nat) : Ru := (rs[j]?).getD (.empty, 0, .empty, .nil)
theorem ruGet_of {rs : List Ru} {j : Nat} {x : Ru} (h : rs[j]? = some x) : ruGet rs j = x := by unfold ruGet; rw [h]; rfl
/-- its target is greater than the one before -/
def ascAt (rs : List Ru) (j : Nat) : Bool := decide (j = 0) || sLess (ruGet rs (j - 1)).1 (ruGet rs j).1
/-- its target is a path and its body is valid -/
def bodyAt (rs : List Ru) (j : Nat) : Bool := pathB (ruGet rs j).1 && validE (ruGet rs j).2.1 (ruGet rs j).2.2.1 (ruGet rs j).2.2.2
/-- its target is no source -/
def freeAt (fs : List Fl) (rs : List Ru) (j : Nat) : Bool := !(findF fs (ruGet rs j).1).2
/-- what l3Rules answers -/
def rulesB (rs : List Ru) : Bool := allTo (fun j => ascAt rs j && bodyAt rs j) rs.length && decide (rs.length ≤ 10)
/-- what ProjectValid answers -/
def projB (fs : List Fl) (rs : List Ru) : Bool := validB fs && rulesB rs && allTo (freeAt fs rs) rs.length
theorem projB_each (fs : List Fl) (rs : List Ru) : projB fs rs = (validB fs && decide (rs.length ≤ 10) && allTo (fun j => (ascAt rs j && bodyAt rs j) && freeAt fs rs j) rs.length) := by
  unfold projB rulesB
  rw [allTo_and (fun j => ascAt rs j && bodyAt rs j)]
  cases validB fs <;> cases allTo (fun j => ascAt rs j && bodyAt rs j) rs.length <;> cases decide (rs.length ≤ 10) <;> rfl
end Go.Proofs.YtmmjeokmoffdpaaGreat

namespace Go.Proofs.YtmmjeokmoffdpaaGreat
open Go.RowKit Go.Maps Go.Sort Go.Shelf

def lyKeysR_ren : Go.Shelf.Ren := ⟨fun | 7 => 48 | 10 => 68 | n => n, fun | 23 => 64 | 26 => 9 | 3 => 42 | 28 => 89 | 0 => 0 | 27 => 88 | 33 => 95 | 4 => 4 | n => n, fun | n => n⟩
theorem lyKeysR : Go.Proofs.SlLaysZ.n7 Tryz.prog lyKeysR_ren := {
  mixed := by kernel_rfl
  f7 := ⟨Tryz.f48.name, by decide, Tryz.func48.trans (congrArg some (by kernel_rfl))⟩
  f10 := ⟨Tryz.f68.name, by decide, Tryz.func68.trans (congrArg some (by kernel_rfl))⟩
  t0 := Tryz.underlying0
  a0 := Tryz.isAgg0
  z0 := Tryz.sizeOf0
  v0 := Tryz.zeroValue0
  t4 := Tryz.underlying4
  a4 := Tryz.isAgg4
  z4 := Tryz.sizeOf4
  v4 := Tryz.zeroValue4
  t23 := Tryz.underlying64
  a23 := Tryz.isAgg64
  z23 := Tryz.sizeOf64
  v23 := Tryz.zeroValue64
  t26 := Tryz.underlying9
  a26 := Tryz.isAgg9
  z26 := Tryz.sizeOf9
  v26 := Tryz.zeroValue9
  t27 := Tryz.underlying88
  a27 := Tryz.isAgg88
  z27 := Tryz.sizeOf88
  v27 := Tryz.zeroValue88
  t28 := Tryz.underlying89
  a28 := Tryz.isAgg89
  z28 := Tryz.sizeOf89
  v28 := Tryz.zeroValue89
  t33 := Tryz.underlying95
  a33 := Tryz.isAgg95
  z33 := Tryz.sizeOf95
  v33 := Tryz.zeroValue95 }
def lySorted_ren : Go.Shelf.Ren := ⟨fun | 6 => 47 | 8 => 66 | 9 => 67 | 11 => 75 | 13 => 77 | 12 => 76 | 23 => 91 | 24 => 92 | 14 => 82 | 15 => 83 | 16 => 84 | 17 => 85 | 18 => 86 | 19 => 87 | 20 => 88 | 21 => 89 | 22 => 90 | 25 => 95 | 26 => 96 | 27 => 97 | 28 => 98 | 29 => 99 | 30 => 100 | 31 => 103 | n => n, fun | 26 => 9 | 28 => 89 | 24 => 86 | 0 => 0 | 3 => 3 | 37 => 113 | 48 => 128 | 50 => 130 | 4 => 4 | 40 => 120 | 39 => 119 | 45 => 125 | 5 => 5 | 9 => 9 | 51 => 135 | 55 => 139 | 57 => 149 | 58 => 150 | 33 => 95 | n => n, fun | n => n⟩
theorem lySorted : Go.Proofs.SlLaysZ.n6 Tryz.prog lySorted_ren := {
  mixed := by kernel_rfl
  f6 := ⟨Tryz.f47.name, by decide, Tryz.func47.trans (congrArg some (by kernel_rfl))⟩
  f8 := ⟨Tryz.f66.name, by decide, Tryz.func66.trans (congrArg some (by kernel_rfl))⟩
  f11 := ⟨Tryz.f75.name, by decide, Tryz.func75.trans (congrArg some (by kernel_rfl))⟩
  t0 := Tryz.underlying0
  a0 := Tryz.isAgg0
  z0 := Tryz.sizeOf0
  v0 := Tryz.zeroValue0
  t24 := Tryz.underlying86
  a24 := Tryz.isAgg86
  z24 := Tryz.sizeOf86
  v24 := Tryz.zeroValue86
  t26 := Tryz.underlying9
  a26 := Tryz.isAgg9
  z26 := Tryz.sizeOf9
  v26 := Tryz.zeroValue9
  t28 := Tryz.underlying89
  a28 := Tryz.isAgg89
  z28 := Tryz.sizeOf89
  v28 := Tryz.zeroValue89
  i26 := by kernel_rfl }
def lySort_ren : Go.Shelf.Ren := ⟨fun | 6 => 67 | 8 => 77 | 9 => 76 | 19 => 91 | 20 => 92 | 21 => 82 | 22 => 83 | 23 => 84 | 24 => 85 | 25 => 86 | 26 => 87 | 27 => 88 | 28 => 89 | 29 => 90 | 36 => 95 | 31 => 96 | 32 => 97 | 37 => 98 | 38 => 99 | 39 => 100 | 41 => 103 | n => n, fun | 27 => 86 | 29 => 9 | 3 => 3 | 32 => 113 | 26 => 86 | 0 => 0 | 44 => 128 | 46 => 130 | 4 => 4 | 36 => 120 | 35 => 119 | 41 => 125 | 5 => 5 | 9 => 9 | 53 => 135 | 57 => 139 | 63 => 149 | 64 => 150 | n => n, fun | n => n⟩
theorem lySort : Go.Proofs.SlLaysM.n6 Tryz.prog lySort_ren := {
  mixed := by kernel_rfl
  f6 := ⟨Tryz.f67.name, by decide, Tryz.func67.trans (congrArg some (by kernel_rfl))⟩
  f8 := Tryz.func77.trans (congrArg some (by kernel_rfl))
  f9 := ⟨Tryz.f76.name, by decide, Tryz.func76.trans (congrArg some (by kernel_rfl))⟩
  f19 := Tryz.func91.trans (congrArg some (by kernel_rfl))
  f20 := Tryz.func92.trans (congrArg some (by kernel_rfl))
  f21 := ⟨Tryz.f82.name, by decide, Tryz.func82.trans (congrArg some (by kernel_rfl))⟩
  f22 := ⟨Tryz.f83.name, by decide, Tryz.func83.trans (congrArg some (by kernel_rfl))⟩
  f23 := ⟨Tryz.f84.name, by decide, Tryz.func84.trans (congrArg some (by kernel_rfl))⟩
  f24 := ⟨Tryz.f85.name, by decide, Tryz.func85.trans (congrArg some (by kernel_rfl))⟩
  f25 := ⟨Tryz.f86.name, by decide, Tryz.func86.trans (congrArg some (by kernel_rfl))⟩
  f26 := ⟨Tryz.f87.name, by decide, Tryz.func87.trans (congrArg some (by kernel_rfl))⟩
  f27 := ⟨Tryz.f88.name, by decide, Tryz.func88.trans (congrArg some (by kernel_rfl))⟩
  f28 := ⟨Tryz.f89.name, by decide, Tryz.func89.trans (congrArg some (by kernel_rfl))⟩
  f29 := ⟨Tryz.f90.name, by decide, Tryz.func90.trans (congrArg some (by kernel_rfl))⟩
  f31 := Tryz.func96.trans (congrArg some (by kernel_rfl))
  f32 := Tryz.func97.trans (congrArg some (by kernel_rfl))
  f36 := ⟨Tryz.f95.name, by decide, Tryz.func95.trans (congrArg some (by kernel_rfl))⟩
  f37 := ⟨Tryz.f98.name, by decide, Tryz.func98.trans (congrArg some (by kernel_rfl))⟩
  f38 := ⟨Tryz.f99.name, by decide, Tryz.func99.trans (congrArg some (by kernel_rfl))⟩
  f39 := ⟨Tryz.f100.name, by decide, Tryz.func100.trans (congrArg some (by kernel_rfl))⟩
  f41 := ⟨Tryz.f103.name, by decide, Tryz.func103.trans (congrArg some (by kernel_rfl))⟩
  t0 := Tryz.underlying0
  a0 := Tryz.isAgg0
  z0 := Tryz.sizeOf0
  v0 := Tryz.zeroValue0
  t3 := Tryz.underlying3
  a3 := Tryz.isAgg3
  z3 := Tryz.sizeOf3
  v3 := Tryz.zeroValue3
  t4 := Tryz.underlying4
  a4 := Tryz.isAgg4
  z4 := Tryz.sizeOf4
  v4 := Tryz.zeroValue4
  t5 := Tryz.underlying5
  a5 := Tryz.isAgg5
  z5 := Tryz.sizeOf5
  v5 := Tryz.zeroValue5
  t9 := Tryz.underlying9
  a9 := Tryz.isAgg9
  z9 := Tryz.sizeOf9
  v9 := Tryz.zeroValue9
  t26 := Tryz.underlying86
  a26 := Tryz.isAgg86
  z26 := Tryz.sizeOf86
  v26 := Tryz.zeroValue86
  t27 := Tryz.underlying86
  a27 := Tryz.isAgg86
  z27 := Tryz.sizeOf86
  v27 := Tryz.zeroValue86
  t29 := Tryz.underlying9
  a29 := Tryz.isAgg9
  z29 := Tryz.sizeOf9
  v29 := Tryz.zeroValue9
  t32 := Tryz.underlying113
  a32 := Tryz.isAgg113
  z32 := Tryz.sizeOf113
  v32 := Tryz.zeroValue113
  t35 := Tryz.underlying119
  a35 := Tryz.isAgg119
  z35 := Tryz.sizeOf119
  v35 := Tryz.zeroValue119
  t36 := Tryz.underlying120
  a36 := Tryz.isAgg120
  z36 := Tryz.sizeOf120
  v36 := Tryz.zeroValue120
  t41 := Tryz.underlying125
  a41 := Tryz.isAgg125
  z41 := Tryz.sizeOf125
  v41 := Tryz.zeroValue125
  t44 := Tryz.underlying128
  a44 := Tryz.isAgg128
  z44 := Tryz.sizeOf128
  v44 := Tryz.zeroValue128
  t46 := Tryz.underlying130
  a46 := Tryz.isAgg130
  z46 := Tryz.sizeOf130
  v46 := Tryz.zeroValue130
  t53 := Tryz.underlying135
  a53 := Tryz.isAgg135
  z53 := Tryz.sizeOf135
  v53 := Tryz.zeroValue135
  t57 := Tryz.underlying139
  a57 := Tryz.isAgg139
  z57 := Tryz.sizeOf139
  v57 := Tryz.zeroValue139
  t63 := Tryz.underlying149
  a63 := Tryz.isAgg149
  z63 := Tryz.sizeOf149
  v63 := Tryz.zeroValue149
  t64 := Tryz.underlying150
  a64 := Tryz.isAgg150
  z64 := Tryz.sizeOf150
  v64 := Tryz.zeroValue150 }
theorem sorts_in_ (m : Nat) : AnyZ.SortsIn Tryz.prog lySorted_ren Fence.wide m :=
  ⟨fun blk off cap ss W hH hblk hsz => callsIn_wide.2 (AnyM.slices_Sort_string lySort blk off cap ss W hH hblk hsz),
   fun p cap W => callsIn_wide.2 (AnyM.slices_Sort_string_none lySort p cap W)⟩

theorem keys_in_R (mb : Option Nat) (W : World) : CallsIn Fence.wide 5 Tryz.prog 48 #[.map mb] W fun e w' => e = .returned (.func (.func 68) #[] #[.pointer (some ⟨W.heap.size, 0, none⟩)]) ∧ w' = W.alloc (.cells #[.map mb] 64) :=
  AnyZ.keys_in lyKeysR Fence.wide 5 trivial rfl mb W

set_option maxHeartbeats 1000000 in
theorem sorted_in_R {H : Type} (b nn : Nat) (D0 : DataW H) (R : Value → Option (DataW H × List MemPlace)) (w : World) (hown : w.ownsMap Tryz.prog 9 R b nn D0) (hmax : Maps.size D0 ≤ maxLen) (hbytes : Maps.size D0 * 16 ≤ 140737488355328) :
    CallsIn Fence.wide 5 Tryz.prog 47 #[.func (.func 68) #[] #[.pointer (some ⟨w.heap.size, 0, none⟩)]] (w.alloc (.cells #[.map (some b)] 64)) fun e w' => ∃ (v : Value) (ss : List (List UInt8)), e = .returned v ∧ ss.Perm (strKeys D0) ∧
      w'.ownsRow (w.alloc (.cells #[.map (some b)] 64)).heap.size 9 1 v ss.length ((ss.mergeSort (fun x y => decide (x ≤ y))).map encStr) ∧ (v = .slice none 0 0 ↔ ss = []) ∧ Below (w.alloc (.cells #[.map (some b)] 64)).heap.size (w.alloc (.cells #[.map (some b)] 64)) w' := by
  have hbl := hown.lt
  have hseq : SeqGives Fence.wide 2 Tryz.prog 68 #[.pointer (some ⟨w.heap.size, 0, none⟩)] encStr (fun ss => ss.Perm (strKeys D0)) (Maps.size D0) (w.alloc (.cells #[.map (some b)] 64)) :=
    AnyZ.keys_gives (ρ := lyKeysR_ren) { lyKeysR with } Fence.wide _ trivial rfl (by omega) w.heap.size b nn D0 _ (by simp) (by simp) (by
      obtain ⟨es, clock, hb, Ft, hs, hD⟩ := hown
      exact ⟨es, clock, (Below.heap_alloc _ _ b hbl).trans hb, Ft, hs, hD⟩)
  exact AnyZ.sorted_in lySorted Fence.wide 5 trivial trivial trivial trivial rfl (by omega) (sorts_in_ _) (enters_of Tryz.func67 (by kernel_rfl) rfl) 68 #[.pointer (some ⟨w.heap.size, 0, none⟩)] trivial (enters_of Tryz.func68 (by kernel_rfl) rfl) _ _ hmax hbytes _ hseq


theorem keysR_any (mb : Option Nat) (W : World) : Calls Tryz.prog 48 #[.map mb] W fun e w' => e = .returned (.func (.func 68) #[] #[.pointer (some ⟨W.heap.size, 0, none⟩)]) ∧ w' = W.alloc (.cells #[.map mb] 64) :=
  callsIn_wide.1 (keys_in_R mb W)
theorem sortedR_any {H : Type} (b nn : Nat) (D0 : DataW H) (R : Value → Option (DataW H × List MemPlace)) (w : World) (hown : w.ownsMap Tryz.prog 9 R b nn D0) (hmax : Maps.size D0 ≤ maxLen) (hbytes : Maps.size D0 * 16 ≤ 140737488355328) :
    Calls Tryz.prog 47 #[.func (.func 68) #[] #[.pointer (some ⟨w.heap.size, 0, none⟩)]] (w.alloc (.cells #[.map (some b)] 64)) fun e w' => ∃ (v : Value) (ss : List (List UInt8)), e = .returned v ∧ ss.Perm (strKeys D0) ∧
      w'.ownsRow (w.alloc (.cells #[.map (some b)] 64)).heap.size 9 1 v ss.length ((ss.mergeSort (fun x y => decide (x ≤ y))).map encStr) ∧ (v = .slice none 0 0 ↔ ss = []) ∧ Below (w.alloc (.cells #[.map (some b)] 64)).heap.size (w.alloc (.cells #[.map (some b)] 64)) w' :=
  callsIn_wide.1 (sorted_in_R b nn D0 R w hown hmax hbytes)

end Go.Proofs.YtmmjeokmoffdpaaGreat

namespace Go.Proofs.YtmmjeokmoffdpaaGreat
set_option linter.unusedVariables false
open Go.RowKit Go.Maps

/-! ### the order of strings -/
theorem sLess_lt (a b : ByteArray) : sLess a b = decide (a.data.toList < b.data.toList) := by
  unfold sLess
  rw [Lib.toList_data, Lib.toList_data]
  generalize a.data.toList = x
  generalize b.data.toList = y
  induction x generalizing y with
  | nil => cases y with
    | nil => simp [Op.bytesLess]
    | cons b bs => simp [Op.bytesLess]
  | cons a ts ih =>
    cases y with
    | nil => simp [Op.bytesLess]
    | cons b bs =>
      rw [Op.bytesLess, ih bs]
      by_cases h1 : a < b
      · simp [h1, List.cons_lt_cons_iff]
      · by_cases h2 : a = b
        · subst h2; simp
        · simp [h1, h2, List.cons_lt_cons_iff]
theorem sLess_iff {a b : ByteArray} : sLess a b = true ↔ a.data.toList < b.data.toList := by rw [sLess_lt]; simp
theorem bytes_ext {a b : ByteArray} (h : a.data.toList = b.data.toList) : a = b := WideShapes.bytes_inj h
theorem sLess_irrefl (a : ByteArray) : sLess a a = false := by rw [sLess_lt]; simp
theorem sLess_trans {a b c : ByteArray} (h1 : sLess a b = true) (h2 : sLess b c = true) : sLess a c = true := by
  rw [sLess_iff] at *; exact List.lt_trans h1 h2
theorem sLess_total {a b : ByteArray} (h : sLess a b = false) (hne : a ≠ b) : sLess b a = true := by
  rw [sLess_lt, decide_eq_false_iff_not] at h
  rw [sLess_iff]
  have h2 : b.data.toList ≤ a.data.toList := h
  rcases List.le_iff_lt_or_eq.1 h2 with h3 | h3
  · exact h3
  · exact absurd (bytes_ext h3.symm) hne
theorem sLess_ne {a b : ByteArray} (h : sLess a b = true) : a ≠ b := by rintro rfl; rw [sLess_irrefl] at h; cases h
theorem sLess_asymm {a b : ByteArray} (h : sLess a b = true) : sLess b a = false := by
  cases h2 : sLess b a
  · rfl
  · have := sLess_trans h h2; rw [sLess_irrefl] at this; cases this
theorem leB_iff {a b : ByteArray} : leB a.data.toList b.data.toList = !sLess b a := by
  rw [sLess_lt]
  generalize a.data.toList = x
  generalize b.data.toList = y
  show decide (x ≤ y) = _
  by_cases h : y < x
  · rw [decide_eq_true h, decide_eq_false (fun hle : x ≤ y => hle h)]; rfl
  · rw [decide_eq_false h, decide_eq_true (show x ≤ y from h)]; rfl

/-! ### lists in order -/
/-- the paths ascend -/
def Asc (fs : List Fl) : Prop := fs.Pairwise fun a b => sLess a.1 b.1 = true
/-- no path stands twice -/
def Once (fs : List Fl) : Prop := fs.Pairwise fun a b => a.1 ≠ b.1
theorem Asc.once {fs : List Fl} (h : Asc fs) : Once fs := h.imp fun h => sLess_ne h
theorem Once.perm {fs gs : List Fl} (h : Once fs) (hp : fs.Perm gs) : Once gs := (hp.pairwise_iff (fun {_ _} hne => Ne.symm hne)).1 h
theorem Once.filter {fs : List Fl} (h : Once fs) (q : Fl → Bool) : Once (fs.filter q) := List.Pairwise.filter q h
theorem Asc.filter {fs : List Fl} (h : Asc fs) (q : Fl → Bool) : Asc (fs.filter q) := List.Pairwise.filter q h
theorem Once.inj {fs : List Fl} (h : Once fs) {f g : Fl} (hf : f ∈ fs) (hg : g ∈ fs) (he : f.1 = g.1) : f = g := by
  induction fs with
  | nil => cases hf
  | cons x fs ih =>
    obtain ⟨h1, h2⟩ := List.pairwise_cons.1 h
    rcases List.mem_cons.1 hf with e1 | m1 <;> rcases List.mem_cons.1 hg with e2 | m2
    · rw [e1, e2]
    · subst e1; exact absurd he (h1 _ m2)
    · subst e2; exact absurd he.symm (h1 _ m1)
    · exact ih h2 m1 m2
/-- two ascending lists that hold the same files are one -/
theorem Asc.eq {fs gs : List Fl} (h1 : Asc fs) (h2 : Asc gs) (hp : fs.Perm gs) : fs = gs :=
  List.Perm.eq_of_pairwise (le := fun a b : Fl => sLess a.1 b.1 = true) (fun a b _ _ h h' => by rw [sLess_asymm h] at h'; cases h') h1 h2 hp

/-- one put in, in whatever place -/
def putU (f : Fl) (fs : List Fl) : List Fl := f :: fs.filter fun g => decide (g.1 ≠ f.1)
/-- one struck out -/
def delU (p : ByteArray) (fs : List Fl) : List Fl := fs.filter fun g => decide (g.1 ≠ p)
theorem putU_once {f : Fl} {fs : List Fl} (h : Once fs) : Once (putU f fs) :=
  List.pairwise_cons.2 ⟨fun g hg => by have := (List.mem_filter.1 hg).2; simp at this; exact fun e => this e.symm, h.filter _⟩
theorem putU_perm {f : Fl} {fs gs : List Fl} (h : fs.Perm gs) : (putU f fs).Perm (putU f gs) := (h.filter _).cons _
theorem delU_perm {p : ByteArray} {fs gs : List Fl} (h : fs.Perm gs) : (delU p fs).Perm (delU p gs) := h.filter _
theorem putU_new {f : Fl} {fs : List Fl} (h : ∀ g ∈ fs, g.1 ≠ f.1) : (putU f fs).Perm (fs ++ [f]) := by
  unfold putU
  rw [List.filter_eq_self.2 fun g hg => by simpa using h g hg]
  exact (List.perm_append_singleton f fs).symm
theorem mem_putU {f g : Fl} {fs : List Fl} : g ∈ putU f fs ↔ g = f ∨ (g ∈ fs ∧ g.1 ≠ f.1) := by simp [putU]
theorem mem_delU {p : ByteArray} {g : Fl} {fs : List Fl} : g ∈ delU p fs ↔ g ∈ fs ∧ g.1 ≠ p := by simp [delU]

/-- the files in the order of their paths -/
def srtF (fs : List Fl) : List Fl := fs.mergeSort fun a b => leB a.1.data.toList b.1.data.toList
theorem leB_trans (a b c : List UInt8) (h1 : leB a b = true) (h2 : leB b c = true) : leB a c = true := by simp only [leB, decide_eq_true_eq] at *; exact List.le_trans h1 h2
theorem leB_total (a b : List UInt8) : (leB a b || leB b a) = true := by simp only [leB, Bool.or_eq_true, decide_eq_true_eq]; exact List.le_total a b
theorem srtF_perm (fs : List Fl) : (srtF fs).Perm fs := List.mergeSort_perm _ _
theorem srtF_pw (fs : List Fl) : (srtF fs).Pairwise fun a b => leB a.1.data.toList b.1.data.toList = true :=
  List.pairwise_mergeSort (le := fun a b : Fl => leB a.1.data.toList b.1.data.toList) (fun a b c => leB_trans a.1.data.toList b.1.data.toList c.1.data.toList) (fun a b => leB_total a.1.data.toList b.1.data.toList) fs
theorem srtF_asc {fs : List Fl} (h : Once fs) : Asc (srtF fs) := by
  have h1 : (srtF fs).Pairwise fun a b => leB a.1.data.toList b.1.data.toList = true := srtF_pw fs
  have h2 : Once (srtF fs) := h.perm (srtF_perm fs).symm
  refine (h1.and h2).imp ?_
  rintro a b ⟨hle, hne⟩
  rw [leB_iff] at hle
  exact sLess_total (by simpa using hle) (fun e => hne e.symm)
theorem srtF_eq {fs gs : List Fl} (h : Once fs) (hp : fs.Perm gs) (ha : Asc gs) : srtF fs = gs := (srtF_asc h).eq ha ((srtF_perm fs).trans hp)
theorem srtF_keys {fs : List Fl} {ss : List (List UInt8)} (hp : ss.Perm (fs.map fun f => f.1.data.toList)) : ss.mergeSort (fun x y => decide (x ≤ y)) = (srtF fs).map fun f => f.1.data.toList := by
  refine List.Perm.eq_of_pairwise (le := fun a b => leB a b = true) (fun a b _ _ h1 h2 => ?_) (List.pairwise_mergeSort leB_trans leB_total ss) ?_ (((List.mergeSort_perm ss _).trans hp).trans ((srtF_perm fs).symm.map _))
  · simp only [leB, decide_eq_true_eq] at h1 h2
    exact List.le_antisymm h1 h2
  · exact List.pairwise_map.2 (srtF_pw fs)

/-! ### a map as read -/
section
variable {H : Type}
def ent (f : Fl) : Lit × DataW H := (.string f.1.data.toList, .lit (.string f.2.data.toList))
/-- the map D holds just the files of gs -/
def Rep (D : DataW H) (gs : List Fl) : Prop := ∃ es, D = .map es ∧ es.Perm (gs.map ent) ∧ Once gs
theorem rep_empty : Rep (.map [] : DataW H) [] := ⟨[], rfl, .nil, List.Pairwise.nil⟩
theorem Rep.once {D : DataW H} {gs : List Fl} (h : Rep D gs) : Once gs := let ⟨_, _, _, h⟩ := h; h
theorem Rep.perm {D : DataW H} {gs hs : List Fl} (h : Rep D gs) (hp : gs.Perm hs) : Rep D hs := by
  obtain ⟨es, rfl, h1, h2⟩ := h
  exact ⟨es, rfl, h1.trans (hp.map _), h2.perm hp⟩
theorem insert_perm (x : Lit × DataW H) : ∀ l : List (Lit × DataW H), (DataW.insert x l).Perm (x :: l)
  | [] => .refl _
  | y :: r => by
    unfold DataW.insert
    split
    · exact .refl _
    · exact ((insert_perm x r).cons y).trans (.swap x y r)
theorem sameKey_str (a b : List UInt8) : (Lit.string a).sameKey (.string b) = decide (a = b) := by
  by_cases h : a = b <;> simp [Lit.sameKey, h]
theorem ent_filter (p : ByteArray) (gs : List Fl) : ((gs.map ent : List (Lit × DataW H)).filter fun e => !e.1.sameKey (.string p.data.toList)) = (delU p gs).map ent := by
  unfold delU
  rw [List.filter_map]
  congr 1
  refine List.filter_congr fun g _ => ?_
  show (!(Lit.string g.1.data.toList).sameKey _) = _
  rw [sameKey_str]
  by_cases h : g.1 = p
  · simp [h]
  · have : ¬ g.1.data.toList = p.data.toList := fun e => h (bytes_ext e)
    simp only [this, h, decide_false, Bool.not_false, ne_eq, not_false_eq_true, decide_true]
theorem Rep.put {D : DataW H} {gs : List Fl} (h : Rep D gs) (f : Fl) : Rep (D.put (.string f.1.data.toList) (.lit (.string f.2.data.toList))) (putU f gs) := by
  obtain ⟨es, rfl, h1, h2⟩ := h
  refine ⟨_, rfl, (insert_perm _ _).trans ?_, putU_once h2⟩
  have h3 := h1.filter fun e => !e.1.sameKey (.string f.1.data.toList)
  rw [ent_filter] at h3
  exact h3.cons _
theorem Rep.del {D : DataW H} {gs : List Fl} (h : Rep D gs) (p : ByteArray) : Rep (D.del (.string p.data.toList)) (delU p gs) := by
  obtain ⟨es, rfl, h1, h2⟩ := h
  refine ⟨_, rfl, ?_, h2.filter _⟩
  have h3 := h1.filter fun e => !e.1.sameKey (.string p.data.toList)
  rwa [ent_filter] at h3
theorem Rep.keys {D : DataW H} {gs : List Fl} (h : Rep D gs) : (strKeys D).Perm (gs.map fun f => f.1.data.toList) := by
  obtain ⟨es, rfl, h1, _⟩ := h
  have := h1.map fun p : Lit × DataW H => strOf p.1
  rw [List.map_map] at this
  exact this
theorem Rep.size {D : DataW H} {gs : List Fl} (h : Rep D gs) : Maps.size D = gs.length := by
  obtain ⟨es, rfl, h1, _⟩ := h
  rw [size_eq, h1.length_eq, List.length_map]
theorem Rep.has {D : DataW H} {gs : List Fl} (h : Rep D gs) (p : ByteArray) : Maps.has D (.string p.data.toList) = gs.any fun g => decide (g.1 = p) := by
  obtain ⟨es, rfl, h1, _⟩ := h
  rw [has_eq, h1.any_eq, List.any_map]
  congr 1
  funext g
  show (Lit.string g.1.data.toList).sameKey (.string p.data.toList) = decide (g.1 = p)
  rw [sameKey_str]
  by_cases hg : g.1 = p
  · simp [hg]
  · have : ¬ g.1.data.toList = p.data.toList := fun e => hg (bytes_ext e)
    simp [hg, this]
theorem Rep.at_ {D : DataW H} {gs : List Fl} (h : Rep D gs) {p t : ByteArray} (hm : (p, t) ∈ gs) (z : DataW H) : D.atKey (.string p.data.toList) z = .lit (.string t.data.toList) := by
  obtain ⟨es, rfl, h1, h2⟩ := h
  show (match es.find? (fun e => e.1.sameKey (.string p.data.toList)) with | some e => e.2 | none => z) = _
  cases hf : es.find? (fun e => e.1.sameKey (.string p.data.toList)) with
  | none =>
    rw [List.find?_eq_none] at hf
    have := hf (ent (p, t)) (h1.mem_iff.2 (List.mem_map.2 ⟨_, hm, rfl⟩))
    simp [ent, sameKey_str] at this
  | some e =>
    have hk := List.find?_some hf
    obtain ⟨g, hg, rfl⟩ := List.mem_map.1 (h1.mem_iff.1 (List.mem_of_find?_eq_some hf))
    simp [ent, sameKey_str] at hk
    obtain rfl : g = (p, t) := h2.inj hg hm (bytes_ext (by simpa using hk))
    rfl
end

/-! ### what valid lists are -/
theorem okTo_iff {fs : List Fl} {n : Nat} : okTo fs n = true ↔ ∀ k, k < n → okAt fs k = true := by
  unfold okTo
  rw [List.all_eq_true]
  exact ⟨fun h k hk => h k (by simpa using hk), fun h k hk => h k (by simpa using hk)⟩
theorem asc_of_next {fs : List Fl} (h : ∀ k p t q r, fs[k + 1]? = some (p, t) → fs[k]? = some (q, r) → sLess q p = true) : Asc fs := by
  induction fs with
  | nil => exact List.Pairwise.nil
  | cons x fs ih =>
    have hi := ih fun k p t q r h1 h2 => h (k + 1) p t q r (by simpa using h1) (by simpa using h2)
    refine List.pairwise_cons.2 ⟨fun y hy => ?_, hi⟩
    cases fs with
    | nil => cases hy
    | cons z fs =>
      have hz : sLess x.1 z.1 = true := h 0 z.1 z.2 x.1 x.2 rfl rfl
      rcases List.mem_cons.1 hy with rfl | hy
      · exact hz
      · exact sLess_trans hz ((List.pairwise_cons.1 hi).1 y hy)
theorem validB_iff {fs : List Fl} : validB fs = true ↔ fs.length ≤ 12 ∧ (∀ f ∈ fs, pathB f.1 = true ∧ textB f.2 = true) ∧ Asc fs := by
  unfold validB
  rw [Bool.and_eq_true, decide_eq_true_eq, okTo_iff]
  refine and_congr_right fun _ => ⟨fun h => ⟨fun f hf => ?_, asc_of_next fun k p t q r h1 h2 => ?_⟩, fun ⟨h1, h2⟩ k hk => ?_⟩
  · obtain ⟨k, hk⟩ := List.getElem?_of_mem hf
    have := h k (List.getElem?_eq_some_iff.1 hk).1
    unfold okAt at this
    rw [hk] at this
    simp only [Bool.and_eq_true] at this
    exact this.1
  · have := h (k + 1) (List.getElem?_eq_some_iff.1 h1).1
    unfold okAt at this
    rw [h1] at this
    simp only [h2, Bool.and_eq_true] at this
    exact this.2
  · have hg : fs[k]? = some (fs[k].1, fs[k].2) := List.getElem?_eq_getElem hk
    have hv := h1 fs[k] (List.getElem_mem _)
    cases k with
    | zero => exact okAt_zero hg hv.1 hv.2
    | succ k =>
      have hq : fs[k]? = some (fs[k].1, fs[k].2) := List.getElem?_eq_getElem (by omega)
      rw [okAt_succ hg hq hv.1 hv.2]
      exact (List.pairwise_iff_getElem.1 h2) k (k + 1) (by omega) hk (by omega)
theorem valid_asc {fs : List Fl} (h : validB fs = true) : Asc fs := (validB_iff.1 h).2.2

theorem findF_mem {fs : List Fl} (h : Once fs) {p t : ByteArray} (hm : (p, t) ∈ fs) : findF fs p = (t, true) := by
  induction fs with
  | nil => cases hm
  | cons x fs ih =>
    obtain ⟨h1, h2⟩ := List.pairwise_cons.1 h
    rw [findF]
    rcases List.mem_cons.1 hm with rfl | hm
    · simp
    · rw [if_neg (h1 _ hm)]
      exact ih h2 hm
theorem findF_not {fs : List Fl} {p : ByteArray} (h : ∀ g ∈ fs, g.1 ≠ p) : findF fs p = (.empty, false) :=
  findF_none fun j q t hj => h _ (List.mem_of_getElem? hj)
theorem findF_cases (fs : List Fl) (p : ByteArray) : ((∃ t, (p, t) ∈ fs ∧ findF fs p = (t, true)) ∨ ((∀ g ∈ fs, g.1 ≠ p) ∧ findF fs p = (.empty, false))) := by
  induction fs with
  | nil => exact .inr ⟨by simp, rfl⟩
  | cons x fs ih =>
    rw [findF]
    by_cases h : x.1 = p
    · rw [if_pos h]; exact .inl ⟨x.2, by rw [← h]; simp, rfl⟩
    · rw [if_neg h]
      rcases ih with ⟨t, hm, hf⟩ | ⟨hn, hf⟩
      · exact .inl ⟨t, List.mem_cons_of_mem _ hm, hf⟩
      · refine .inr ⟨fun g hg => ?_, hf⟩
        rcases List.mem_cons.1 hg with e | hg
        · rw [e]; exact h
        · exact hn g hg
end Go.Proofs.YtmmjeokmoffdpaaGreat

namespace Go.Proofs.YtmmjeokmoffdpaaGreat
set_option linter.unusedVariables false
open Go.RowKit

/-- a file put in at its place -/
def insF (f : Fl) : List Fl → List Fl
  | [] => [f]
  | x :: l => if sLess x.1 f.1 = true then x :: insF f l else putU f (x :: l)
theorem put_true (f : Fl) : ∀ (l acc : List Fl), l.foldl (putStep f) (acc, true) = (acc ++ l.filter (fun g => decide (g.1 ≠ f.1)), true)
  | [], acc => by simp
  | x :: l, acc => by
    rw [List.foldl_cons]
    by_cases h : x.1 = f.1
    · rw [show putStep f (acc, true) x = (acc, true) from by simp [putStep, h], put_true f l]
      simp [h]
    · rw [show putStep f (acc, true) x = (acc ++ [x], true) from by simp [putStep, h], put_true f l]
      simp [h]
theorem put_false (f : Fl) : ∀ (l acc : List Fl), (if (l.foldl (putStep f) (acc, false)).2 = true then (l.foldl (putStep f) (acc, false)).1 else (l.foldl (putStep f) (acc, false)).1 ++ [f]) = acc ++ insF f l
  | [], acc => by simp [insF]
  | x :: l, acc => by
    rw [List.foldl_cons, insF]
    by_cases h : sLess x.1 f.1 = true
    · have hne : ¬ x.1 = f.1 := sLess_ne h
      rw [show putStep f (acc, false) x = (acc ++ [x], false) from by simp [putStep, h, hne], put_false f l, if_pos h]
      simp
    · rw [if_neg h]
      have h' : sLess x.1 f.1 = false := by simpa using h
      by_cases hx : x.1 = f.1
      · rw [show putStep f (acc, false) x = (acc ++ [f], true) from by simp [putStep, hx, sLess_irrefl], put_true]
        simp [putU, hx]
      · rw [show putStep f (acc, false) x = (acc ++ [f] ++ [x], true) from by simp [putStep, h', hx], put_true]
        simp [putU, hx]
theorem putF_ins (f : Fl) (fs : List Fl) : putF f fs = insF f fs := by
  unfold putF putTo
  have := put_false f fs []
  simpa using this
theorem mem_insF {f g : Fl} {fs : List Fl} (h : g ∈ insF f fs) : g = f ∨ g ∈ fs := by
  induction fs with
  | nil => simp [insF] at h; exact .inl h
  | cons x l ih =>
    rw [insF] at h
    split at h
    · rcases List.mem_cons.1 h with rfl | h
      · exact .inr (by simp)
      · exact (ih h).imp id (List.mem_cons_of_mem _)
    · exact (mem_putU.1 h).imp id fun h => h.1
theorem insF_asc {f : Fl} {fs : List Fl} (h : Asc fs) : Asc (insF f fs) := by
  induction fs with
  | nil => exact List.pairwise_singleton _ _
  | cons x l ih =>
    obtain ⟨h1, h2⟩ := List.pairwise_cons.1 h
    rw [insF]
    split
    · rename_i hx
      refine List.pairwise_cons.2 ⟨fun y hy => ?_, ih h2⟩
      rcases mem_insF hy with rfl | hy
      · exact hx
      · exact h1 y hy
    · rename_i hx
      refine List.pairwise_cons.2 ⟨fun y hy => ?_, h.filter _⟩
      obtain ⟨hy1, hy2⟩ := List.mem_filter.1 hy
      have hne : y.1 ≠ f.1 := by simpa using hy2
      have hx' : sLess x.1 f.1 = false := by simpa using hx
      rcases List.mem_cons.1 hy1 with rfl | hy
      · exact sLess_total hx' hne
      · by_cases he : x.1 = f.1
        · rw [← he]; exact h1 y hy
        · exact sLess_trans (sLess_total hx' he) (h1 y hy)
theorem insF_perm {f : Fl} {fs : List Fl} (h : Asc fs) : (insF f fs).Perm (putU f fs) := by
  induction fs with
  | nil => exact .refl _
  | cons x l ih =>
    obtain ⟨h1, h2⟩ := List.pairwise_cons.1 h
    rw [insF]
    split
    · rename_i hx
      have hne : ¬ x.1 = f.1 := sLess_ne hx
      unfold putU
      rw [List.filter_cons_of_pos (by simpa using hne)]
      exact ((ih h2).cons x).trans (.swap f x _)
    · exact .refl _
theorem putF_asc {f : Fl} {fs : List Fl} (h : Asc fs) : Asc (putF f fs) := by rw [putF_ins]; exact insF_asc h
theorem putF_perm {f : Fl} {fs : List Fl} (h : Asc fs) : (putF f fs).Perm (putU f fs) := by rw [putF_ins]; exact insF_perm h
theorem srtF_put {f : Fl} {fs gs : List Fl} (h : Asc fs) (hp : gs.Perm (putU f fs)) : srtF gs = putF f fs :=
  srtF_eq ((putU_once h.once).perm hp.symm) (hp.trans (putF_perm h).symm) (putF_asc h)
theorem srtF_del {p : ByteArray} {fs gs : List Fl} (h : Asc fs) (hp : gs.Perm (delU p fs)) : srtF gs = delU p fs :=
  srtF_eq ((h.filter _).once.perm hp.symm) hp (h.filter _)

/-! ### putting and striking, together -/
section
variable {f g : Fl} {fs : List Fl}
theorem mem_putF (h : Asc fs) {x : Fl} : x ∈ putF f fs ↔ x = f ∨ (x ∈ fs ∧ x.1 ≠ f.1) := by
  rw [(putF_perm h).mem_iff, mem_putU]
theorem putU_twice_same (he : f.1 = g.1) : putU g (putU f fs) = putU g fs := by
  unfold putU
  rw [List.filter_cons_of_neg (by simp [he]), List.filter_filter]
  congr 2
  funext x
  simp [he]
theorem putF_twice (h : Asc fs) (he : f.1 = g.1) : putF g (putF f fs) = putF g fs := by
  refine (putF_asc (putF_asc h)).eq (putF_asc h) ?_
  have h1 := (putF_perm (f := g) (putF_asc (f := f) h)).trans (putU_perm (putF_perm h))
  rw [putU_twice_same he] at h1
  exact h1.trans (putF_perm h).symm
theorem putU_swap (he : f.1 ≠ g.1) : (putU g (putU f fs)).Perm (putU f (putU g fs)) := by
  unfold putU
  rw [List.filter_cons_of_pos (by simpa using he), List.filter_cons_of_pos (by simpa using he.symm), List.filter_filter, List.filter_filter]
  refine (List.Perm.swap _ _ _).trans ?_
  rw [show (fun x : Fl => decide (x.1 ≠ g.1) && decide (x.1 ≠ f.1)) = fun x : Fl => decide (x.1 ≠ f.1) && decide (x.1 ≠ g.1) from funext fun x => Bool.and_comm _ _]
theorem putF_swap (h : Asc fs) (he : f.1 ≠ g.1) : putF g (putF f fs) = putF f (putF g fs) := by
  refine (putF_asc (putF_asc h)).eq (putF_asc (putF_asc h)) ?_
  exact ((putF_perm (putF_asc h)).trans (putU_perm (putF_perm h))).trans ((putU_swap he).trans ((putU_perm (putF_perm h).symm).trans (putF_perm (putF_asc h)).symm))
theorem putF_len_same (h : Asc fs) (hm : ∃ x ∈ fs, x.1 = f.1) : (putF f fs).length = fs.length := by
  rw [(putF_perm h).length_eq]
  obtain ⟨x, hx, he⟩ := hm
  have : fs.Perm (x :: delU f.1 fs) := by
    refine (List.perm_ext_iff_of_nodup (h.once.imp fun hne e => hne (by rw [e])) ?_).2 fun y => ?_
    · exact List.nodup_cons.2 ⟨fun hd => (mem_delU.1 hd).2 he, ((h.filter _).once).imp fun hne e => hne (by rw [e])⟩
    · rw [List.mem_cons, mem_delU]
      constructor
      · intro hy
        by_cases hyf : y.1 = f.1
        · exact .inl (h.once.inj hy hx (by rw [hyf, he]))
        · exact .inr ⟨hy, hyf⟩
      · rintro (rfl | ⟨hy, _⟩)
        · exact hx
        · exact hy
  rw [this.length_eq]
  rfl
theorem putF_len_new (h : Asc fs) (hn : ∀ x ∈ fs, x.1 ≠ f.1) : (putF f fs).length = fs.length + 1 := by
  rw [(putF_perm h).length_eq, (putU_new hn).length_eq, List.length_append]; rfl
theorem putF_len (h : Asc fs) : fs.length ≤ (putF f fs).length ∧ (putF f fs).length ≤ fs.length + 1 := by
  by_cases hm : ∃ x ∈ fs, x.1 = f.1
  · rw [putF_len_same h hm]; omega
  · rw [putF_len_new h fun x hx e => hm ⟨x, hx, e⟩]; omega
/-- a list with one put in is valid just where it is not too long and the file is one -/
theorem valid_put (h : validB fs = true) : validB (putF f fs) = true ↔ ((putF f fs).length ≤ 12 ∧ pathB f.1 = true ∧ textB f.2 = true) := by
  obtain ⟨h1, h2, h3⟩ := validB_iff.1 h
  rw [validB_iff]
  refine and_congr_right fun _ => ⟨fun h4 => h4.1 f ((mem_putF h3).2 (.inl rfl)), fun h4 => ⟨fun x hx => ?_, putF_asc h3⟩⟩
  rcases (mem_putF h3).1 hx with rfl | ⟨hx, _⟩
  · exact h4
  · exact h2 x hx
theorem delU_put (h : Asc fs) (hn : ∀ x ∈ fs, x.1 ≠ f.1) : delU f.1 (putF f fs) = fs := by
  refine ((putF_asc h).filter _).eq h ?_
  refine (delU_perm (putF_perm h)).trans ?_
  unfold delU putU
  rw [List.filter_cons_of_neg (by simp), List.filter_filter, List.filter_eq_self.2 fun x hx => by simpa using hn x hx]
theorem put_delU (h : Asc fs) (hm : f ∈ fs) : putF f (delU f.1 fs) = fs := by
  have ha : Asc (delU f.1 fs) := h.filter _
  refine (putF_asc ha).eq h ?_
  refine (putF_perm ha).trans ?_
  refine (List.perm_ext_iff_of_nodup ((putU_once ha.once).imp fun hne e => hne (by rw [e])) (h.once.imp fun hne e => hne (by rw [e]))).2 fun y => ?_
  rw [mem_putU, mem_delU]
  constructor
  · rintro (rfl | ⟨⟨hy, _⟩, _⟩)
    · exact hm
    · exact hy
  · intro hy
    by_cases he : y.1 = f.1
    · exact .inl (h.once.inj hy hm he)
    · exact .inr ⟨⟨hy, he⟩, he⟩
theorem valid_del {p : ByteArray} (h : validB fs = true) : validB (delU p fs) = true := by
  obtain ⟨h1, h2, h3⟩ := validB_iff.1 h
  exact validB_iff.2 ⟨Nat.le_trans (List.length_filter_le _ _) h1, fun x hx => h2 x (mem_delU.1 hx).1, h3.filter _⟩
/-- what is found behind a put -/
theorem find_put (h : Asc fs) (p : ByteArray) : findF (putF f fs) p = if f.1 = p then (f.2, true) else findF fs p := by
  have ha := (putF_asc (f := f) h).once
  by_cases he : f.1 = p
  · subst he
    rw [if_pos rfl]
    exact findF_mem ha ((mem_putF h).2 (.inl rfl))
  · rw [if_neg he]
    rcases findF_cases fs p with ⟨t, hm, hf⟩ | ⟨hn, hf⟩
    · rw [hf]
      exact findF_mem ha ((mem_putF h).2 (.inr ⟨hm, fun e => he e.symm⟩))
    · rw [hf]
      refine findF_not fun x hx => ?_
      rcases (mem_putF h).1 hx with rfl | ⟨hx, _⟩
      · exact he
      · exact hn x hx
theorem find_del (p : ByteArray) : findF (delU p fs) p = (.empty, false) := findF_not fun x hx => (mem_delU.1 hx).2
end
end Go.Proofs.YtmmjeokmoffdpaaGreat

namespace Go.Proofs.YtmmjeokmoffdpaaGreat
set_option linter.unusedVariables false
open Go.RowKit Go.Maps

theorem mlaw : Keyed Tryz.prog 9 := string_keyed Tryz.underlying9
theorem mzero (w : World) : (zeroValue 9).run Tryz.prog w = .ok (.string .empty) w := by kernel_rfl

/-- block b is a map of at most n entries that holds just the files gs -/
def MapAt (w : World) (b n : Nat) (gs : List Fl) : Prop := ∃ D : DataW Unit, w.ownsMap Tryz.prog 9 (plainElem Tryz.prog 9) b n D ∧ Rep D gs
theorem MapAt.kept {w w' : World} {b n : Nat} {gs : List Fl} {row : Option Nat} (h : MapAt w b n gs) (hg : w.grownBy w' row) (hne : some b ≠ row) : MapAt w' b n gs := by
  obtain ⟨D, h1, h2⟩ := h
  exact ⟨D, h1.kept hg hne, h2⟩
theorem MapAt.alloc {w : World} {b n : Nat} {gs : List Fl} (h : MapAt w b n gs) (o : Obj) : MapAt (w.alloc o) b n gs := h.kept (World.grownBy_alloc w o none) (by simp)
theorem MapAt.perm {w : World} {b n : Nat} {gs hs : List Fl} (h : MapAt w b n gs) (hp : gs.Perm hs) : MapAt w b n hs := by
  obtain ⟨D, h1, h2⟩ := h
  exact ⟨D, h1, h2.perm hp⟩
theorem MapAt.lt {w : World} {b n : Nat} {gs : List Fl} (h : MapAt w b n gs) : b < w.heap.size := let ⟨_, h1, _⟩ := h; h1.lt
theorem MapAt.length {w : World} {b n : Nat} {gs : List Fl} (h : MapAt w b n gs) : gs.length ≤ n := by
  obtain ⟨D, h1, h2⟩ := h
  rw [← h2.size]; exact h1.size_le

/-- is a file with this path on the list? -/
def hasF (gs : List Fl) (x : ByteArray) : Bool := gs.any fun g => decide (g.1 = x)

theorem once_take {fs : List Fl} (h : Once fs) (k : Nat) : Once (fs.take k) := List.Pairwise.take h
theorem putU_take {fs : List Fl} {k : Nat} {p t : ByteArray} (h : Once fs) (hg : fs[k]? = some (p, t)) : (putU (p, t) (fs.take k)).Perm (fs.take (k + 1)) := by
  rw [List.take_add_one, hg]
  refine putU_new fun g hm => ?_
  have h2 := once_take h (k + 1)
  rw [List.take_add_one, hg] at h2
  exact (List.pairwise_append.1 h2).2.2 g hm (p, t) (by simp)

theorem run_makeMap_n {P : Program} (t k e : TypeId) (ht : P.underlying t = some (.map k e)) (n : Nat) (w : World) : (Instr.makeMap t (some (.int .i64 (n : Int)))).run P w = .ok (.map (some w.heap.size)) (w.alloc (.map #[] 0)) := by
  simp [Instr.makeMap, run_underlying ht, Result.andThen, asInt, newObj]
  rfl

theorem srtF_length (gs : List Fl) : (srtF gs).length = gs.length := (srtF_perm gs).length_eq
theorem keysF_length (gs : List Fl) : ((srtF gs).map fun f => encStr f.1.data.toList).length = gs.length := by rw [List.length_map, srtF_length]

theorem wpList_lookup_own_str {H : Type} {P : Program} (w : World) {ops : Array Oper} {rest : List Oper} {o : Oper} {a : Act} {Q : Exit → Act → World → Prop}
    (hg : o.guard = none) (m x : Operand) (t : TypeId) (hop : o.op = Op.lookup t m x false)
    (k e : TypeId) (K : Keyed P k) (ht : P.underlying t = some (.map k e)) (he : P.underlying e = some .string) (hz : (zeroValue e).run P w = .ok (.string .empty) w) (b n : Nat) (D : DataW H)
    (hm : a.eval m = .map (some b)) (hown : w.ownsMap P k (plainElem P e) b n D) (key : Value) (kl : Lit) (hx : a.eval x = key) (hkey : keyOf P k key = some kl) (s : ByteArray) (hs : ∀ z, D.atKey kl z = .lit (.string s.data.toList))
    (hK : wpList P ops Q rest (a.put o.dst (.string s)) w) : wpList P ops Q (o :: rest) a w := by
  refine wpList_plain hg fun K' hK' => ?_
  obtain ⟨v, ps, hrun, hv⟩ := hown.lookup K ht hz (plainElem_string he (s := .empty) (by simp [maxLen])) hkey
  obtain ⟨s', rfl, hc, _⟩ := plainElem_string_inv he hv
  rw [hs] at hc
  have h1 : (DataW.lit (.string s.data.toList) : DataW H) = .lit (.string s'.data.toList) := congrArg Prod.fst hc
  obtain rfl : s = s' := bytes_ext (by simpa using h1)
  unfold Oper.wp
  simp [execOp, hop, hm, hx, hrun, Result.andThen]
  exact hK' _ _ hK

theorem keysF_get {gs : List Fl} {k : Nat} {p t : ByteArray} (h : (srtF gs)[k]? = some (p, t)) : ((srtF gs).map (encStr ∘ fun f => f.1.data.toList))[k]? = some (.string p) := by
  rw [List.getElem?_map, h]
  simp [encStr]

theorem mapkeys_le {w : World} {b n : Nat} {gs : List Fl} {D : DataW Unit} (h : w.ownsMap Tryz.prog 9 (plainElem Tryz.prog 9) b n D) (hr : Rep D gs) : ∀ f ∈ gs, f.1.size ≤ maxLen := fun f hf => by
  have := strKeys_le h Tryz.underlying9 f.1.data.toList (hr.keys.mem_iff.2 (List.mem_map.2 ⟨f, hf, rfl⟩))
  rwa [Array.length_toList] at this
theorem mgrown_trans {w w' w'' : World} {row : Option Nat} (h : w.grownBy w' row) (k : w'.grownBy w'' row) : w.grownBy w'' row :=
  ⟨k.os.trans h.os, k.tape.trans h.tape, k.output.trans h.output, Nat.le_trans h.size k.size, fun i hi hne => (k.block i (Nat.lt_of_lt_of_le hi h.size) hne).trans (h.block i hi hne)⟩

theorem own_below {H : Type} {P : Program} {k : TypeId} {R : Value → Option (DataW H × List MemPlace)} {w w' : World} {B b n : Nat} {D : DataW H} (h : w.ownsMap P k R b n D) (hB : Below B w w') (hb : b < B) : w'.ownsMap P k R b n D := by
  obtain ⟨es, clock, hh, r⟩ := h
  exact ⟨es, clock, (hB.block b hb).trans hh, r⟩
end Go.Proofs.YtmmjeokmoffdpaaGreat

namespace Go.Proofs.YtmmjeokmoffdpaaGreat
set_option linter.unusedVariables false
open Go.RowKit

/-- the slice at a of n bytes is readable below block B -/
def BytesAt (w : World) (B : Nat) (a : Option Addr) (n : Nat) : Prop :=
  0 < n → ∃ b off, a = some ⟨b, off, none⟩ ∧ b < B ∧ ∀ i, i < n → ∃ z : Int, 0 ≤ z ∧ z ≤ 255 ∧ w.cell? ⟨b, off + i, none⟩ = some (.int .u8 z)

/-- block R is a reader: its bytes (at most 2000) lie below B, it has been asked p times -/
structure Rd (w : World) (B R : Nat) (a : Option Addr) (n c p : Nat) : Prop where
  le : B ≤ R
  bytes : BytesAt w B a n
  small : n ≤ 2000
  b : w.cell? ⟨R, 0, none⟩ = some (.slice a n c)
  p : w.cell? ⟨R, 1, none⟩ = some (.int .i64 p)
  fb : w.frozen? ⟨R, 0, none⟩ = false
  fp : w.frozen? ⟨R, 1, none⟩ = false
  two : ∀ i, w.cell? ⟨R, i + 2, none⟩ = none

theorem ofInt_i64 (a : Nat) (ha : a < 9223372036854775808) : (BitVec.ofInt 64 (a : Int)).toNat = a := by
  rw [BitVec.ofInt_natCast, BitVec.toNat_ofNat]; exact Nat.mod_eq_of_lt (by omega)
theorem i64_xor_nat (a b : Nat) (ha : a < 9223372036854775808) (hb : b < 9223372036854775808) : bits .xor .i64 (a : Int) (b : Int) = ((a ^^^ b : Nat) : Int) := by
  have hx : a ^^^ b < 2 ^ 63 := Nat.xor_lt_two_pow (by omega) (by omega)
  show IntKind.i64.wrap ((BitVec.ofInt 64 (a : Int) ^^^ BitVec.ofInt 64 (b : Int)).toNat : Int) = _
  rw [BitVec.toNat_xor, ofInt_i64 a ha, ofInt_i64 b hb, IntKind.wrap_i64]
  omega
theorem xor_pos (a b : Int) (ha : 0 ≤ a) (hb : 0 ≤ b) (ha2 : a ≤ 1099511627776) (hb2 : b ≤ 1099511627776) : 0 ≤ bits .xor .i64 a b := by
  obtain ⟨x, rfl⟩ := Int.eq_ofNat_of_zero_le ha
  obtain ⟨y, rfl⟩ := Int.eq_ofNat_of_zero_le hb
  rw [i64_xor_nat x y (by omega) (by omega)]
  exact Int.natCast_nonneg _

/-- what pick leaves: a number below m, the reader asked once more -/
def PickPost (m : Int) (R p : Nat) (w : World) (e : Ending) (w' : World) : Prop :=
  (∃ x : Int, e = .returned (.int .i64 x) ∧ 0 ≤ x ∧ (1 ≤ m → x < m) ∧ (m < 1 → x = 0)) ∧ ∃ k, w' = (w.setCell ⟨R, 1, none⟩ (.int .i64 ((p : Int) + 1))).drewN k

theorem tmod_nat (p n : Nat) : (p : Int).tmod (n : Int) = ((p % n : Nat) : Int) := rfl
theorem tdiv_nat (p n : Nat) : (p : Int).tdiv (n : Int) = ((p / n : Nat) : Int) := rfl

/-- what a drawing function leaves: the reader, asked at most k times more; of what was there only the reader has turned -/
structure Step (w w' : World) (B R : Nat) (a : Option Addr) (n c p q k : Nat) : Prop where
  rd : Rd w' B R a n c q
  lo : p ≤ q
  hi : q ≤ p + k
  grown : w.grownBy w' (some R)
  lt : R < w.heap.size

section
variable {w w' w'' : World} {B R n c p q r k l : Nat} {a : Option Addr}
theorem BytesAt.keep (h : BytesAt w B a n) (hk : ∀ i : Addr, i.block < B → w'.cell? i = w.cell? i) : BytesAt w' B a n := fun hn => by
  obtain ⟨b, off, ha, hb, hz⟩ := h hn
  refine ⟨b, off, ha, hb, fun i hi => ?_⟩
  obtain ⟨z, h0, h1, hc⟩ := hz i hi
  exact ⟨z, h0, h1, (hk ⟨b, off + i, none⟩ hb).trans hc⟩
theorem Rd.lt (h : Rd w B R a n c p) : R < w.heap.size := World.block_lt_of_cell? w _ h.b
/-- a reader stays a reader where its block and what lies below stay -/
theorem Rd.keep (h : Rd w B R a n c p) (hk : ∀ i, w'.cell? ⟨R, i, none⟩ = w.cell? ⟨R, i, none⟩) (hf : ∀ i, w'.frozen? ⟨R, i, none⟩ = w.frozen? ⟨R, i, none⟩) (hb : ∀ i : Addr, i.block < B → w'.cell? i = w.cell? i) : Rd w' B R a n c p :=
  ⟨h.le, h.bytes.keep hb, h.small, (hk 0).trans h.b, (hk 1).trans h.p, (hf 0).trans h.fb, (hf 1).trans h.fp, fun i => (hk (i + 2)).trans (h.two i)⟩
theorem Rd.below (h : Rd w B R a n c p) {D : Nat} (hb : Below D w w') (hR : R < D) : Rd w' B R a n c p :=
  h.keep (fun i => hb.cell (p := ⟨R, i, none⟩) hR) (fun i => hb.frozen (p := ⟨R, i, none⟩) hR) (fun i hi => hb.cell (by have := h.le; omega))
theorem Rd.alloc (h : Rd w B R a n c p) (o : Obj) : Rd (w.alloc o) B R a n c p := h.below (D := w.heap.size) ((Below.refl _ _).alloc (Nat.le_refl _) o) h.lt
theorem Rd.drewN (h : Rd w B R a n c p) (k : Nat) : Rd (w.drewN k) B R a n c p := ⟨h.le, h.bytes, h.small, h.b, h.p, h.fb, h.fp, h.two⟩
/-- the reader asked once -/
theorem Rd.asked (h : Rd w B R a n c p) : Rd (w.setCell ⟨R, 1, none⟩ (.int .i64 ((p : Int) + 1))) B R a n c (p + 1) :=
  ⟨h.le, h.bytes.keep fun i hi => World.cell?_setCell_other w _ _ _ (by rintro rfl; have := h.le; simp at hi; omega), h.small,
    (World.cell?_setCell_other w _ _ _ (by simp)).trans h.b, by rw [World.cell?_setCell_same' _ _ _ (by rw [h.p]; rfl)]; rfl, by rw [World.frozen?_setCell]; exact h.fb, by rw [World.frozen?_setCell]; exact h.fp, fun i => (World.cell?_setCell_other w _ _ _ (by simp)).trans (h.two i)⟩

theorem Rd.made (T : TypeId) (hb : BytesAt w w.heap.size a n) (hs : n ≤ 2000) : Rd (w.alloc (.cells #[.slice a n c, .int .i64 0] T)) w.heap.size w.heap.size a n c 0 :=
  ⟨Nat.le_refl _, hb.keep fun i hi => World.cell?_alloc_lt w _ i hi, hs, by rw [cell_of_row _ _ _ _ _ _ (heap_alloc_new w _)]; rfl, by rw [cell_of_row _ _ _ _ _ _ (heap_alloc_new w _)]; rfl,
    blk_frozen (heap_alloc_new w _) 0, blk_frozen (heap_alloc_new w _) 1, fun i => by rw [cell_of_row _ _ _ _ _ _ (heap_alloc_new w _)]; rfl⟩
theorem BytesAt.fewer {m : Nat} (h : BytesAt w B a n) (hm : m ≤ n) : BytesAt w B a m := fun hn => by
  obtain ⟨b, off, ha, hb, hz⟩ := h (by omega)
  exact ⟨b, off, ha, hb, fun i hi => hz i (by omega)⟩

theorem grown_below {row : Option Nat} (h : w.grownBy w' row) (hb : Below w'.heap.size w' w'') : w.grownBy w'' row :=
  ⟨hb.os.trans h.os, hb.tape.trans h.tape, hb.output.trans h.output, Nat.le_trans h.size hb.size, fun i hi hne => (hb.block i (Nat.lt_of_lt_of_le hi h.size)).trans (h.block i hi hne)⟩
theorem grown_trans {row : Option Nat} (h : w.grownBy w' row) (k : w'.grownBy w'' row) : w.grownBy w'' row :=
  ⟨k.os.trans h.os, k.tape.trans h.tape, k.output.trans h.output, Nat.le_trans h.size k.size, fun i hi hne => (k.block i (Nat.lt_of_lt_of_le hi h.size) hne).trans (h.block i hi hne)⟩

theorem Step.refl (h : Rd w B R a n c p) : Step w w B R a n c p p 0 := ⟨h, Nat.le_refl _, Nat.le_refl _, World.grownBy.refl w _, h.lt⟩
theorem Step.trans (h : Step w w' B R a n c p q k) (h' : Step w' w'' B R a n c q r l) : Step w w'' B R a n c p r (k + l) :=
  ⟨h'.rd, by have := h.lo; have := h'.lo; omega, by have := h.hi; have := h'.hi; omega, grown_trans h.grown h'.grown, h.lt⟩
theorem Step.more (h : Step w w' B R a n c p q k) (hl : k ≤ l) : Step w w' B R a n c p q l := ⟨h.rd, h.lo, by have := h.hi; omega, h.grown, h.lt⟩
theorem Step.alloc (h : Step w w' B R a n c p q k) (o : Obj) : Step w (w'.alloc o) B R a n c p q k := ⟨h.rd.alloc o, h.lo, h.hi, grown_alloc h.grown o, h.lt⟩
theorem Step.drewN (h : Step w w' B R a n c p q k) (m : Nat) : Step w (w'.drewN m) B R a n c p q k := ⟨h.rd.drewN m, h.lo, h.hi, grown_drewN h.grown m, h.lt⟩
theorem Step.below (h : Step w w' B R a n c p q k) (hb : Below w'.heap.size w' w'') : Step w w'' B R a n c p q k :=
  ⟨h.rd.below hb h.rd.lt, h.lo, h.hi, grown_below h.grown hb, h.lt⟩
theorem Step.pick (h : Rd w B R a n c p) (j : Nat) : Step w ((w.setCell ⟨R, 1, none⟩ (.int .i64 ((p : Int) + 1))).drewN j) B R a n c p (p + 1) 1 :=
  ⟨h.asked.drewN j, by omega, by omega, grown_drewN (grown_set (World.grownBy.refl w _) (.inl rfl) _) j, h.lt⟩
/-- what lay below the reader's block number .. stays -/
theorem Step.cell (h : Step w w' B R a n c p q k) {i : Addr} (hi : i.block < w.heap.size) (hne : i.block ≠ R) : w'.cell? i = w.cell? i :=
  World.cell?_of_block (h.grown.block i.block hi (fun e => hne (by injection e)))
theorem Step.toBelow (h : Step w w' B R a n c p q k) {D : Nat} (hD : D ≤ R) (hs : D ≤ w.heap.size) : Below D w w' :=
  (Below.refl D w).grown h.grown hs (fun k e => by injection e with e; omega)
/-- a list of files that is readable stays so where the reader is asked -/
theorem FilesAt.step {b : Option Addr} {m : Nat} {fs : List Fl} (h : FilesAt w w.heap.size b m fs) (hr : Rd w B R a n c p) (hs : Step w w' B R a n c p q k) : FilesAt w' w'.heap.size b m fs := by
  refine ⟨h.1, fun hm => ?_⟩
  obtain ⟨g, off, hb, hg, hc⟩ := h.2 hm
  have hne : g ≠ R := by
    rintro rfl
    obtain ⟨g2, off2, p2, t2, e, _, _, h1, _⟩ := h.get hm
    rw [hb] at e
    simp only [Option.some.injEq, Addr.mk.injEq, and_true] at e
    obtain ⟨rfl, rfl⟩ := e
    match off, h1 with
    | 0, h1 => rw [show (0 + 0 * 2 : Nat) = 0 from rfl, hr.b] at h1; simp at h1
    | 1, h1 => rw [show (1 + 0 * 2 : Nat) = 1 from rfl, hr.p] at h1; simp at h1
    | i + 2, h1 => rw [show (i + 2 + 0 * 2 : Nat) = i + 2 from by omega, hr.two] at h1; simp at h1
  exact ⟨g, off, hb, Nat.lt_of_lt_of_le hg hs.grown.size, fun j u hu => (hs.cell (i := ⟨g, off + j, none⟩) hg hne).trans (hc j u hu)⟩
end

/-- pick, for its callers: a number below m, a step of the reader -/
def PickS (m : Int) (w : World) (B R : Nat) (a : Option Addr) (n c p : Nat) (e : Ending) (w' : World) : Prop :=
  (∃ x : Nat, e = .returned (.int .i64 (x : Int)) ∧ (1 ≤ m → (x : Int) < m) ∧ (m < 1 → x = 0)) ∧ Step w w' B R a n c p (p + 1) 1
end Go.Proofs.YtmmjeokmoffdpaaGreat

namespace Go.Proofs.YtmmjeokmoffdpaaGreat
set_option linter.unusedVariables false
open Go.RowKit

/-- what 'of' leaves: a string with Q, the reader asked once more -/
def OfPost (Q : ByteArray → Prop) (w : World) (B R : Nat) (a : Option Addr) (n c p : Nat) (e : Ending) (w' : World) : Prop :=
  (∃ s : ByteArray, e = .returned (.string s) ∧ Q s) ∧ Step w w' B R a n c p (p + 1) 1

/-- the row of strings at block g has Q throughout -/
def StrsAt (w : World) (Q : ByteArray → Prop) (g m : Nat) : Prop := ∀ i, i < m → ∃ s, w.cell? ⟨g, i, none⟩ = some (.string s) ∧ Q s
theorem StrsAt.of_block {w : World} {Q : ByteArray → Prop} {g : Nat} {cs : Array Value} {T : TypeId} {fr : Nat × Nat} (h : w.heap[g]? = some (.cells cs T fr)) (hQ : ∀ u ∈ cs.toList, ∃ s, u = .string s ∧ Q s) : StrsAt w Q g cs.size := by
  intro i hi
  obtain ⟨s, hs, hq⟩ := hQ (cs[i]) (by simp)
  exact ⟨s, by rw [cell_of_row w g i cs T fr h]; simp [hi, hs], hq⟩

/-- what a drawing function of strings leaves -/
def DrawPost (Q : ByteArray → Prop) (w : World) (B R : Nat) (a : Option Addr) (n c p k : Nat) (e : Ending) (w' : World) : Prop :=
  ∃ s q, e = .returned (.string s) ∧ Q s ∧ Step w w' B R a n c p q k

end Go.Proofs.YtmmjeokmoffdpaaGreat

namespace Go.Proofs.YtmmjeokmoffdpaaGreat
set_option linter.unusedVariables false
open Go.RowKit

/-- a row of the call's own stays where the reader is asked -/
theorem row_step {w w' : World} {B R n c p q k base e size m : Nat} {a : Option Addr} {v : Value} {xs : List Value} (h : w.ownsRow base e size v m xs) (hR : R < base) (hs : Step w w' B R a n c p q k) : w'.ownsRow base e size v m xs :=
  World.ownsRow.kept h hs.grown (.inr (fun e => by have := (h.lt R e).1; omega))

theorem Step.setNew {w w' : World} {B R n c p q k g j : Nat} {a : Option Addr} (h : Step w w' B R a n c p q k) (hg : w.heap.size ≤ g) (u : Value) : Step w (w'.setCell ⟨g, j, none⟩ u) B R a n c p q k := by
  have hR := h.lt
  have hB := h.rd.le
  refine ⟨h.rd.keep (fun i => World.cell?_setCell_other w' _ _ _ (by simp; try omega)) (fun i => World.frozen?_setCell ..) (fun i hi => World.cell?_setCell_other w' _ _ _ (by rintro rfl; simp at hi; omega)), h.lo, h.hi, grown_set h.grown (.inr hg) u, h.lt⟩
theorem Step.grew {w w' w'' : World} {B R n c p q k : Nat} {a : Option Addr} {row : Option Nat} (h : Step w w' B R a n c p q k) (hg : w'.grownBy w'' row) (hr : ∀ g, row = some g → w.heap.size ≤ g ∧ g ≠ R) : Step w w'' B R a n c p q k := by
  have hR := h.lt
  have hB := h.rd.le
  have hs := h.grown.size
  have hblk : ∀ i, i < w.heap.size → w''.heap[i]? = w'.heap[i]? := fun i hi => hg.block i (by omega) (fun e => by have := (hr i e.symm).1; omega)
  have hc : ∀ i : Addr, i.block < w.heap.size → w''.cell? i = w'.cell? i := fun i hi => World.cell?_of_block (hblk i.block hi)
  refine ⟨h.rd.keep (fun i => hc _ hR) (fun i => by simp only [World.frozen?, hblk R hR]) (fun i hi => hc i (by omega)), h.lo, h.hi,
    ⟨hg.os.trans h.grown.os, hg.tape.trans h.grown.tape, hg.output.trans h.grown.output, Nat.le_trans hs hg.size, fun i hi hne => (hblk i hi).trans (h.grown.block i hi hne)⟩, h.lt⟩
/-- what 'num' leaves -/
def NumPost (Q : Int → Prop) (w : World) (B R : Nat) (a : Option Addr) (n c p : Nat) (e : Ending) (w' : World) : Prop :=
  (∃ s : Int, e = .returned (.int .i64 s) ∧ Q s) ∧ Step w w' B R a n c p (p + 1) 1
end Go.Proofs.YtmmjeokmoffdpaaGreat

namespace Go.Proofs.YtmmjeokmoffdpaaGreat
set_option linter.unusedVariables false
open Go.RowKit

theorem putStep_mem {f x : Fl} {s : List Fl × Bool} {y : Fl} (h : y ∈ (putStep f s x).1) : y = f ∨ y = x ∨ y ∈ s.1 := by
  obtain ⟨l, b⟩ := s
  unfold putStep at h
  cases b <;> cases hl : sLess x.1 f.1 <;> by_cases hp : x.1 = f.1 <;> simp [hp, hl] at h <;> grind
theorem putTo_mem {f : Fl} (l : List Fl) : ∀ (s : List Fl × Bool) (y : Fl), y ∈ (l.foldl (putStep f) s).1 → y = f ∨ y ∈ l ∨ y ∈ s.1 := by
  induction l with
  | nil => intro s y h; exact .inr (.inr h)
  | cons x l ih =>
    intro s y h
    rcases ih _ _ h with h | h | h
    · exact .inl h
    · exact .inr (.inl (List.mem_cons_of_mem _ h))
    · rcases putStep_mem h with h | h | h
      · exact .inl h
      · exact .inr (.inl (by rw [h]; exact List.mem_cons_self ..))
      · exact .inr (.inr h)
theorem putF_mem {f y : Fl} {fs : List Fl} (h : y ∈ putF f fs) : y = f ∨ y ∈ fs := by
  have key : ∀ y, y ∈ (putTo f fs).1 → y = f ∨ y ∈ fs := fun y hy => by
    rcases putTo_mem fs _ y hy with h | h | h
    · exact .inl h
    · exact .inr h
    · simp at h
  unfold putF at h
  split at h
  · exact key y h
  · rw [List.mem_append] at h
    rcases h with h | h
    · exact key y h
    · exact .inl (by simpa using h)
theorem putF_length (f : Fl) (fs : List Fl) : (putF f fs).length ≤ fs.length + 1 := by
  have h := putTo_owed f fs ([], false)
  unfold putF
  unfold putTo
  generalize fs.foldl (putStep f) ([], false) = s at *
  obtain ⟨l, b⟩ := s
  cases b <;> simp [owed] at h ⊢ <;> omega

/-- every string of the list has at most m bytes -/
def Short (m : Nat) (fs : List Fl) : Prop := ∀ f ∈ fs, f.1.size ≤ m ∧ f.2.size ≤ m
theorem Short.fits {m : Nat} {fs : List Fl} (h : Short m fs) (hm : m ≤ 1000) : Fits fs := fun f hf => by have := h f hf; unfold maxLen; omega
theorem Short.put {m : Nat} {f : Fl} {fs : List Fl} (h : Short m fs) (hf : f.1.size ≤ m ∧ f.2.size ≤ m) : Short m (putF f fs) := fun y hy => by
  rcases putF_mem hy with rfl | hy
  · exact hf
  · exact h y hy

/-- what a drawing function of lists leaves -/
def ListPost (w : World) (B R : Nat) (a : Option Addr) (n c p k m l : Nat) (e : Ending) (w' : World) : Prop :=
  ∃ a' c' fs q, e = .returned (.slice a' (List.length fs) c') ∧ FilesAt w' w'.heap.size a' (List.length fs) fs ∧ Short m fs ∧ List.length fs ≤ l ∧ Step w w' B R a n c p q k

end Go.Proofs.YtmmjeokmoffdpaaGreat

namespace Go.Proofs.YtmmjeokmoffdpaaGreat
set_option linter.unusedVariables false
set_option linter.unusedSimpArgs false
open Go.RowKit

/-- the first n files marked from k on -/
def mrk (k : Nat) : Nat → List Fl → List Fl
  | 0, fs => fs
  | n + 1, fs => (mrk k n fs).set n (mkS (k + 2 * n), mkS (k + 2 * n + 1))
theorem mrk_length (k : Nat) (fs : List Fl) : ∀ n, (mrk k n fs).length = fs.length
  | 0 => rfl
  | n + 1 => by rw [mrk, List.length_set, mrk_length k fs n]
theorem mrk_get {k j : Nat} {fs : List Fl} (hj : j < fs.length) : ∀ {n}, j < n → (mrk k n fs)[j]? = some (mkS (k + 2 * j), mkS (k + 2 * j + 1))
  | 0, h => absurd h (by omega)
  | n + 1, h => by
    rw [mrk]
    by_cases e : j = n
    · subst e
      rw [List.getElem?_set_self (by rw [mrk_length]; exact hj)]
    · rw [List.getElem?_set_ne (fun h => e h.symm)]
      exact mrk_get hj (by omega)

theorem growT {w w' w'' : World} {row : Option Nat} (h : w.grownBy w' row) (k : w'.grownBy w'' row) : w.grownBy w'' row :=
  ⟨k.os.trans h.os, k.tape.trans h.tape, k.output.trans h.output, Nat.le_trans h.size k.size, fun i hi hne => (k.block i (Nat.lt_of_lt_of_le hi h.size) hne).trans (h.block i hi hne)⟩
theorem growB {w w' w'' : World} {row : Option Nat} (h : w.grownBy w' row) (hb : Below w'.heap.size w' w'') : w.grownBy w'' row :=
  ⟨hb.os.trans h.os, hb.tape.trans h.tape, hb.output.trans h.output, Nat.le_trans h.size hb.size, fun i hi hne => (hb.block i (Nat.lt_of_lt_of_le hi h.size)).trans (h.block i hi hne)⟩
theorem row_mark1 {w : World} {B g n cap j : Nat} {gs : List Fl} {p t s : ByteArray} (h : w.ownsRow B 83 2 (.slice (some ⟨g, 0, none⟩) n cap) n (fcells gs)) (hg : gs[j]? = some (p, t)) :
    (w.setCell ⟨g, j * 2, none⟩ (.string s)).ownsRow B 83 2 (.slice (some ⟨g, 0, none⟩) n cap) n (fcells (gs.set j (s, t))) := by
  rw [fcells_set1 hg]; exact (World.ownsRow.stored h _ _).1
theorem row_mark2 {w : World} {B g n cap j : Nat} {gs : List Fl} {p t s : ByteArray} (h : w.ownsRow B 83 2 (.slice (some ⟨g, 0, none⟩) n cap) n (fcells gs)) (hg : gs[j]? = some (p, t)) :
    (w.setCell ⟨g, j * 2 + 1, none⟩ (.string s)).ownsRow B 83 2 (.slice (some ⟨g, 0, none⟩) n cap) n (fcells (gs.set j (p, s))) := by
  rw [fcells_set2 hg]; exact (World.ownsRow.stored h _ _).1

set_option maxRecDepth 100000 in
set_option maxHeartbeats 1000000 in
theorem markF_any (v : Value) (B k : Nat) (fs : List Fl) (w : World) (ho : OwnsF w B v fs) (hn : fs.length ≤ 1048576) (h0 : 1 ≤ k) (h1 : k + 2 * fs.length ≤ 8388600) :
    Calls Tryz.prog 32 #[v, .int .i64 k] w fun e w' =>
      e = .returned (.int .i64 (k + 2 * fs.length : Nat)) ∧ OwnsF w' B v (mrk k fs.length fs) ∧ w.grownBy w' v.ownBlock := by
  rcases ho.2 with ⟨rfl, h00⟩ | ⟨g, cap, cur, rfl, hb, hg, _⟩
  · obtain rfl : fs = [] := List.eq_nil_of_length_eq_zero h00
    go_enter Tryz.func32, Tryz.ntmps32
    go_wp2_with fail
    go_loopw [1, 5] (fun x i wr => x = .int .i64 k ∧ i = .int .i64 0 ∧ wr = w) (fun _ _ _ => 0)
    case atStart => exact ⟨rfl, rfl, rfl⟩
    case round =>
      obtain ⟨rfl, rfl, rfl⟩ := hrel
      go_wp2_with fail
      go_ret
      exact ⟨rfl, ho, World.grownBy.refl _ _⟩
  · have hgl : g < w.heap.size := blk_lt hg
    have Ho := Lib.hid ho
    clear ho hg
    go_enter Tryz.func32, Tryz.ntmps32
    go_wp2_with fail
    go_loopw [1, 5] (fun x i wr => ∃ j : Nat, j ≤ fs.length ∧ i = .int .i64 j ∧ x = .int .i64 (k + 2 * j : Nat) ∧ wr.ownsRow B 83 2 (.slice (some ⟨g, 0, none⟩) fs.length cap) fs.length (fcells (mrk k j fs)) ∧ w.grownBy wr (some g)) (fun _ i _ => fs.length - (intOf i).toNat)
    case atStart => exact ⟨0, Nat.zero_le _, rfl, by simp, Ho.out, World.grownBy.refl _ _⟩
    case round =>
      obtain ⟨j, hj, rfl, rfl, hown, hgr⟩ := hrel
      have hln := Lib.hid (mrk_length k fs j)
      have hgw := hgr.size
      by_cases hlt : j < fs.length
      · have Hown := Lib.hid hown
        have hgt : (mrk k j fs)[j]? = some ((mrk k j fs)[j]'(by rw [hln.out]; exact hlt)) := List.getElem?_eq_getElem _
        generalize (mrk k j fs)[j]'(by rw [hln.out]; exact hlt) = f at hgt
        obtain ⟨p, t⟩ := f
        have Hgt := Lib.hid hgt
        clear hown hgt
        go_wp2_with fail
        refine (markText_any (k + 2 * j) _ (by omega) (by omega)).mono ?_
        rintro e w1 ⟨rfl, hB1⟩
        have ho1 := row_below Hown.out hB1 (by omega)
        have hc1 : w1.cell? ⟨g, j * 2, none⟩ = some (.string p) := (World.ownsRow.cellAt ho1 (j * 2) (by omega)).trans (fcells_get _ Hgt.out).1
        have hf1 := World.ownsRow.frozenAt ho1 (j * 2)
        have Ho1 := Lib.hid (row_mark1 (s := mkS (k + 2 * j)) ho1 Hgt.out)
        have Hg1 := Lib.hid (growT (growB hgr hB1) (World.ownsRow.stored ho1 (j * 2) (.string (mkS (k + 2 * j)))).2)
        have Hgt1 : Hid (((mrk k j fs).set j (mkS (k + 2 * j), t))[j]? = some (mkS (k + 2 * j), t)) := Lib.hid (by rw [List.getElem?_set_self (by rw [hln.out]; exact hlt)])
        have hgs := Hg1.out.size
        clear ho1 hgr
        go_wp2_with fail
        refine (markText_at (k + 2 * j + 1) _ (by omega) (by omega) (by omega)).mono ?_
        rintro e w2 ⟨rfl, hB2⟩
        have ho2 := row_below Ho1.out hB2 (by omega)
        have hc2 : w2.cell? ⟨g, j * 2 + 1, none⟩ = some (.string t) := (World.ownsRow.cellAt ho2 (j * 2 + 1) (by omega)).trans (fcells_get _ Hgt1.out).2
        have hf2 := World.ownsRow.frozenAt ho2 (j * 2 + 1)
        have Ho2 := Lib.hid (row_mark2 (s := mkS (k + 2 * j + 1)) ho2 Hgt1.out)
        have Hg2 := Lib.hid (growT (growB Hg1.out hB2) (World.ownsRow.stored ho2 (j * 2 + 1) (.string (mkS (k + 2 * j + 1)))).2)
        clear ho2
        go_wp2_with fail
        exact ⟨⟨j + 1, by omega, by go_num, by go_num, by have := Ho2.out; rw [List.set_set] at this; exact this, Hg2.out⟩, by simp [intOf]; omega⟩
      · have e : j = fs.length := by omega
        have Ho2 : Hid (OwnsF wr B (.slice (some ⟨g, 0, none⟩) fs.length cap) (mrk k fs.length fs)) := Lib.hid (by
          rw [OwnsF, mrk_length, ← e]; rw [← e] at hown; exact hown)
        have Hr : Hid (((k + 2 * j : Nat) : Int) = ((k + 2 * fs.length : Nat) : Int)) := Lib.hid (by rw [e])
        clear e hown
        go_wp2_with fail
        go_ret
        exact ⟨ret_int Hr.out, Ho2.out, hgr⟩

set_option maxRecDepth 100000 in
set_option maxHeartbeats 1000000 in
theorem heldF_any (a : Option Addr) (n c k : Nat) (gs : List Fl) (w : World) (hf : FilesAt w w.heap.size a n gs) (hm : ∀ j, j < n → gs[j]? = some (mkS (k + 2 * j), mkS (k + 2 * j + 1))) (hn : n ≤ 1048576) (h0 : 1 ≤ k) (h1 : k ≤ 16) :
    Calls Tryz.prog 35 #[.slice a n c, .int .i64 k] w fun e w' =>
      e = .returned (.int .i64 (k + 2 * n : Nat)) ∧ Below w.heap.size w w' := by
  have Hm := Lib.hid hm
  clear hm
  go_enter Tryz.func35, Tryz.ntmps35
  go_wp2_with fail
  go_loopw [1, 5] (fun x i wr => ∃ j : Nat, j ≤ n ∧ i = .int .i64 j ∧ x = .int .i64 (k + 2 * j : Nat) ∧ Below w.heap.size w wr) (fun _ i _ => n - (intOf i).toNat)
  case atStart => exact ⟨0, Nat.zero_le _, rfl, by simp, Below.refl _ _⟩
  case round =>
    obtain ⟨j, hj, rfl, rfl, hB⟩ := hrel
    by_cases hlt : j < n
    · obtain ⟨b, off, p, t, rfl, hb, hg, hc1, hc2⟩ := (hf.below hB).get hlt
      have hg2 := Hm.out j hlt
      rw [hg] at hg2
      obtain ⟨rfl, rfl⟩ : p = mkS (k + 2 * j) ∧ t = mkS (k + 2 * j + 1) := by cases hg2; exact ⟨rfl, rfl⟩
      clear hg hg2
      have hd1 : ((mkS (k + 2 * j)).toList == (mkS (k + 2 * j)).toList) = true := by simp
      have hd2 : ((mkS (k + 2 * j + 1)).toList == (mkS (k + 2 * j + 1)).toList) = true := by simp
      go_wp2_with fail
      have hbw : b < wr.heap.size := by have := hB.size; omega
      go_region_held3 (fun w' => w'.cell? ⟨b, off + j * 2, none⟩ = some (.string (mkS (k + 2 * j)))) (first | go_keep | exact (hB1.cell (p := ⟨b, off + j * 2, none⟩) hbw).trans hc1) ((go_at_call 51; refine (markText_any (k + 2 * j) _ (by omega) (by omega)).mono ?_; rintro e w1 ⟨rfl, hB1⟩))
      have B1 := hB.drew.trans (hB1.mono hB.size)
      have hc3 := (hB1.cell (p := ⟨b, off + j * 2 + 1, none⟩) hbw).trans hc2
      have hbw1 : b < w1.heap.size := by have := B1.size; omega
      clear hc1 hc2 hB1
      go_wp2_with fail
      go_region_held3 (fun w' => w'.cell? ⟨b, off + j * 2 + 1, none⟩ = some (.string (mkS (k + 2 * j + 1)))) (first | go_keep | exact (hB2.cell (p := ⟨b, off + j * 2 + 1, none⟩) hbw1).trans hc3) ((go_at_call 51; refine (markText_at (k + 2 * j + 1) _ (by omega) (by omega) (by omega)).mono ?_; rintro e w2 ⟨rfl, hB2⟩))
      have B2 := B1.drew.trans (hB2.mono B1.size)
      clear hB2 hc3
      go_wp2_with fail
      exact ⟨⟨j + 1, by omega, by go_num, by go_num, B2⟩, by simp [intOf]; omega⟩
    · have e : j = n := by omega
      have Hr : Hid (((k + 2 * j : Nat) : Int) = ((k + 2 * n : Nat) : Int)) := Lib.hid (by rw [e])
      clear e
      go_wp2_with fail
      go_ret
      exact ⟨ret_int Hr.out, hB⟩
section
variable {w w' : World} {B c : Nat} {a : Option Addr} {n : Nat} {v : Value} {fs : List Fl}
theorem OwnsF.at_ (h : OwnsF w B (.slice a n c) fs) : FilesAt w w.heap.size a n fs := by
  obtain ⟨a', c', e, hf⟩ := h.form
  cases e
  exact hf
theorem heldO (ho : OwnsF w B (.slice a fs.length c) (mrk 1 fs.length fs)) (hn : fs.length ≤ 1048576) :
    Calls Tryz.prog 35 #[.slice a fs.length c, .int .i64 1] w fun e w' =>
      e = .returned (.int .i64 (1 + 2 * fs.length : Nat)) ∧ Below w.heap.size w w' :=
  heldF_any a fs.length c 1 (mrk 1 fs.length fs) w (OwnsF.at_ ho) (fun j hj => mrk_get hj hj) hn (by omega) (by omega)
end
end Go.Proofs.YtmmjeokmoffdpaaGreat

namespace Go.Proofs.YtmmjeokmoffdpaaGreat
open Go.RowKit

/-- what the law's argument is told of: a readable project -/
def InP (w : World) (fs : List Fl) (rs : List Ru) (a1 a2 : Option Addr) (n1 n2 : Nat) : Prop := FilesAt w w.heap.size a1 n1 fs ∧ Fits fs ∧ n1 ≤ maxLen ∧ RuAt w 0 w.heap.size rs a2 n2 ∧ RuFits rs ∧ n2 ≤ maxLen
end Go.Proofs.YtmmjeokmoffdpaaGreat

namespace Go.Proofs.YtmmjeokmoffdpaaGreat
set_option linter.unusedVariables false
open Go.RowKit

/-- all nodes are right -/
def good : Fo → Bool
  | .nil => true
  | .node k s ks r => nodeB k s ks.len && good ks && good r
theorem good_of : ∀ {f : Fo} {d : Nat}, shape f d = true → good f = true
  | .nil, _, _ => rfl
  | .node k s ks r, d, h => by
    simp only [shape, Bool.and_eq_true] at h
    simp only [good, Bool.and_eq_true]
    exact ⟨⟨h.1.1.2, good_of h.1.2⟩, good_of h.2⟩
theorem good_get : ∀ {f : Fo} {j : Nat} {k : Int} {s : ByteArray} {ks : Fo}, good f = true → f.get j = some (k, s, ks) → nodeB k s ks.len = true ∧ good ks = true
  | .nil, _, _, _, _, _, h => by simp [Fo.get] at h
  | .node k s ks r, 0, _, _, _, hf, h => by
    simp only [Fo.get, Option.some.injEq, Prod.mk.injEq] at h
    obtain ⟨rfl, rfl, rfl⟩ := h
    simp only [good, Bool.and_eq_true] at hf
    exact hf.1
  | .node k s ks r, j + 1, _, _, _, hf, h => by
    simp only [good, Bool.and_eq_true] at hf
    exact good_get (f := r) (j := j) hf.2 h
theorem valid_good {k : Int} {s : ByteArray} {ks : Fo} (h : validE k s ks = true) : nodeB k s ks.len = true ∧ good ks = true ∧ ks.size + 1 ≤ 20 := by
  unfold validE at h
  simp only [Bool.and_eq_true, decide_eq_true_eq] at h
  have := good_of h.1
  simp only [good, Bool.and_eq_true] at this
  exact ⟨this.1.1, this.1.2, h.2⟩
/-- the kinds -/
theorem node_kinds {k : Int} {s : ByteArray} {n : Nat} (h : nodeB k s n = true) :
    (k = 1 ∧ n = 0 ∧ plainB s = true) ∨ (k = 3 ∧ n ≤ 4 ∧ s = .empty) ∨ (k = 4 ∧ n = 4 ∧ s = .empty) ∨ ((k = 2 ∨ k = 5 ∨ k = 6 ∨ k = 7) ∧ n = 1 ∧ s = .empty) := by
  unfold nodeB kidsB at h
  simp only [Bool.and_eq_true, Bool.or_eq_true, decide_eq_true_eq] at h
  obtain ⟨⟨h1, h2⟩, h3⟩ := h
  rcases h1 with ((⟨h1, h4⟩ | ⟨h1, h4⟩) | ⟨h1, h4⟩) | ⟨h1, h4⟩
  · exact .inl ⟨h1, h4, h2⟩
  · exact .inr (.inl ⟨h1, h4, h3.resolve_left (by omega)⟩)
  · exact .inr (.inr (.inl ⟨h1, h4, h3.resolve_left (by omega)⟩))
  · exact .inr (.inr (.inr ⟨by rcases h1 with ((h1 | h1) | h1) | h1 <;> simp [h1], h4, h3.resolve_left (by omega)⟩))
theorem plain_size {s : ByteArray} (h : plainB s = true) : s.size ≤ 60 := by
  unfold plainB at h
  simp only [Bool.and_eq_true] at h
  exact ((textB_iff s).1 h.2).1
theorem node_size {k : Int} {s : ByteArray} {n : Nat} (h : nodeB k s n = true) : s.size ≤ 60 := by
  unfold nodeB at h
  simp only [Bool.and_eq_true] at h
  exact plain_size h.1.2
theorem len_one {ks : Fo} (h : ks.len = 1) : ∃ k s f, ks = .node k s f .nil := by
  match ks, h with
  | .node k s f .nil, _ => exact ⟨k, s, f, rfl⟩
  | .node k s f (.node ..), h => simp [Fo.len] at h
theorem len_zero {ks : Fo} (h : ks.len = 0) : ks = .nil := by
  match ks, h with
  | .nil, _ => rfl
  | .node .., h => simp [Fo.len] at h
/-- the byte that a node with one operand begins with -/
def chrB (k : Int) : UInt8 := if k = 2 then 64 else if k = 5 then 60 else if k = 6 then 62 else 35
/-- the texts of nodes, each with what stands behind it -/
def fmS : Fo → List (List UInt8) → List UInt8
  | .nil, _ => []
  | .node k s ks r, seps => (if k = 1 then [39] ++ s.data.toList ++ [39] else if k = 3 then [40] ++ fmS ks [] ++ [41] else if k = 4 then [91] ++ fmS ks [[61], [63], [58], [93]] else [chrB k] ++ fmS ks []) ++ seps.headD [] ++ fmS r seps.tail
/-- the text of a node -/
def fm1 (k : Int) (s : ByteArray) (ks : Fo) : List UInt8 :=
  if k = 1 then [39] ++ s.data.toList ++ [39] else if k = 3 then [40] ++ fmS ks [] ++ [41] else if k = 4 then [91] ++ fmS ks [[61], [63], [58], [93]] else [chrB k] ++ fmS ks []
theorem fmS_node (k : Int) (s : ByteArray) (ks r : Fo) (seps : List (List UInt8)) : fmS (.node k s ks r) seps = fm1 k s ks ++ seps.headD [] ++ fmS r seps.tail := rfl
theorem fmS_one (k : Int) (s : ByteArray) (ks : Fo) : fmS (.node k s ks .nil) [] = fm1 k s ks := by rw [fmS_node]; simp [fmS]
theorem fmS_len : ∀ {f : Fo} (seps : List (List UInt8)), good f = true → (∀ x ∈ seps, x.length ≤ 1) → (fmS f seps).length ≤ 63 * f.size
  | .nil, _, _, _ => Nat.le_refl _
  | .node k s ks r, seps, hg, hs => by
    simp only [good, Bool.and_eq_true] at hg
    have h1 := fmS_len (f := ks) [] hg.1.2 (by simp)
    have h2 := fmS_len (f := ks) [[61], [63], [58], [93]] hg.1.2 (by simp)
    have h3 := fmS_len (f := r) seps.tail hg.2 (fun x hx => hs x (List.mem_of_mem_tail hx))
    have h4 : (seps.headD []).length ≤ 1 := by
      cases seps with
      | nil => simp
      | cons a l => exact hs a (by simp)
    have h5 := node_size hg.1.1
    have h6 : s.data.toList.length ≤ 60 := by rw [Array.length_toList]; exact h5
    rw [fmS_node, List.length_append, List.length_append]
    simp only [Fo.size]
    have h7 : (fm1 k s ks).length ≤ 62 + 63 * ks.size := by
      unfold fm1
      split
      · simp only [List.length_append, List.length_cons, List.length_nil]; omega
      · split
        · simp only [List.length_append, List.length_cons, List.length_nil]; omega
        · split
          · simp only [List.length_append, List.length_cons, List.length_nil]; omega
          · simp only [List.length_append, List.length_cons, List.length_nil]; omega
    omega
theorem fm1_len {k : Int} {s : ByteArray} {ks : Fo} (hn : nodeB k s ks.len = true) (hg : good ks = true) : (fm1 k s ks).length ≤ 63 * (ks.size + 1) := by
  have := fmS_len (f := .node k s ks .nil) [] (by simp only [good, hn, hg, Bool.and_true]) (by simp)
  rw [fmS_one] at this
  simpa [Fo.size] using this
/-- the text of an expression, if it is valid -/
def fmtE (k : Int) (s : ByteArray) (ks : Fo) : ByteArray := if validE k s ks = true then ⟨(fm1 k s ks).toArray⟩ else .empty
end Go.Proofs.YtmmjeokmoffdpaaGreat

namespace Go.Proofs.YtmmjeokmoffdpaaGreat
set_option linter.unusedVariables false
open Go.RowKit

/-- the line of a source -/
def lineS (f : Fl) : List UInt8 := [115, 111, 117, 114, 99, 101, 32] ++ (f.1.data.toList ++ ([32] ++ (f.2.data.toList ++ [10])))
/-- the line of a rule -/
def lineR (x : Ru) : List UInt8 := [114, 117, 108, 101, 32] ++ (x.1.data.toList ++ ([32] ++ ((fmtE x.2.1 x.2.2.1 x.2.2.2).data.toList ++ [10])))
/-- the lines -/
def linesP (fs : List Fl) (rs : List Ru) : List UInt8 := [112, 114, 111, 106, 101, 99, 116, 10] ++ (fs.flatMap lineS ++ rs.flatMap lineR)
/-- what FormatProject answers -/
def fmtP (fs : List Fl) (rs : List Ru) : ByteArray := if projB fs rs = true then ⟨(linesP fs rs).toArray⟩ else .empty
theorem flat_take {α : Type} (g : α → List UInt8) {l : List α} {j : Nat} {x : α} (h : l[j]? = some x) : (l.take (j + 1)).flatMap g = (l.take j).flatMap g ++ g x := by
  rw [List.take_add_one, h, List.flatMap_append]
  simp
theorem allTo_get {p : Nat → Bool} {n j : Nat} (h : allTo p n = true) (hj : j < n) : p j = true := by
  unfold allTo at h
  rw [List.all_eq_true] at h
  exact h j (List.mem_range.2 hj)
theorem flat_len {α : Type} (g : α → List UInt8) (m : Nat) : ∀ (l : List α), (∀ x ∈ l, (g x).length ≤ m) → (l.flatMap g).length ≤ m * l.length
  | [], _ => by simp
  | x :: l, h => by
    have h1 := h x (List.mem_cons_self ..)
    have h2 := flat_len g m l fun y hy => h y (List.mem_cons_of_mem _ hy)
    simp only [List.flatMap_cons, List.length_append, List.length_cons, Nat.mul_add, Nat.mul_one]
    omega
theorem fmtE_len {k : Int} {s : ByteArray} {ks : Fo} (h : validE k s ks = true) : (fmtE k s ks).data.toList.length ≤ 1260 := by
  unfold fmtE
  rw [if_pos h]
  obtain ⟨h1, h2, h3⟩ := valid_good h
  have := fm1_len h1 h2
  show (fm1 k s ks).toArray.toList.length ≤ _
  simp
  omega
/-- what a valid project's parts measure -/
theorem proj_sizes {fs : List Fl} {rs : List Ru} (h : projB fs rs = true) : fs.length ≤ 12 ∧ rs.length ≤ 10 ∧ (∀ f ∈ fs, (lineS f).length ≤ 80) ∧ (∀ x ∈ rs, (lineR x).length ≤ 1300 ∧ x.1.size ≤ 8 ∧ validE x.2.1 x.2.2.1 x.2.2.2 = true) := by
  rw [projB_each] at h
  simp only [Bool.and_eq_true, decide_eq_true_eq] at h
  obtain ⟨⟨hv, hl⟩, ha⟩ := h
  have hfl : fs.length ≤ 12 := by unfold validB at hv; simp only [Bool.and_eq_true, decide_eq_true_eq] at hv; exact hv.1
  refine ⟨hfl, hl, fun f hf => ?_, fun x hx => ?_⟩
  · obtain ⟨j, hj⟩ := List.getElem?_of_mem hf
    obtain ⟨p, t⟩ := f
    have := valid_sizes hv hj
    simp only [lineS, List.length_append, Array.length_toList, List.length_cons, List.length_nil]
    have h1 : p.data.size = p.size := rfl
    have h2 : t.data.size = t.size := rfl
    omega
  · obtain ⟨j, hj⟩ := List.getElem?_of_mem hx
    obtain ⟨t, k, s, ks⟩ := x
    have hjl : j < rs.length := (List.getElem?_eq_some_iff.1 hj).1
    have h1 := allTo_get ha hjl
    simp only [Bool.and_eq_true] at h1
    have h2 := h1.1.2
    unfold bodyAt at h2
    rw [ruGet_of hj] at h2
    simp only [Bool.and_eq_true] at h2
    have h3 : t.size ≤ 8 := by have := h2.1; unfold pathB at this; simp only [Bool.and_eq_true, decide_eq_true_eq] at this; exact this.1.2
    have h4 := fmtE_len h2.2
    refine ⟨?_, h3, h2.2⟩
    simp only [lineR, List.length_append, List.length_cons, List.length_nil]
    have h5 : t.data.toList.length = t.size := by simp
    omega
end Go.Proofs.YtmmjeokmoffdpaaGreat

namespace Go.Proofs.YtmmjeokmoffdpaaGreat
set_option linter.unusedVariables false
open Go.RowKit

/-- the targets of a valid project ascend -/
theorem proj_asc {fs : List Fl} {rs : List Ru} (h : projB fs rs = true) : rs.Pairwise fun a b => sLess a.1 b.1 = true := by
  unfold projB rulesB at h
  simp only [Bool.and_eq_true] at h
  have ha := h.1.2.1
  have h2 : Asc (rs.map fun x => (x.1, ByteArray.empty)) := by
    refine asc_of_next fun k p t q r h1 h2 => ?_
    rw [List.getElem?_map] at h1 h2
    cases e1 : rs[k + 1]? with
    | none => rw [e1] at h1; cases h1
    | some x1 =>
      cases e2 : rs[k]? with
      | none => rw [e2] at h2; cases h2
      | some x2 =>
        rw [e1] at h1
        rw [e2] at h2
        simp only [Option.map_some, Option.some.injEq, Prod.mk.injEq] at h1 h2
        have h3 := allTo_get ha (List.getElem?_eq_some_iff.1 e1).1
        simp only [Bool.and_eq_true] at h3
        have h4 := h3.1
        unfold ascAt at h4
        rw [show k + 1 - 1 = k from rfl, ruGet_of e1, ruGet_of e2] at h4
        rw [← h1.1, ← h2.1]
        simpa using h4
  exact (List.pairwise_map.1 h2)
theorem ru_inj {rs : List Ru} (h : rs.Pairwise fun a b => sLess a.1 b.1 = true) {f g : Ru} (hf : f ∈ rs) (hg : g ∈ rs) (he : f.1 = g.1) : f = g := by
  induction rs with
  | nil => cases hf
  | cons x rs ih =>
    obtain ⟨h1, h2⟩ := List.pairwise_cons.1 h
    rcases List.mem_cons.1 hf with e1 | m1 <;> rcases List.mem_cons.1 hg with e2 | m2
    · rw [e1, e2]
    · subst e1; exact absurd he (sLess_ne (h1 _ m2))
    · subst e2; exact absurd he.symm (sLess_ne (h1 _ m1))
    · exact ih h2 m1 m2
/-- the body of the rule of a target -/
def findB (rs : List Ru) (x : ByteArray) : Option (Int × ByteArray × Fo) := (rs.find? fun r => decide (r.1 = x)).map (·.2)
/-- what FindRule answers -/
def findP (fs : List Fl) (rs : List Ru) (x : ByteArray) : Int × ByteArray × Fo × Bool := if projB fs rs = true then match findB rs x with
  | some (k, s, ks) => (k, s, ks, true)
  | none => (0, .empty, .nil, false) else (0, .empty, .nil, false)
theorem findB_some {rs : List Ru} {x : ByteArray} {k : Int} {s : ByteArray} {ks : Fo} (h : findB rs x = some (k, s, ks)) : (x, k, s, ks) ∈ rs := by
  unfold findB at h
  cases hf : rs.find? fun r => decide (r.1 = x) with
  | none => rw [hf] at h; cases h
  | some r =>
    rw [hf] at h
    obtain ⟨t, k', s', ks'⟩ := r
    simp only [Option.map_some, Option.some.injEq, Prod.mk.injEq] at h
    obtain ⟨rfl, rfl, rfl⟩ := h
    have h1 := List.find?_some hf
    obtain rfl : t = x := by simpa using h1
    exact List.mem_of_find?_eq_some hf
theorem findB_none {rs : List Ru} {x : ByteArray} (h : findB rs x = none) : ∀ r ∈ rs, r.1 ≠ x := by
  unfold findB at h
  rw [Option.map_eq_none_iff, List.find?_eq_none] at h
  exact fun r hr e => h r hr (by simpa using e)
/-- the first rule with the target, found at a place -/
theorem findB_at {rs : List Ru} {x : ByteArray} {j : Nat} {k : Int} {s : ByteArray} {ks : Fo} (h1 : ∀ (i : Nat) (r : Ru), i < j → rs[i]? = some r → r.1 ≠ x) (h2 : rs[j]? = some (x, k, s, ks)) : findB rs x = some (k, s, ks) := by
  unfold findB
  have hj := (List.getElem?_eq_some_iff.1 h2).1
  have : rs.find? (fun r => decide (r.1 = x)) = some (x, k, s, ks) := by
    rw [List.find?_eq_some_iff_getElem]
    refine ⟨by simp, j, hj, (List.getElem?_eq_some_iff.1 h2).2, fun i hi => ?_⟩
    have := h1 i rs[i] hi (List.getElem?_eq_getElem (by omega))
    simpa using this
  rw [this]
  rfl
theorem findB_all {rs : List Ru} {x : ByteArray} (h1 : ∀ (i : Nat) (r : Ru), rs[i]? = some r → r.1 ≠ x) : findB rs x = none := by
  unfold findB
  rw [Option.map_eq_none_iff, List.find?_eq_none]
  intro r hr
  obtain ⟨i, hi⟩ := List.getElem?_of_mem hr
  simpa using h1 i r hi
end Go.Proofs.YtmmjeokmoffdpaaGreat

namespace Go.Proofs.YtmmjeokmoffdpaaGreat
set_option linter.unusedVariables false
open Go.RowKit Go.Maps

abbrev Kv := ByteArray × Value
/-- how an element of any kind reads: as itself -/
def anyElem (v : Value) : Option (DataW Value × List MemPlace) := some (.held v, [])
def entV (f : Kv) : Lit × DataW Value := (.string f.1.data.toList, .held f.2)
/-- no key stands twice -/
def OnceV (gs : List Kv) : Prop := gs.Pairwise fun a b => a.1 ≠ b.1
/-- one put in, in whatever place -/
def putV (f : Kv) (gs : List Kv) : List Kv := f :: gs.filter fun g => decide (g.1 ≠ f.1)
/-- one struck out -/
def delV (p : ByteArray) (gs : List Kv) : List Kv := gs.filter fun g => decide (g.1 ≠ p)
theorem mem_putV {f g : Kv} {gs : List Kv} : g ∈ putV f gs ↔ g = f ∨ (g ∈ gs ∧ g.1 ≠ f.1) := by simp [putV]
theorem mem_delV {p : ByteArray} {g : Kv} {gs : List Kv} : g ∈ delV p gs ↔ g ∈ gs ∧ g.1 ≠ p := by simp [delV]
theorem putV_once {f : Kv} {gs : List Kv} (h : OnceV gs) : OnceV (putV f gs) :=
  List.pairwise_cons.2 ⟨fun g hg => by have := (List.mem_filter.1 hg).2; simp at this; exact fun e => this e.symm, List.Pairwise.filter _ h⟩
theorem OnceV.inj {gs : List Kv} (h : OnceV gs) {f g : Kv} (hf : f ∈ gs) (hg : g ∈ gs) (he : f.1 = g.1) : f = g := by
  induction gs with
  | nil => cases hf
  | cons x gs ih =>
    obtain ⟨h1, h2⟩ := List.pairwise_cons.1 h
    rcases List.mem_cons.1 hf with e1 | m1 <;> rcases List.mem_cons.1 hg with e2 | m2
    · rw [e1, e2]
    · subst e1; exact absurd he (h1 _ m2)
    · subst e2; exact absurd he.symm (h1 _ m1)
    · exact ih h2 m1 m2
/-- the map D holds just these -/
def RepV (D : DataW Value) (gs : List Kv) : Prop := ∃ es, D = .map es ∧ es.Perm (gs.map entV) ∧ OnceV gs
theorem repV_empty : RepV (.map []) [] := ⟨[], rfl, .nil, List.Pairwise.nil⟩
theorem entV_filter (p : ByteArray) (gs : List Kv) : ((gs.map entV).filter fun e => !e.1.sameKey (.string p.data.toList)) = (delV p gs).map entV := by
  unfold delV
  rw [List.filter_map]
  congr 1
  refine List.filter_congr fun g _ => ?_
  show (!(Lit.string g.1.data.toList).sameKey _) = _
  rw [sameKey_str]
  by_cases h : g.1 = p
  · simp [h]
  · have : ¬ g.1.data.toList = p.data.toList := fun e => h (bytes_ext e)
    simp only [this, h, decide_false, Bool.not_false, ne_eq, not_false_eq_true, decide_true]
theorem RepV.put {D : DataW Value} {gs : List Kv} (h : RepV D gs) (p : ByteArray) (v : Value) : RepV (D.put (.string p.data.toList) (.held v)) (putV (p, v) gs) := by
  obtain ⟨es, rfl, h1, h2⟩ := h
  refine ⟨_, rfl, (insert_perm _ _).trans ?_, putV_once h2⟩
  have h3 := h1.filter fun e => !e.1.sameKey (.string p.data.toList)
  rw [entV_filter] at h3
  exact h3.cons _
theorem RepV.del {D : DataW Value} {gs : List Kv} (h : RepV D gs) (p : ByteArray) : RepV (D.del (.string p.data.toList)) (delV p gs) := by
  obtain ⟨es, rfl, h1, h2⟩ := h
  refine ⟨_, rfl, ?_, List.Pairwise.filter _ h2⟩
  have h3 := h1.filter fun e => !e.1.sameKey (.string p.data.toList)
  rwa [entV_filter] at h3
theorem RepV.has {D : DataW Value} {gs : List Kv} (h : RepV D gs) (p : ByteArray) : Maps.has D (.string p.data.toList) = gs.any fun g => decide (g.1 = p) := by
  obtain ⟨es, rfl, h1, _⟩ := h
  rw [has_eq, h1.any_eq, List.any_map]
  congr 1
  funext g
  show (Lit.string g.1.data.toList).sameKey (.string p.data.toList) = decide (g.1 = p)
  rw [sameKey_str]
  by_cases hg : g.1 = p
  · simp [hg]
  · have : ¬ g.1.data.toList = p.data.toList := fun e => hg (bytes_ext e)
    simp [hg, this]
theorem atKey_some {H : Type} {es : List (Lit × DataW H)} {k : Lit} {z : DataW H} {e : Lit × DataW H} (h : es.find? (fun e => e.1.sameKey k) = some e) : (DataW.map es).atKey k z = e.2 := by unfold DataW.atKey; simp only [h]
theorem atKey_none {H : Type} {es : List (Lit × DataW H)} {k : Lit} {z : DataW H} (h : es.find? (fun e => e.1.sameKey k) = none) : (DataW.map es).atKey k z = z := by unfold DataW.atKey; simp only [h]
theorem RepV.at_ {D : DataW Value} {gs : List Kv} (h : RepV D gs) {p : ByteArray} {v : Value} (hm : (p, v) ∈ gs) (z : DataW Value) : D.atKey (.string p.data.toList) z = .held v := by
  obtain ⟨es, rfl, h1, h2⟩ := h
  cases hf : es.find? (fun e => e.1.sameKey (.string p.data.toList)) with
  | none =>
    rw [List.find?_eq_none] at hf
    have := hf (entV (p, v)) (h1.mem_iff.2 (List.mem_map.2 ⟨_, hm, rfl⟩))
    simp [entV, sameKey_str] at this
  | some e =>
    have hk := List.find?_some hf
    obtain ⟨g, hg, rfl⟩ := List.mem_map.1 (h1.mem_iff.1 (List.mem_of_find?_eq_some hf))
    simp [entV, sameKey_str] at hk
    rw [atKey_some hf]
    obtain rfl : g = (p, v) := h2.inj hg hm (bytes_ext (by simpa using hk))
    rfl
theorem RepV.none_ {D : DataW Value} {gs : List Kv} (h : RepV D gs) {p : ByteArray} (hm : ∀ g ∈ gs, g.1 ≠ p) (z : DataW Value) : D.atKey (.string p.data.toList) z = z := by
  obtain ⟨es, rfl, h1, h2⟩ := h
  cases hf : es.find? (fun e => e.1.sameKey (.string p.data.toList)) with
  | none => exact atKey_none hf
  | some e =>
    have hk := List.find?_some hf
    obtain ⟨g, hg, rfl⟩ := List.mem_map.1 (h1.mem_iff.1 (List.mem_of_find?_eq_some hf))
    simp [entV, sameKey_str] at hk
    exact absurd (bytes_ext (by simpa using hk)) (hm g hg)
end Go.Proofs.YtmmjeokmoffdpaaGreat
