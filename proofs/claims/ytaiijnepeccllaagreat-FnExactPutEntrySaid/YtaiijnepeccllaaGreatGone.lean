/-
  The early texts of this proof in one: plain words, lists in memory, and the contracts of the small functions.
-/
import Derived.WalkKit
import Derived.WalkLawsBesides
import Derived.WalkSpells
import Derived.Lib.Hide
import Derived.Lib.IndexBytes
import Derived.WideShapes
import Derived.Below
import Derived.Laws.OwnMore
import Derived.Deep.AppendLies
import Derived.Deep.Draws
import Derived.Laws.Rows
import Derived.Laws.MakeOwn
import Derived.Laws.Entries
import Derived.Test.YtaiijnepeccllaaGreatProg
import Derived.Deep.QuietTactic
import Derived.BigQuiet
import Derived.Maps.AppendAt
import Derived.OwnWalk
import Derived.Deep.Onto
import Derived.Laws.AppendOwnNone
import Derived.Laws.AppendOwn
import Derived.Outline
import Derived.Deep.RegionHeld3
import Derived.Sort.KeysCollected
import Derived.Deep.RegionLaw
import Derived.LoopNIn
import Derived.StillTailTactics
import Derived.Maps.OwnSet
import Derived.Maps.StringElems
import Derived.Shelf.SlIter.Nil
import Derived.Shelf.SortM.Plain
import Derived.Shelf.SortM.SortNone
import Derived.Deep.Slices
import Derived.Deep.Fields
import Derived.ChangeSame
import Derived.OpenShut
import Derived.Lib.SmallJoins

namespace Go.Proofs.YtaiijnepeccllaaGreat
set_option linter.unusedVariables false
open Go.RowKit

theorem ret_bool {a b : Bool} (h : a = b) : Ending.returned (.bool a) = .returned (.bool b) := by rw [h]
theorem ret_int {k : IntKind} {a b : Int} (h : a = b) : Ending.returned (.int k a) = .returned (.int k b) := by rw [h]
theorem ret_str {a b : ByteArray} (h : a = b) : Ending.returned (.string a) = .returned (.string b) := by rw [h]

/-- every byte of s lies between lo and hi -/
def btw (lo hi : Nat) (l : List UInt8) : Bool := l.all fun c => decide (lo ≤ c.toNat ∧ c.toNat ≤ hi)

theorem btw_take_succ (lo hi : Nat) (s : ByteArray) (k : Nat) (h : k < s.size) :
    btw lo hi (s.data.toList.take (k + 1)) = (btw lo hi (s.data.toList.take k) && decide (lo ≤ s[k].toNat ∧ s[k].toNat ≤ hi)) := by
  unfold btw
  rw [List.take_succ_eq_append_getElem (by simpa using h)]
  simp [List.all_append]
  rfl

theorem btw_false_of (lo hi : Nat) (s : ByteArray) (k : Nat) (h : k < s.size) (hb : ¬ (lo ≤ s[k].toNat ∧ s[k].toNat ≤ hi)) :
    btw lo hi s.data.toList = false := by
  unfold btw
  rw [List.all_eq_false]
  refine ⟨s.data.toList[k]'(by simpa using h), List.getElem_mem _, ?_⟩
  have hb' : ¬ (lo ≤ (s.data[k]'h).toNat ∧ (s.data[k]'h).toNat ≤ hi) := hb
  simpa using hb'

theorem sEq (a b : ByteArray) : (a.toList == b.toList) = decide (a = b) := by
  rw [Lib.toList_data, Lib.toList_data]
  by_cases h : a = b
  · subst h; simp
  · have h2 : ¬ a.data = b.data := fun e => h (WideShapes.bytes_inj (by rw [e]))
    simp [h, h2]
/-- the order of strings -/
def sLess (a b : ByteArray) : Bool := Op.bytesLess a.toList b.toList

def pathB (s : ByteArray) : Bool := decide (1 ≤ s.size) && decide (s.size ≤ 8) && btw 97 122 s.data.toList
def textB (s : ByteArray) : Bool := decide (s.size ≤ 60) && btw 32 126 s.data.toList


theorem btw_iff (lo hi : Nat) (l : List UInt8) : btw lo hi l = true ↔ ∀ c ∈ l, lo ≤ c.toNat ∧ c.toNat ≤ hi := by
  unfold btw; simp
theorem btw_append (lo hi : Nat) (a b : ByteArray) : btw lo hi (a ++ b).data.toList = (btw lo hi a.data.toList && btw lo hi b.data.toList) := by
  unfold btw; simp
theorem btw_extract {lo hi : Nat} {s : ByteArray} (h : btw lo hi s.data.toList = true) (i j : Nat) : btw lo hi (s.extract i j).data.toList = true := by
  rw [btw_iff] at h ⊢
  intro c hc
  refine h c ?_
  rw [ByteArray.data_extract, Array.toList_extract] at hc
  exact List.mem_of_mem_drop (List.mem_of_mem_take hc)
theorem pathB_iff (s : ByteArray) : pathB s = true ↔ 1 ≤ s.size ∧ s.size ≤ 8 ∧ btw 97 122 s.data.toList = true := by
  unfold pathB; simp [and_assoc]
theorem textB_iff (s : ByteArray) : textB s = true ↔ s.size ≤ 60 ∧ btw 32 126 s.data.toList = true := by
  unfold textB; simp
theorem path_q {s : ByteArray} (h : pathB s = true) : pathB (s ++ { data := #[113] }) = decide ((s.size : Int) < 8) := by
  obtain ⟨h1, h2, h3⟩ := (pathB_iff s).1 h
  unfold pathB
  rw [btw_append, h3, ByteArray.size_append, show ({ data := #[113] } : ByteArray).size = 1 from rfl, show btw 97 122 ({ data := #[113] } : ByteArray).data.toList = true from rfl]
  rw [decide_eq_true (show 1 ≤ s.size + 1 by omega)]
  simp
  omega
theorem path_tail {s : ByteArray} (h : pathB s = true) : pathB (s.extract 1 s.size) = decide ((1 : Int) < s.size) := by
  obtain ⟨h1, h2, h3⟩ := (pathB_iff s).1 h
  unfold pathB
  rw [btw_extract h3, ByteArray.size_extract, decide_eq_true (show min s.size s.size - 1 ≤ 8 by omega)]
  simp
  omega
theorem path_text {s : ByteArray} (h : pathB s = true) : textB s = true := by
  obtain ⟨h1, h2, h3⟩ := (pathB_iff s).1 h
  refine (textB_iff s).2 ⟨by omega, ?_⟩
  rw [btw_iff] at h3 ⊢
  intro c hc
  have := h3 c hc
  omega
theorem path_blank (s : ByteArray) : pathB (s ++ { data := #[32] }) = false := by
  unfold pathB
  rw [btw_append, show btw 97 122 ({ data := #[32] } : ByteArray).data.toList = false from rfl]
  simp
theorem text_tail {s : ByteArray} (h : textB s = true) (i : Nat) : textB (s.extract i s.size) = true := by
  obtain ⟨h1, h2⟩ := (textB_iff s).1 h
  exact (textB_iff _).2 ⟨by rw [ByteArray.size_extract]; omega, btw_extract h2 _ _⟩
theorem text_append {a b : ByteArray} (ha : textB a = true) (hb : textB b = true) : textB (a ++ b) = decide ((a.size : Int) + b.size ≤ 60) := by
  obtain ⟨h1, h2⟩ := (textB_iff a).1 ha
  obtain ⟨h3, h4⟩ := (textB_iff b).1 hb
  unfold textB
  rw [btw_append, h2, h4, ByteArray.size_append]
  simp
  omega
end Go.Proofs.YtaiijnepeccllaaGreat

namespace Go.Proofs.YtaiijnepeccllaaGreat
set_option linter.unusedVariables false
open Go.RowKit

theorem below_drewN {B : Nat} {a w : World} (h : Below B a w) (n : Nat) : Below B a (w.drewN n) := ⟨h.os, h.tape, h.output, h.size, h.block⟩

/-- a file: its path and its text -/
abbrev Fl := ByteArray × ByteArray

def fcells (fs : List Fl) : List Value := fs.flatMap fun f => [.string f.1, .string f.2]
theorem fcells_nil : fcells [] = [] := rfl
theorem fcells_cons (f : Fl) (fs : List Fl) : fcells (f :: fs) = .string f.1 :: .string f.2 :: fcells fs := rfl
theorem fcells_append (a b : List Fl) : fcells (a ++ b) = fcells a ++ fcells b := by simp [fcells]
theorem fcells_length (fs : List Fl) : (fcells fs).length = fs.length * 2 := by
  induction fs with
  | nil => rfl
  | cons f fs ih => rw [fcells_cons]; simp [ih]; omega
theorem fcells_get (fs : List Fl) : ∀ {k : Nat} {p t : ByteArray}, fs[k]? = some (p, t) → (fcells fs)[k * 2]? = some (.string p) ∧ (fcells fs)[k * 2 + 1]? = some (.string t) := by
  induction fs with
  | nil => intro k p t h; simp at h
  | cons f fs ih =>
    intro k p t h
    cases k with
    | zero => simp at h; subst h; exact ⟨rfl, rfl⟩
    | succ k =>
      have := ih (k := k) (p := p) (t := t) (by simpa using h)
      rw [fcells_cons, show (k + 1) * 2 = k * 2 + 1 + 1 from by omega]
      simpa using this
theorem fcells_inv (fs : List Fl) : ∀ {j : Nat} {u : Value}, (fcells fs)[j]? = some u → ∃ (k : Nat) (p t : ByteArray), fs[k]? = some (p, t) ∧ ((j = k * 2 ∧ u = .string p) ∨ (j = k * 2 + 1 ∧ u = .string t)) := by
  induction fs with
  | nil => intro j u h; simp [fcells] at h
  | cons f fs ih =>
    intro j u h
    rw [fcells_cons] at h
    match j with
    | 0 => simp at h; exact ⟨0, f.1, f.2, rfl, .inl ⟨rfl, h.symm⟩⟩
    | 1 => simp at h; exact ⟨0, f.1, f.2, rfl, .inr ⟨rfl, h.symm⟩⟩
    | j + 2 =>
      simp at h
      obtain ⟨k, p, t, hk, hh⟩ := ih h
      refine ⟨k + 1, p, t, by simpa using hk, ?_⟩
      rcases hh with ⟨rfl, hu⟩ | ⟨rfl, hu⟩
      · exact .inl ⟨by omega, hu⟩
      · exact .inr ⟨by omega, hu⟩
theorem fcells_oneCell (fs : List Fl) : ∀ u ∈ fcells fs, u.oneCell' = true := by
  intro u hu
  simp [fcells] at hu
  obtain ⟨a, b, _, rfl | rfl⟩ := hu <;> rfl

/-- each string of the list fits -/
def Fits (fs : List Fl) : Prop := ∀ f ∈ fs, f.1.size ≤ maxLen ∧ f.2.size ≤ maxLen
theorem Fits.get {fs : List Fl} (h : Fits fs) {k : Nat} {p t : ByteArray} (hk : fs[k]? = some (p, t)) : p.size ≤ maxLen ∧ t.size ≤ maxLen := h _ (List.mem_of_getElem? hk)

/-- the bytes of a list of files -/
def tot : List Fl → Nat
  | [] => 0
  | f :: fs => f.1.size + f.2.size + tot fs
theorem tot_append (a b : List Fl) : tot (a ++ b) = tot a + tot b := by
  induction a with
  | nil => simp [tot]
  | cons f a ih => simp only [List.cons_append, tot, ih]; omega
theorem tot_take_succ {fs : List Fl} {k : Nat} {p t : ByteArray} (h : fs[k]? = some (p, t)) : tot (fs.take (k + 1)) = tot (fs.take k) + (p.size + t.size) := by
  rw [List.take_add_one, h, tot_append]
  simp [tot]
theorem tot_take_le (fs : List Fl) (k : Nat) : tot (fs.take k) ≤ tot fs := by
  have h := tot_append (fs.take k) (fs.drop k)
  rw [List.take_append_drop] at h
  omega

/-- is the file at place k as a valid list has it? -/
def okAt (fs : List Fl) (k : Nat) : Bool :=
  match fs[k]? with
  | none => true
  | some (p, t) => pathB p && textB t && (match k with
    | 0 => true
    | j + 1 => match fs[j]? with
      | none => true
      | some (q, _) => sLess q p)
def okTo (fs : List Fl) (k : Nat) : Bool := (List.range k).all (okAt fs)
theorem okTo_succ (fs : List Fl) (k : Nat) : okTo fs (k + 1) = (okTo fs k && okAt fs k) := by
  simp [okTo, List.range_succ]
theorem okTo_step {fs : List Fl} {k : Nat} (h1 : okTo fs k = true) (h2 : okAt fs k = true) : okTo fs (k + 1) = true := by rw [okTo_succ, h1, h2]; rfl
theorem okTo_false {fs : List Fl} {k n : Nat} (hk : k < n) (h : okAt fs k = false) : okTo fs n = false := by
  unfold okTo
  rw [List.all_eq_false]
  exact ⟨k, by simpa using hk, by simp [h]⟩
theorem okAt_path {fs : List Fl} {k : Nat} {p t : ByteArray} (hg : fs[k]? = some (p, t)) (h : pathB p = false) : okAt fs k = false := by
  unfold okAt; rw [hg]; simp [h]
theorem okAt_text {fs : List Fl} {k : Nat} {p t : ByteArray} (hg : fs[k]? = some (p, t)) (h : textB t = false) : okAt fs k = false := by
  unfold okAt; rw [hg]; simp [h]
theorem okAt_zero {fs : List Fl} {p t : ByteArray} (hg : fs[0]? = some (p, t)) (h1 : pathB p = true) (h2 : textB t = true) : okAt fs 0 = true := by
  unfold okAt; rw [hg]; simp [h1, h2]
theorem okAt_succ {fs : List Fl} {k : Nat} {p t q r : ByteArray} (hg : fs[k + 1]? = some (p, t)) (hq : fs[k]? = some (q, r)) (h1 : pathB p = true) (h2 : textB t = true) : okAt fs (k + 1) = sLess q p := by
  unfold okAt; rw [hg]; simp [h1, h2, hq]
def validB (fs : List Fl) : Bool := decide (fs.length ≤ 12) && okTo fs fs.length

theorem validB_false {fs : List Fl} {n k : Nat} {p t : ByteArray} (hl : fs.length = n) (hk : k < n) (_hg : fs[k]? = some (p, t)) (h : okAt fs k = false) : validB fs = false := by
  unfold validB
  rw [okTo_false (n := fs.length) (by omega) h, Bool.and_false]
theorem validB_all {fs : List Fl} {n : Nat} (hl : fs.length = n) (h : okTo fs n = true) : validB fs = decide ((n : Int) ≤ 12) := by
  unfold validB
  rw [hl, h, Bool.and_true]
  congr 1
  exact propext (by omega)

/-- the text of the first file with this path -/
def findF : List Fl → ByteArray → ByteArray × Bool
  | [], _ => (.empty, false)
  | f :: fs, x => if f.1 = x then (f.2, true) else findF fs x
theorem findF_none {fs : List Fl} {x : ByteArray} (h : ∀ (j : Nat) (p t : ByteArray), fs[j]? = some (p, t) → p ≠ x) : findF fs x = (.empty, false) := by
  induction fs with
  | nil => rfl
  | cons f fs ih =>
    rw [findF, if_neg (h 0 f.1 f.2 rfl)]
    exact ih fun j p t hj => h (j + 1) p t (by simpa using hj)
theorem findF_at {fs : List Fl} {x t : ByteArray} : ∀ {k : Nat}, (∀ (j : Nat) (p t : ByteArray), j < k → fs[j]? = some (p, t) → p ≠ x) → fs[k]? = some (x, t) → findF fs x = (t, true) := by
  induction fs with
  | nil => intro k _ h; simp at h
  | cons f fs ih =>
    intro k h hk
    cases k with
    | zero => simp at hk; subst hk; simp [findF]
    | succ k =>
      rw [findF, if_neg (h 0 f.1 f.2 (by omega) rfl)]
      exact ih (k := k) (fun j p t hj hjj => h (j + 1) p t (by omega) (by simpa using hjj)) (by simpa using hk)

/-- none of the first k files has this path -/
def notTo (fs : List Fl) (x : ByteArray) (k : Nat) : Prop := ∀ (j : Nat) (p t : ByteArray), j < k → fs[j]? = some (p, t) → p ≠ x
theorem notTo_zero (fs : List Fl) (x : ByteArray) : notTo fs x 0 := fun j p t h => absurd h (by omega)
theorem notTo_step {fs : List Fl} {x p t : ByteArray} {k : Nat} (h : notTo fs x k) (hg : fs[k]? = some (p, t)) (hp : ¬ p = x) : notTo fs x (k + 1) := by
  intro j p' t' hj hg'
  by_cases e : j = k
  · subst e; rw [hg] at hg'; cases hg'; exact hp
  · exact h j p' t' (by omega) hg'
theorem notTo_all {fs : List Fl} {x : ByteArray} {n : Nat} (hl : fs.length = n) (h : notTo fs x n) : findF fs x = (.empty, false) :=
  findF_none fun j p t hj => h j p t (by have := (List.getElem?_eq_some_iff.1 hj).1; omega) hj

/-- the bytes of the text of a list of files -/
def fmtF (fs : List Fl) : List UInt8 := fs.flatMap fun f => f.1.data.toList ++ [32] ++ f.2.data.toList ++ [10]
def fmtS (fs : List Fl) : ByteArray := if validB fs = true then ⟨(fmtF fs).toArray⟩ else .empty
theorem fmtF_take_succ {fs : List Fl} {k : Nat} {p t : ByteArray} (h : fs[k]? = some (p, t)) : fmtF (fs.take (k + 1)) = fmtF (fs.take k) ++ p.data.toList ++ [32] ++ t.data.toList ++ [10] := by
  unfold fmtF
  rw [List.take_add_one, h]
  simp
theorem okTo_le {fs : List Fl} {k n : Nat} (h : okTo fs n = true) (hk : k < n) : okAt fs k = true := by
  unfold okTo at h
  rw [List.all_eq_true] at h
  exact h k (by simpa using hk)
theorem okAt_sizes {fs : List Fl} {k : Nat} {p t : ByteArray} (h : okAt fs k = true) (hg : fs[k]? = some (p, t)) : p.size ≤ 8 ∧ t.size ≤ 60 := by
  unfold okAt at h
  rw [hg] at h
  simp only [Bool.and_eq_true] at h
  exact ⟨((pathB_iff p).1 h.1.1).2.1, ((textB_iff t).1 h.1.2).1⟩
theorem valid_sizes {fs : List Fl} (h : validB fs = true) {k : Nat} {p t : ByteArray} (hg : fs[k]? = some (p, t)) : p.size ≤ 8 ∧ t.size ≤ 60 := by
  unfold validB at h
  simp only [Bool.and_eq_true] at h
  exact okAt_sizes (okTo_le h.2 (List.getElem?_eq_some_iff.1 hg).1) hg
theorem valid_length {fs : List Fl} (h : validB fs = true) : fs.length ≤ 12 := by
  unfold validB at h
  simp only [Bool.and_eq_true, decide_eq_true_eq] at h
  exact h.1
theorem fmtF_length {fs : List Fl} (h : validB fs = true) : ∀ {k : Nat}, k ≤ fs.length → (fmtF (fs.take k)).length ≤ 70 * k := by
  intro k
  induction k with
  | zero => intro _; simp [fmtF]
  | succ k ih =>
    intro hk
    have hg : fs[k]? = some (fs[k].1, fs[k].2) := List.getElem?_eq_getElem (by omega)
    have := ih (by omega)
    have hs := valid_sizes h hg
    have e1 : fs[k].1.data.size ≤ 8 := hs.1
    have e2 : fs[k].2.data.size ≤ 60 := hs.2
    rw [fmtF_take_succ hg]
    simp only [List.length_append, Array.length_toList, List.length_cons, List.length_nil]
    omega

theorem add_none (b off i : Nat) : (⟨b, off, none⟩ : Addr).add i = ⟨b, off + i, none⟩ := by
  unfold Addr.add; by_cases h : i = 0 <;> simp [h]

/-- the slice at a of n elements reads as the files fs and lies below block B -/
def FilesAt (w : World) (B : Nat) (a : Option Addr) (n : Nat) (fs : List Fl) : Prop :=
  fs.length = n ∧ (0 < n → ∃ b off, a = some ⟨b, off, none⟩ ∧ b < B ∧ ∀ j u, (fcells fs)[j]? = some u → w.cell? ⟨b, off + j, none⟩ = some u)

section
variable {w w' : World} {B B' n : Nat} {a : Option Addr} {fs : List Fl}
theorem FilesAt.get (h : FilesAt w B a n fs) {k : Nat} (hk : k < n) :
    ∃ b off p t, a = some ⟨b, off, none⟩ ∧ b < B ∧ fs[k]? = some (p, t) ∧ w.cell? ⟨b, off + k * 2, none⟩ = some (.string p) ∧ w.cell? ⟨b, off + k * 2 + 1, none⟩ = some (.string t) := by
  obtain ⟨b, off, ha, hb, hc⟩ := h.2 (by omega)
  have hl : k < fs.length := by have := h.1; omega
  have hg : fs[k]? = some (fs[k].1, fs[k].2) := List.getElem?_eq_getElem hl
  obtain ⟨h1, h2⟩ := fcells_get fs hg
  exact ⟨b, off, _, _, ha, hb, hg, hc _ _ h1, by have := hc _ _ h2; rwa [← Nat.add_assoc] at this⟩
theorem FilesAt.keep (h : FilesAt w B a n fs) (hk : ∀ p : Addr, p.block < B → w'.cell? p = w.cell? p) : FilesAt w' B a n fs :=
  ⟨h.1, fun hn => by
    obtain ⟨b, off, ha, hb, hc⟩ := h.2 hn
    exact ⟨b, off, ha, hb, fun j u hu => (hk ⟨b, off + j, none⟩ hb).trans (hc j u hu)⟩⟩
theorem FilesAt.more (h : FilesAt w B a n fs) (hB : B ≤ B') : FilesAt w B' a n fs :=
  ⟨h.1, fun hn => by
    obtain ⟨b, off, ha, hb, hc⟩ := h.2 hn
    exact ⟨b, off, ha, by omega, hc⟩⟩
theorem FilesAt.below (h : FilesAt w B a n fs) (hb : Below B w w') : FilesAt w' B a n fs := h.keep fun _ hp => hb.cell hp
theorem FilesAt.drew (h : FilesAt w B a n fs) : FilesAt w.drew B a n fs := h
theorem FilesAt.drewN (h : FilesAt w B a n fs) (k : Nat) : FilesAt (w.drewN k) B a n fs := h
theorem FilesAt.alloc (h : FilesAt w B a n fs) (hB : B ≤ w.heap.size) (o : Obj) : FilesAt (w.alloc o) B a n fs := h.keep fun p hp => World.cell?_alloc_lt w o p (by omega)
end

theorem make_row {P : Program} (t e : TypeId) (i : TypeInfo) (z : Value) (ht : P.underlying t = some (.slice e)) (hi : P.info? e = some i) (hz : i.zero = some z)
    (kl kc : IntKind) (n c : Nat) (hnc : n ≤ c) (hbytes : i.bytes * c ≤ 281474976710656) (h63 : c ≤ 9223372036854775807) (w : World) :
    (Instr.makeSlice t (.int kl (n : Int)) (.int kc (c : Int))).run P w = .ok (.slice (some ⟨w.heap.size, 0, none⟩) n c) (w.alloc (.cells (madeCells z.cells (c * i.size)) e)) := by
  have hb : (i.bytes : Int) * (c : Int) ≤ 281474976710656 := by
    have h : ((i.bytes * c : Nat) : Int) ≤ 281474976710656 := by omega
    rwa [Int.natCast_mul] at h
  have hr := run_make (P := P) w t e i z ht hi hz kl kc n c (by omega) (by omega) hb (by omega)
  simp only [Int.toNat_natCast] at hr
  exact hr

theorem blk_lt {w : World} {g : Nat} {o : Obj} (h : w.heap[g]? = some o) : g < w.heap.size := by
  rcases Nat.lt_or_ge g w.heap.size with hlt | hge
  · exact hlt
  · rw [Array.getElem?_eq_none hge] at h; cases h
theorem blk_frozen {w : World} {g : Nat} {e : TypeId} {cs : Array Value} (h : w.heap[g]? = some (.cells cs e (0, 0))) (i : Nat) : w.frozen? ⟨g, i, none⟩ = false := by
  simp [World.frozen?, h]

theorem blk_set {w : World} {g : Nat} {e : TypeId} {cs : Array Value} (h : w.heap[g]? = some (.cells cs e (0, 0))) (i : Nat) (u : Value) :
    (w.setCell ⟨g, i, none⟩ u).heap[g]? = some (.cells (cs.setIfInBounds i u) e (0, 0)) := by
  simp [World.setCell, Array.getElem?_modify, h]
theorem fill_two {l xs : List Value} {k : Nat} (u v : Value) (hl : k * 2 + 1 < l.length) (h : l.take (k * 2) = xs) :
    ((l.set (k * 2) u).set (k * 2 + 1) v).take ((k + 1) * 2) = xs ++ [u, v] := by
  subst h
  rw [show (k + 1) * 2 = k * 2 + 1 + 1 from by omega, List.take_add_one, List.take_add_one]
  simp [List.take_set_of_le, hl, show k * 2 < l.length from by omega]
theorem fcells_take_succ {fs : List Fl} {k : Nat} {p t : ByteArray} (h : fs[k]? = some (p, t)) : fcells (fs.take (k + 1)) = fcells (fs.take k) ++ [.string p, .string t] := by
  rw [List.take_add_one, h, fcells_append]
  simp [fcells]
theorem fill_file {cur : Array Value} {fs : List Fl} {n k : Nat} {p t : ByteArray} (hsz : cur.size = n * 2) (hk : k < n) (hcur : cur.toList.take (k * 2) = fcells (fs.take k)) (hg : fs[k]? = some (p, t)) :
    (((cur.setIfInBounds (k * 2) (.string p)).setIfInBounds (k * 2 + 1) (.string t)).toList).take ((k + 1) * 2) = fcells (fs.take (k + 1)) := by
  rw [fcells_take_succ hg]
  have := fill_two (l := cur.toList) (k := k) (.string p) (.string t) (by simp; omega) hcur
  simpa using this

theorem take_eq_succ {fs gs : List Fl} {k : Nat} {p t p' t' : ByteArray} (h : fs.take k = gs.take k) (h1 : fs[k]? = some (p, t)) (h2 : gs[k]? = some (p', t')) (he : (p, t) = (p', t')) : fs.take (k + 1) = gs.take (k + 1) := by
  rw [List.take_add_one, List.take_add_one, h1, h2, h, he]
theorem ne_of_get {fs gs : List Fl} {k : Nat} {p t p' t' : ByteArray} (h1 : fs[k]? = some (p, t)) (h2 : gs[k]? = some (p', t')) (he : ¬ (p, t) = (p', t')) : ¬ fs = gs := by
  rintro rfl
  rw [h1] at h2
  exact he (Option.some.inj h2)

/-- block g is a row of elements of type e that reads as the files fs, none of it frozen -/
def OwnF (w : World) (e : TypeId) (g : Nat) (fs : List Fl) : Prop := w.heap[g]? = some (.cells (fcells fs).toArray e (0, 0))

section
variable {w w' : World} {g : Nat} {e : TypeId} {fs : List Fl}
theorem OwnF.lt (h : OwnF w e g fs) : g < w.heap.size := by
  rcases Nat.lt_or_ge g w.heap.size with hlt | hge
  · exact hlt
  · unfold OwnF at h; rw [Array.getElem?_eq_none hge] at h; cases h
theorem OwnF.cell (h : OwnF w e g fs) (i : Nat) : w.cell? ⟨g, i, none⟩ = (fcells fs)[i]? := by
  have := cell_of_row w g i (fcells fs).toArray e (0, 0) h
  simpa using this
theorem OwnF.frozen (h : OwnF w e g fs) (i : Nat) : w.frozen? ⟨g, i, none⟩ = false := by
  unfold OwnF at h
  simp [World.frozen?, h]
theorem OwnF.drew (h : OwnF w e g fs) : OwnF w.drew e g fs := h
theorem OwnF.drewN (h : OwnF w e g fs) (n : Nat) : OwnF (w.drewN n) e g fs := h
theorem OwnF.alloc (h : OwnF w e g fs) (o : Obj) : OwnF (w.alloc o) e g fs := (Below.heap_alloc w o g h.lt).trans h
theorem OwnF.below {B : Nat} (h : OwnF w e g fs) (hb : Below B w w') (hg : g < B) : OwnF w' e g fs := (hb.block g hg).trans h
theorem OwnF.far (h : OwnF w e g fs) {p : Addr} (hp : g ≠ p.block) (u : Value) : OwnF (w.setCell p u) e g fs := (Below.heap_setCell w p u g hp).trans h
theorem OwnF.in_ {n : Nat} (h : OwnF w e g fs) (hl : fs.length = n) : FilesAt w w.heap.size (some ⟨g, 0, none⟩) n fs :=
  ⟨hl, fun _ => ⟨g, 0, rfl, h.lt, fun j u hu => by rw [Nat.zero_add, h.cell, hu]⟩⟩
theorem OwnF.at_ (h : OwnF w e g fs) : FilesAt w (g + 1) (some ⟨g, 0, none⟩) fs.length fs :=
  ⟨rfl, fun _ => ⟨g, 0, rfl, by omega, fun j u hu => by rw [Nat.zero_add, h.cell, hu]⟩⟩
end

theorem fcells_set1 {s t : ByteArray} : ∀ {fs : List Fl} {k : Nat} {p : ByteArray}, fs[k]? = some (p, t) → fcells (fs.set k (s, t)) = (fcells fs).set (k * 2) (.string s) := by
  intro fs
  induction fs with
  | nil => intro k p h; simp at h
  | cons f fs ih =>
    intro k p h
    cases k with
    | zero => simp at h; subst h; rfl
    | succ k =>
      rw [List.set_cons_succ, fcells_cons, fcells_cons, show (k + 1) * 2 = k * 2 + 1 + 1 from by omega, List.set_cons_succ, List.set_cons_succ, ih (by simpa using h)]
theorem fcells_set2 {s p : ByteArray} : ∀ {fs : List Fl} {k : Nat} {t : ByteArray}, fs[k]? = some (p, t) → fcells (fs.set k (p, s)) = (fcells fs).set (k * 2 + 1) (.string s) := by
  intro fs
  induction fs with
  | nil => intro k t h; simp at h
  | cons f fs ih =>
    intro k t h
    cases k with
    | zero => simp at h; subst h; rfl
    | succ k =>
      rw [List.set_cons_succ, fcells_cons, fcells_cons, show (k + 1) * 2 + 1 = k * 2 + 1 + 1 + 1 from by omega, List.set_cons_succ, List.set_cons_succ, ih (by simpa using h)]
end Go.Proofs.YtaiijnepeccllaaGreat

namespace Go.Proofs.YtaiijnepeccllaaGreat
set_option linter.unusedVariables false
open Go.RowKit

/-- one round of l1Put -/
def putStep (f : Fl) (s : List Fl × Bool) (x : Fl) : List Fl × Bool :=
  let s1 := if s.2 = false ∧ sLess x.1 f.1 = false then (s.1 ++ [f], true) else s
  (if x.1 = f.1 then s1.1 else s1.1 ++ [x], s1.2)
def putTo (f : Fl) (fs : List Fl) : List Fl × Bool := fs.foldl (putStep f) ([], false)
def putF (f : Fl) (fs : List Fl) : List Fl := if (putTo f fs).2 = true then (putTo f fs).1 else (putTo f fs).1 ++ [f]
theorem putTo_succ {f : Fl} {fs : List Fl} {k : Nat} {p t : ByteArray} (h : fs[k]? = some (p, t)) : putTo f (fs.take (k + 1)) = putStep f (putTo f (fs.take k)) (p, t) := by
  unfold putTo
  rw [List.take_add_one, h, List.foldl_append]
  rfl
def owed : Bool → Nat | true => 0 | false => 1
theorem putStep_length (f : Fl) (s : List Fl × Bool) (x : Fl) : (putStep f s x).1.length + owed (putStep f s x).2 ≤ s.1.length + owed s.2 + 1 := by
  obtain ⟨l, b⟩ := s
  unfold putStep
  cases b <;> cases sLess x.1 f.1 <;> by_cases h : x.1 = f.1 <;> simp [h, owed]
theorem putTo_owed (f : Fl) (l : List Fl) : ∀ s : List Fl × Bool, (l.foldl (putStep f) s).1.length + owed (l.foldl (putStep f) s).2 ≤ s.1.length + owed s.2 + l.length := by
  induction l with
  | nil => intro s; simp
  | cons x l ih =>
    intro s
    have h1 := ih (putStep f s x)
    have h2 := putStep_length f s x
    simp only [List.foldl_cons, List.length_cons]
    omega
theorem putTo_length (f : Fl) (fs : List Fl) : (putTo f fs).1.length ≤ fs.length + 1 := by
  have := putTo_owed f fs ([], false)
  unfold putTo
  simp [owed] at this ⊢
  omega

theorem fput_info : (Tryz.prog.info? 62).map (fun i => (i.zero, i.size, i.bytes)) = some (some (.agg #[.string .empty, .string .empty]), 2, 32) := by kernel_rfl

/-- the slice v is the call's own row of the files fs -/
def OwnsF (w : World) (base : Nat) (v : Value) (fs : List Fl) : Prop := w.ownsRow base 62 2 v fs.length (fcells fs)
theorem two_new (w : World) (x y : Value) (t : TypeId) : ∀ j u, [x, y][j]? = some u → (w.alloc (.cells #[x, y] t)).cell? ((⟨w.heap.size, 0, none⟩ : Addr).add j) = some u := by
  intro j u h
  rw [add_none, cell_of_row _ _ _ _ _ _ (heap_alloc_new w _)]
  simpa using h

theorem OwnsF.drewN {w : World} {base : Nat} {v : Value} {fs : List Fl} (h : OwnsF w base v fs) (k : Nat) : OwnsF (w.drewN k) base v fs := h
theorem OwnsF.row {w : World} {base : Nat} {v : Value} {fs : List Fl} (h : OwnsF w base v fs) (k : Nat) (o : Obj) : ((w.drewN k).alloc o).ownsRow base 62 2 v fs.length (fcells fs) := World.ownsRow.alloc (h.drewN k) o
theorem OwnsF.grew {w : World} {base : Nat} {v : Value} {fs : List Fl} {p t : ByteArray} (h : w.ownsRow base 62 2 v (fs.length + 1) (fcells fs ++ [.string p, .string t])) : OwnsF w base v (fs ++ [(p, t)]) := by
  unfold OwnsF
  rw [fcells_append, List.length_append]
  exact h
theorem own_at {w : World} {base e size n : Nat} {v : Value} {xs : List Value} (h : w.ownsRow base e size v n xs) : ∀ k, v.ownBlock = some k → base ≤ k := fun k hk => (h.lt k hk).1

theorem kept_cell {wr w2 : World} {base k : Nat} {v : Value} {fs : List Fl} {o : Obj} {i : Addr} {x : Value} (hown : OwnsF wr base v fs) (hg : ((wr.drewN k).alloc o).grownBy w2 v.ownBlock) (h : wr.cell? i = some x) (hi : i.block < base) : w2.cell? i = some x := by
  have hlt := World.block_lt_of_cell? wr i h
  refine World.grownBy.cell hg ((World.cell?_alloc_lt (wr.drewN k) o i hlt).trans h) (fun e => ?_)
  have := own_at hown _ e.symm
  omega
theorem kept_below {a wr w2 : World} {base k : Nat} {v : Value} {fs : List Fl} {o : Obj} (hB : Below base a wr) (hs : base ≤ wr.heap.size) (hown : OwnsF wr base v fs) (hg : ((wr.drewN k).alloc o).grownBy w2 v.ownBlock) : Below base a w2 :=
  ((below_drewN hB k).alloc hs o).grown hg (by rw [World.size_alloc]; exact Nat.le_succ_of_le hs) (own_at hown)

theorem row_below {w w' : World} {B base size n g m cap : Nat} {e : TypeId} {xs : List Value} (h : w.ownsRow base e size (.slice (some ⟨g, 0, none⟩) m cap) n xs) (hB : Below B w w') (hb : g < B) : w'.ownsRow base e size (.slice (some ⟨g, 0, none⟩) m cap) n xs := by
  refine ⟨h.1, h.2.imp id ?_⟩
  rintro ⟨g', cap', cur, e1, h1, h2, r⟩
  cases e1
  exact ⟨g, cap, cur, rfl, h1, (hB.block g hb).trans h2, r⟩
theorem row_cells {w : World} {base size n g m cap : Nat} {e : TypeId} {xs : List Value} (h : w.ownsRow base e size (.slice (some ⟨g, 0, none⟩) m cap) n xs) (j : Nat) (u : Value) (hu : xs[j]? = some u) : w.cell? ⟨g, j, none⟩ = some u := by
  have := World.ownsRow.cells h (g := g) rfl j u hu
  rwa [add_none, Nat.zero_add] at this

end Go.Proofs.YtaiijnepeccllaaGreat

namespace Go.Proofs.YtaiijnepeccllaaGreat
set_option linter.unusedVariables false
open Go.RowKit

theorem OwnsF.form {w : World} {base : Nat} {v : Value} {fs : List Fl} (h : OwnsF w base v fs) : ∃ a c, v = .slice a fs.length c ∧ FilesAt w w.heap.size a fs.length fs := by
  rcases h.2 with ⟨rfl, h0⟩ | ⟨g, cap, cur, rfl, hb, hg, hn, hc, hs, ht⟩
  · exact ⟨none, 0, by rw [h0], rfl, fun hn => absurd hn (by omega)⟩
  · refine ⟨_, _, rfl, rfl, fun _ => ⟨g, 0, rfl, blk_lt hg, fun j u hu => ?_⟩⟩
    have := World.ownsRow.cells h (g := g) rfl j u hu
    rwa [add_none] at this

/-- what a function leaves that hands back a new list and a bool -/
def ListB (r : List Fl × Bool) (w : World) (e : Ending) (w' : World) : Prop :=
  ∃ v, e = .returned (.tuple #[v, .bool r.2]) ∧ OwnsF w' w.heap.size v r.1 ∧ Below w.heap.size w w'
theorem ListB.none {r : List Fl × Bool} {w w' : World} (h : r = ([], false)) (hb : Below w.heap.size w w') : ListB r w (.returned (.tuple #[.slice none 0 0, .bool false])) w' := by
  subst h
  exact ⟨_, rfl, World.ownsRow_nil _ _ _ _, hb⟩
theorem ListB.some {r : List Fl × Bool} {gs : List Fl} {v : Value} {w w' : World} (h : r = (gs, true)) (ho : OwnsF w' w.heap.size v gs) (hb : Below w.heap.size w w') : ListB r w (.returned (.tuple #[v, .bool true])) w' := by
  subst h
  exact ⟨v, rfl, ho, hb⟩
theorem ListB.empty {r : List Fl × Bool} {v : Value} {w w' : World} (h : r = ([], false)) (ho : OwnsF w' w.heap.size v []) (hb : Below w.heap.size w w') : ListB r w (.returned (.tuple #[v, .bool false])) w' := by
  subst h
  exact ⟨v, rfl, ho, hb⟩
theorem FilesAt.in1 {w : World} {a : Option Addr} {n : Nat} {fs : List Fl} (h : FilesAt w w.heap.size a n fs) (o : Obj) : FilesAt (w.alloc o) (w.alloc o).heap.size a n fs := (h.alloc (Nat.le_refl _) o).more (by simp)
theorem own_raise {w w' : World} {B : Nat} {v : Value} {fs : List Fl} (h : OwnsF w B v fs) (hb : Below w.heap.size w w') : OwnsF w' B v fs := by
  refine ⟨h.1, h.2.imp id ?_⟩
  rintro ⟨g, cap, cur, e1, h1, h2, r⟩
  exact ⟨g, cap, cur, e1, h1, (hb.block g (blk_lt h2)).trans h2, r⟩
theorem own_lower {w : World} {B C : Nat} {v : Value} {fs : List Fl} (h : OwnsF w B v fs) (hc : C ≤ B) : OwnsF w C v fs := World.ownsRow.mono h hc

/-- what a function leaves that hands back a readable list and a bool -/
def ListR (xs : List Fl) (xb : Bool) (w : World) (e : Ending) (w' : World) : Prop :=
  ∃ a c, e = .returned (.tuple #[.slice a xs.length c, .bool xb]) ∧ FilesAt w' w'.heap.size a xs.length xs ∧ Below w.heap.size w w'
theorem ListB.open {r : List Fl × Bool} {xs : List Fl} {xb : Bool} {w : World} {e : Ending} {w' : World} (h : ListB r w e w') (hr : r = (xs, xb)) : ListR xs xb w e w' := by
  subst hr
  obtain ⟨v, rfl, ho, hb⟩ := h
  obtain ⟨a, c, rfl, hf⟩ := ho.form
  exact ⟨a, c, rfl, hf, hb⟩

/-- what a function leaves that hands back a list of its own and a bool -/
def ListO (xs : List Fl) (xb : Bool) (w : World) (e : Ending) (w' : World) : Prop :=
  ∃ a c, e = .returned (.tuple #[.slice a xs.length c, .bool xb]) ∧ OwnsF w' w.heap.size (.slice a xs.length c) xs ∧ Below w.heap.size w w'
theorem ListB.openO {r : List Fl × Bool} {xs : List Fl} {xb : Bool} {w : World} {e : Ending} {w' : World} (h : ListB r w e w') (hr : r = (xs, xb)) : ListO xs xb w e w' := by
  subst hr
  obtain ⟨v, rfl, ho, hb⟩ := h
  obtain ⟨a, c, rfl, hf⟩ := ho.form
  exact ⟨a, c, rfl, ho, hb⟩

end Go.Proofs.YtaiijnepeccllaaGreat

namespace Go.Proofs.YtaiijnepeccllaaGreat
set_option linter.unusedVariables false
set_option linter.unusedSimpArgs false
open Go.RowKit

theorem files_under : Tryz.prog.underlying 24 = some (.slice 62) := by kernel_rfl
theorem copyFile_any (p t : ByteArray) (w : World) :
    Calls Tryz.prog 42 #[.agg #[.string p, .string t]] w fun e w' => e = .returned (.agg #[.string p, .string t]) ∧ Below w.heap.size w w' := by
  go_enter Tryz.func42, Tryz.ntmps42
  go_wp2_with fail
  exact bodyPost_ret (v := .agg #[.string p, .string t]) (by simp [results, Tryz.results42, go_sem]) rfl ⟨rfl, ((Below.refl _ _).alloc (Nat.le_refl _) _).alloc (by simp) _⟩

set_option maxRecDepth 100000 in
set_option maxHeartbeats 4000000 in
theorem copyFiles_any (a : Option Addr) (n c : Nat) (fs : List Fl) (w : World) (hf : FilesAt w w.heap.size a n fs) (hn : n ≤ 1048576) :
    Calls Tryz.prog 41 #[.slice a n c, .func (.func 42) #[] #[]] w fun e w' => ∃ v, e = .returned v ∧ OwnsF w' w.heap.size v fs ∧ Below w.heap.size w w' := by
  obtain ⟨i0, hi, hz0, hz1, hz2⟩ := info_parts fput_info
  have hlen := hf.1
  go_enter Tryz.func41, Tryz.ntmps41
  go_wp2_with fail
  go_loopw [5, 10] (fun v i wr => ∃ j : Nat, j ≤ n ∧ i = .int .i64 j ∧ OwnsF wr w.heap.size v (fs.take j) ∧ Below w.heap.size w wr) (fun _ i _ => n - (intOf i).toNat)
  case atStart => exact ⟨0, Nat.zero_le _, rfl, World.ownsRow_nil _ _ _ _, Below.refl _ _⟩
  case round =>
    obtain ⟨j, hj, rfl, hown, hB⟩ := hrel
    have hsw := hB.size
    have htl : (fs.take j).length = j := by simp; omega
    by_cases hlt : j < n
    · obtain ⟨b, off, p, t, rfl, hb, hg, hc1, hc2⟩ := (hf.below hB).get hlt
      have hjj : (j : Int) < (n : Int) := by omega
      have hj0 : (0 : Int) ≤ (j : Int) := by omega
      have Hst := Lib.hid (show fs.take (j + 1) = fs.take j ++ [(p, t)] from by rw [List.take_add_one, hg]; simp)
      have Hown := Lib.hid hown
      clear hown hg
      go_wp2_with fail
      refine (copyFile_any p t _).mono ?_
      rintro e w4 ⟨rfl, hB4⟩
      have hBx := (Below.refl wr.heap.size wr).alloc (Nat.le_refl _) (.cells #[.string p, .string t] 62)
      have B4 := hBx.trans (hB4.mono hBx.size)
      have Hown4 := Lib.hid (own_raise Hown.out B4)
      have hs4 := B4.size
      clear hc1 hc2
      go_wp2_with (at_builtin; refine wpList_append_own _ rfl _ _ 24 rfl w.heap.size 62 i0 _ 2 32 files_under hi hz0 hz1 hz2 rfl (by decide) _ _ _ rfl (World.ownsRow.alloc Hown4.out _) ⟨w4.heap.size, 0, none⟩ 1 1 [.string p, .string t] rfl rfl (two_new _ _ _ _) (by simp [Value.oneCell']) (by simp only [maxLen]; omega) (by omega) (by simp; omega) ?_; intro v2 w2 hown2 hgrow _)
      have hB6 := ((hB.trans (B4.mono hsw)).alloc (by omega) (.cells #[.string p, .string t] 62)).grown hgrow (by simp; omega) (own_at Hown4.out)
      exact ⟨⟨j + 1, by omega, by go_num, by rw [Hst.out]; exact OwnsF.grew hown2, hB6⟩, by simp [intOf]; omega⟩
    · have hjn : ¬ (j : Int) < (n : Int) := by omega
      have hall : fs.take j = fs := List.take_of_length_le (by omega)
      rw [hall] at hown
      have Hown := Lib.hid hown
      clear hown hall htl
      go_wp2_with fail
      go_ret
      exact ⟨_, rfl, Hown.out, hB⟩
theorem fmade_zero (w : World) : OwnsF (w.alloc (.cells #[] 62)) w.heap.size (.slice (some ⟨w.heap.size, 0, none⟩) 0 0) [] := World.ownsRow_made w _ _ (Nat.le_refl _) (by simp [maxLen]) rfl
theorem ownsF_alloc {w : World} {base : Nat} {v : Value} {fs : List Fl} (h : OwnsF w base v fs) (o : Obj) : OwnsF (w.alloc o) base v fs := World.ownsRow.alloc h o
theorem ownsF_ne {w w' : World} {base : Nat} {v : Value} {fs : List Fl} {r : Option Nat} (h : OwnsF w base v fs) (hg : w.grownBy w' r) (hne : ∀ g, v.ownBlock = some g → r ≠ some g) : OwnsF w' base v fs := by
  refine World.ownsRow.kept (row := r) h hg ?_
  cases hv : v.ownBlock with
  | none => exact .inl rfl
  | some b => exact .inr fun e => hne b hv e.symm
/-- all files of a list behind those of one's own -/
theorem wpList_append_files {w : World} {ops : Array Oper} {rest : List Oper} {o : Oper} {a : Act} {Q : Exit → Act → World → Prop} (hgd : o.guard = none) (s x : Operand)
    (ho : o.op = .call { callee := .builtin .append, args := #[s, x], argTypes := #[24, 24] })
    (base : Nat) (v : Value) (gs fs : List Fl) (hs : a.eval s = v) (hown : OwnsF w base v gs) (ad : Option Addr) (n c B : Nat) (hx : a.eval x = .slice ad n c) (hnil : ad = none → n = 0 ∧ c = 0) (hf : FilesAt w B ad n fs)
    (hn : gs.length + n ≤ 1000000000) (hbase : base ≤ w.heap.size)
    (h : ∀ v' w', OwnsF w' base v' (gs ++ fs) → w.grownBy w' v.ownBlock → wpList Tryz.prog ops Q rest (a.put o.dst v') w') : wpList Tryz.prog ops Q (o :: rest) a w := by
  obtain ⟨i0, hi, hz0, hz1, hz2⟩ := info_parts fput_info
  have hl := hf.1
  cases ad with
  | none =>
    obtain ⟨rfl, rfl⟩ := hnil rfl
    obtain rfl : fs = [] := List.eq_nil_of_length_eq_zero hl
    refine wpList_append_own_none hgd s x 24 ho base 62 i0 2 files_under hi v gs.length (fcells gs) hs hown hx ?_
    exact h v w (by simpa using hown) (World.grownBy.refl w _)
  | some ad =>
    refine wpList_append_own (P := Tryz.prog) w hgd s x 24 ho base 62 i0 _ 2 32 files_under hi hz0 hz1 hz2 rfl (by decide) v gs.length (fcells gs) hs hown ad n c (fcells fs) hx (by rw [fcells_length]; omega) (fun j u hu => ?_) (fcells_oneCell fs) (by simp only [maxLen]; omega) (by omega) hbase fun v' w' h1 h2 _ => h v' w' ?_ h2
    · have hj := (List.getElem?_eq_some_iff.1 hu).1
      rw [fcells_length] at hj
      obtain ⟨b, off, e, _, hc⟩ := hf.2 (by omega)
      cases e
      rw [add_none]
      exact hc j u hu
    · show w'.ownsRow base 62 2 v' (gs ++ fs).length (fcells (gs ++ fs))
      rw [fcells_append, List.length_append, hl]
      exact h1
end Go.Proofs.YtaiijnepeccllaaGreat

namespace Go.Proofs.YtaiijnepeccllaaGreat
set_option linter.unusedVariables false
open Go.RowKit

/-- an entry: its target, its body, its reads, its text -/
abbrev En := ByteArray × ByteArray × List Fl × ByteArray
/-- the bytes and reads of an entry -/
def enSz (x : En) : Nat := x.1.size + x.2.1.size + (x.2.2.1.length + tot x.2.2.1) + x.2.2.2.size
def enTot : List En → Nat
  | [] => 0
  | x :: r => enSz x + enTot r
/-- strings and lists that a machine holds -/
def EnFit (x : En) : Prop := x.1.size ≤ maxLen ∧ x.2.1.size ≤ maxLen ∧ x.2.2.1.length ≤ maxLen ∧ Fits x.2.2.1 ∧ x.2.2.2.size ≤ maxLen
def EnFits (es : List En) : Prop := ∀ x ∈ es, EnFit x
theorem enTot_drop {es : List En} {j : Nat} {x : En} (h : es[j]? = some x) : enTot (es.drop j) = enSz x + enTot (es.drop (j + 1)) := by
  obtain ⟨hl, rfl⟩ := List.getElem?_eq_some_iff.1 h
  rw [List.drop_eq_getElem_cons hl]
  rfl
theorem enTot_le (es : List En) (j : Nat) : enTot (es.drop j) ≤ enTot es := by
  induction es generalizing j with
  | nil => simp [enTot]
  | cons x r ih =>
    cases j with
    | zero => exact Nat.le_refl _
    | succ j => have := ih j; simp only [List.drop_succ_cons, enTot]; omega
theorem EnFits.get {es : List En} {j : Nat} {x : En} (h : EnFits es) (hg : es[j]? = some x) : EnFit x := h _ (List.mem_of_getElem? hg)
theorem enTot_get {es : List En} {j : Nat} {x : En} (h : es[j]? = some x) : enSz x ≤ enTot es := by
  have := enTot_drop h
  have := enTot_le es j
  omega

/-- a slice of files whose row lies in blocks L to B -/
def FlIn (w : World) (L B : Nat) (a : Option Addr) (n : Nat) (fs : List Fl) : Prop :=
  fs.length = n ∧ (0 < n → ∃ b off, a = some ⟨b, off, none⟩ ∧ L ≤ b ∧ b < B ∧ ∀ j u, (fcells fs)[j]? = some u → w.cell? ⟨b, off + j, none⟩ = some u)
/-- an entry at a place -/
def EntryAt (w : World) (L B : Nat) (x : En) (b off : Nat) : Prop :=
  w.cell? ⟨b, off, none⟩ = some (.string x.1) ∧ w.cell? ⟨b, off + 1, none⟩ = some (.string x.2.1) ∧ (∃ a n c, w.cell? ⟨b, off + 2, none⟩ = some (.slice a n c) ∧ n ≤ c ∧ FlIn w L B a n x.2.2.1) ∧ w.cell? ⟨b, off + 3, none⟩ = some (.string x.2.2.2)
/-- a slice whose elements are these entries -/
def EnAt (w : World) (L B : Nat) (es : List En) (a : Option Addr) (n : Nat) : Prop :=
  es.length = n ∧ (0 < n → ∃ b off, a = some ⟨b, off, none⟩ ∧ L ≤ b ∧ b < B ∧ ∀ j x, es[j]? = some x → EntryAt w L B x b (off + j * 4))
section
variable {w w' : World} {L L' B B' b off n : Nat} {a : Option Addr} {fs : List Fl} {es : List En} {x : En}
theorem FlIn.files (h : FlIn w L B a n fs) : FilesAt w B a n fs := ⟨h.1, fun hn => let ⟨b, off, ha, _, h2, hc⟩ := h.2 hn; ⟨b, off, ha, h2, hc⟩⟩
theorem FlIn.of (h : FilesAt w B a n fs) : FlIn w 0 B a n fs := ⟨h.1, fun hn => let ⟨b, off, ha, h2, hc⟩ := h.2 hn; ⟨b, off, ha, Nat.zero_le _, h2, hc⟩⟩
theorem FlIn.keep (h : FlIn w L B a n fs) (hL : L' ≤ L) (hB : B ≤ B') (hk : ∀ p : Addr, L ≤ p.block → p.block < B → w'.cell? p = w.cell? p) : FlIn w' L' B' a n fs :=
  ⟨h.1, fun hn => let ⟨b, off, ha, h1, h2, hc⟩ := h.2 hn; ⟨b, off, ha, by omega, by omega, fun j u hu => (hk ⟨b, off + j, none⟩ h1 h2).trans (hc j u hu)⟩⟩
theorem FlIn.more (h : FlIn w L B a n fs) (hL : L' ≤ L) (hB : B ≤ B') : FlIn w L' B' a n fs := h.keep hL hB fun _ _ _ => rfl
theorem FlIn.setCell (h : FlIn w L B a n fs) {g : Nat} (hg : g < L ∨ B ≤ g) (i : Nat) (u : Value) : FlIn (w.setCell ⟨g, i, none⟩ u) L B a n fs :=
  h.keep (Nat.le_refl _) (Nat.le_refl _) fun p h1 h2 => World.cell?_setCell_other w _ _ _ (by rintro rfl; simp at h1 h2; omega)
theorem FlIn.own {e : TypeId} {g : Nat} (h : OwnF w e g fs) (hl : fs.length = n) : FlIn w g (g + 1) (some ⟨g, 0, none⟩) n fs :=
  ⟨hl, fun _ => ⟨g, 0, rfl, Nat.le_refl _, by omega, fun j u hu => by rw [Nat.zero_add, h.cell, hu]⟩⟩
theorem FlIn.next (h : FlIn w L w.heap.size a n fs) (hb : Below w.heap.size w w') : FlIn w' L w'.heap.size a n fs := h.keep (Nat.le_refl _) hb.size fun _ _ hp => hb.cell hp
theorem EntryAt.keep (h : EntryAt w L B x b off) (hL : L' ≤ L) (hB : B ≤ B') (h1 : L ≤ b) (h2 : b < B) (hk : ∀ p : Addr, L ≤ p.block → p.block < B → w'.cell? p = w.cell? p) : EntryAt w' L' B' x b off := by
  obtain ⟨c0, c1, ⟨a, n, c, c2, hc, hks⟩, c3⟩ := h
  exact ⟨(hk ⟨b, off, none⟩ h1 h2).trans c0, (hk ⟨b, off + 1, none⟩ h1 h2).trans c1, ⟨a, n, c, (hk ⟨b, off + 2, none⟩ h1 h2).trans c2, hc, hks.keep hL hB hk⟩, (hk ⟨b, off + 3, none⟩ h1 h2).trans c3⟩
theorem EnAt.keep (h : EnAt w L B es a n) (hL : L' ≤ L) (hB : B ≤ B') (hk : ∀ p : Addr, L ≤ p.block → p.block < B → w'.cell? p = w.cell? p) : EnAt w' L' B' es a n :=
  ⟨h.1, fun hn => let ⟨b, off, ha, h1, h2, hs⟩ := h.2 hn; ⟨b, off, ha, by omega, by omega, fun j x hg => (hs j x hg).keep hL hB h1 h2 hk⟩⟩
theorem EnAt.more (h : EnAt w L B es a n) (hL : L' ≤ L) (hB : B ≤ B') : EnAt w L' B' es a n := h.keep hL hB fun _ _ _ => rfl
theorem EnAt.below (h : EnAt w L B es a n) (hb : Below B w w') : EnAt w' L B es a n := h.keep (Nat.le_refl _) (Nat.le_refl _) fun _ _ hp => hb.cell hp
theorem EnAt.next (h : EnAt w L w.heap.size es a n) (hb : Below w.heap.size w w') : EnAt w' L w'.heap.size es a n := (h.below hb).more (Nat.le_refl _) hb.size
theorem EnAt.alloc (h : EnAt w L B es a n) (hB : B ≤ w.heap.size) (o : Obj) : EnAt (w.alloc o) L B es a n := h.keep (Nat.le_refl _) (Nat.le_refl _) fun p _ hp => World.cell?_alloc_lt w o p (by omega)
theorem EnAt.setCell (h : EnAt w L B es a n) {g : Nat} (hg : g < L ∨ B ≤ g) (i : Nat) (u : Value) : EnAt (w.setCell ⟨g, i, none⟩ u) L B es a n :=
  h.keep (Nat.le_refl _) (Nat.le_refl _) fun p h1 h2 => World.cell?_setCell_other w _ _ _ (by rintro rfl; simp at h1 h2; omega)
theorem EnAt.get (h : EnAt w L B es a n) {j : Nat} (hj : j < n) :
    ∃ b off t s fs x a' n' c', a = some ⟨b, off, none⟩ ∧ L ≤ b ∧ b < B ∧ es[j]? = some (t, s, fs, x) ∧ w.cell? ⟨b, off + j * 4, none⟩ = some (.string t) ∧ w.cell? ⟨b, off + j * 4 + 1, none⟩ = some (.string s) ∧ w.cell? ⟨b, off + j * 4 + 2, none⟩ = some (.slice a' n' c') ∧
      w.cell? ⟨b, off + j * 4 + 3, none⟩ = some (.string x) ∧ n' ≤ c' ∧ FlIn w L B a' n' fs := by
  obtain ⟨b, off, ha, hb, hc, hs⟩ := h.2 (by omega)
  have hl : j < es.length := by have := h.1; omega
  obtain ⟨⟨t, s, fs, x⟩, hg⟩ : ∃ x, es[j]? = some x := ⟨_, List.getElem?_eq_getElem hl⟩
  obtain ⟨h0, h1, ⟨a', n', c', h2, h4, h5⟩, h3⟩ := hs j _ hg
  exact ⟨b, off, t, s, fs, x, a', n', c', ha, hb, hc, hg, h0, h1, h2, h3, h4, h5⟩
end
/-- the entries before a place stand in a row being filled -/
def DoneEn (w : World) (L B : Nat) (es : List En) (cur : Array Value) (j : Nat) : Prop := ∀ i x, i < j → es[i]? = some x →
  cur[i * 4]? = some (.string x.1) ∧ cur[i * 4 + 1]? = some (.string x.2.1) ∧ (∃ a n c, cur[i * 4 + 2]? = some (.slice a n c) ∧ n ≤ c ∧ FlIn w L B a n x.2.2.1) ∧ cur[i * 4 + 3]? = some (.string x.2.2.2)
section
variable {w w' : World} {L B : Nat} {es : List En} {cur : Array Value} {j : Nat} {s t x : ByteArray} {fs : List Fl}
theorem DoneEn.zero : DoneEn w L B es cur 0 := fun i _ h => absurd h (by omega)
theorem DoneEn.keep {L' B' : Nat} (h : DoneEn w L B es cur j) (hL : L' ≤ L) (hB : B ≤ B') (hk : ∀ p : Addr, L ≤ p.block → p.block < B → w'.cell? p = w.cell? p) : DoneEn w' L' B' es cur j := fun i x hi hg =>
  let ⟨h0, h1, ⟨a, n, c, h3, h4, h5⟩, h2⟩ := h i x hi hg
  ⟨h0, h1, ⟨a, n, c, h3, h4, h5.keep hL hB hk⟩, h2⟩
theorem DoneEn.step {g : Nat} (h : DoneEn w L B es cur j) (hg : es[j]? = some (t, s, fs, x)) {a : Option Addr} {n c : Nat} (hc : n ≤ c) (hk : FlIn w L B a n fs) (hs : j * 4 + 3 < cur.size) (hL : g < L) (y0 y1 y2 y3 : Value) :
    DoneEn ((((w.setCell ⟨g, j * 4, none⟩ y0).setCell ⟨g, j * 4 + 1, none⟩ y1).setCell ⟨g, j * 4 + 2, none⟩ y2).setCell ⟨g, j * 4 + 3, none⟩ y3) L B es
      ((((cur.setIfInBounds (j * 4) (.string t)).setIfInBounds (j * 4 + 1) (.string s)).setIfInBounds (j * 4 + 2) (.slice a n c)).setIfInBounds (j * 4 + 3) (.string x)) (j + 1) := by
  intro i x' hi hgi
  by_cases e : i = j
  · subst e
    rw [hg] at hgi
    simp only [Option.some.injEq] at hgi
    subst hgi
    refine ⟨?_, ?_, ⟨a, n, c, ?_, hc, (((hk.setCell (.inl hL) _ _).setCell (.inl hL) _ _).setCell (.inl hL) _ _).setCell (.inl hL) _ _⟩, ?_⟩
    · rw [Array.getElem?_setIfInBounds_ne (by omega), Array.getElem?_setIfInBounds_ne (by omega), Array.getElem?_setIfInBounds_ne (by omega), Array.getElem?_setIfInBounds_self_of_lt (by omega)]
    · rw [Array.getElem?_setIfInBounds_ne (by omega), Array.getElem?_setIfInBounds_ne (by omega), Array.getElem?_setIfInBounds_self_of_lt (by simp; omega)]
    · rw [Array.getElem?_setIfInBounds_ne (by omega), Array.getElem?_setIfInBounds_self_of_lt (by simp; omega)]
    · rw [Array.getElem?_setIfInBounds_self_of_lt (by simp; omega)]
  · obtain ⟨h0, h1, ⟨a', n', c', h2, h4, h5⟩, h3⟩ := h i x' (by omega) hgi
    refine ⟨?_, ?_, ⟨a', n', c', ?_, h4, (((h5.setCell (.inl hL) _ _).setCell (.inl hL) _ _).setCell (.inl hL) _ _).setCell (.inl hL) _ _⟩, ?_⟩
    · rw [Array.getElem?_setIfInBounds_ne (by omega), Array.getElem?_setIfInBounds_ne (by omega), Array.getElem?_setIfInBounds_ne (by omega), Array.getElem?_setIfInBounds_ne (by omega)]; exact h0
    · rw [Array.getElem?_setIfInBounds_ne (by omega), Array.getElem?_setIfInBounds_ne (by omega), Array.getElem?_setIfInBounds_ne (by omega), Array.getElem?_setIfInBounds_ne (by omega)]; exact h1
    · rw [Array.getElem?_setIfInBounds_ne (by omega), Array.getElem?_setIfInBounds_ne (by omega), Array.getElem?_setIfInBounds_ne (by omega), Array.getElem?_setIfInBounds_ne (by omega)]; exact h2
    · rw [Array.getElem?_setIfInBounds_ne (by omega), Array.getElem?_setIfInBounds_ne (by omega), Array.getElem?_setIfInBounds_ne (by omega), Array.getElem?_setIfInBounds_ne (by omega)]; exact h3
theorem DoneEn.all {g : Nat} {T : TypeId} (h : DoneEn w L B es cur es.length) (hb : w.heap[g]? = some (.cells cur T (0, 0))) (hL : L ≤ g) (hB : g < B) : EnAt w L B es (some ⟨g, 0, none⟩) es.length := by
  refine ⟨rfl, fun _ => ⟨g, 0, rfl, hL, hB, fun j x hg => ?_⟩⟩
  obtain ⟨h0, h1, ⟨a, n, c, h2, h4, h5⟩, h3⟩ := h j x (List.getElem?_eq_some_iff.1 hg).1 hg
  rw [Nat.zero_add]
  exact ⟨(cell_of_row _ _ _ _ _ _ hb).trans h0, (cell_of_row _ _ _ _ _ _ hb).trans h1, ⟨a, n, c, (cell_of_row _ _ _ _ _ _ hb).trans h2, h4, h5⟩, (cell_of_row _ _ _ _ _ _ hb).trans h3⟩
end
end Go.Proofs.YtaiijnepeccllaaGreat

namespace Go.Proofs.YtaiijnepeccllaaGreat
set_option linter.unusedVariables false
open Go.RowKit

theorem run_append_at {P : Program} (w : World) (base : Nat) (t ty e : TypeId) (i : TypeInfo) (z : Value) (size bytes : Nat) (ht : P.underlying t = some (.slice e)) (hi : P.info? e = some i) (hz : i.zero = some z)
    (hsize : i.size = size) (hby : i.bytes = bytes) (hzs : z.cells.size = size) (hsz : 0 < size)
    (v : Value) (n : Nat) (xs : List Value) (hown : w.ownsRow base e size v n xs)
    (a : Addr) (m c : Nat) (news : List Value) (hl : news.length = m * size) (hnews : ∀ j u, news[j]? = some u → w.cell? (a.add j) = some u) (h1 : ∀ u ∈ news, u.oneCell' = true)
    (h63 : n + m ≤ maxLen) (hbytes : (n + m) * bytes ≤ 140737488355328) (hbase : base ≤ w.heap.size) :
    ∃ v' w', (Builtin.append_ #[t, t] ty #[v, .slice (some a) m c]).run P w = .ok v' w' ∧ w'.ownsRow base e size v' (n + m) (xs ++ news) ∧ w.grownBy w' v.ownBlock ∧
      (v'.ownBlock = v.ownBlock ∨ ∀ g, v'.ownBlock = some g → w.heap.size ≤ g) := by
  obtain ⟨v', w', hr, h2, h3, _⟩ := run_append_own (P := P) w base t ty e i z size bytes ht hi hz hsize hby hzs hsz v n xs hown a m c news hl hnews h1 h63 hbytes hbase
  refine ⟨v', w', hr, h2, h3, ?_⟩
  rcases hown.2 with ⟨rfl, rfl⟩ | ⟨g, cap, cur, rfl, hbg, hg, hnc, hcm, hcs, htake⟩
  · have hx : xs = [] := List.eq_nil_of_length_eq_zero (by simpa using hown.1)
    subst hx
    obtain ⟨v2, w2, hr2, h4, _, _⟩ := run_append_own (P := P) w w.heap.size t ty e i z size bytes ht hi hz hsize hby hzs hsz (.slice none 0 0) 0 [] (World.ownsRow_nil w _ _ _) a m c news hl hnews h1 h63 hbytes (Nat.le_refl _)
    rw [hr2] at hr
    cases hr
    exact .inr fun g hg => (World.ownsRow.lt h4 g hg).1
  · by_cases hroom : n + m ≤ cap
    · have hfit : n * i.size + news.length ≤ cur.size := by rw [hl, hcs, hsize, ← Nat.add_mul]; exact Nat.mul_le_mul_right _ hroom
      have hr2 := run_append_room (P := P) w t ty e i ht hi g n cap cur hg a m c news (by rw [hsize]; exact hl) hnews h1 hroom hfit
      rw [hr2] at hr
      cases hr
      exact .inl rfl
    · have holds : ∀ j u, xs[j]? = some u → w.cell? ((⟨g, 0, none⟩ : Addr).add j) = some u := hown.cells (g := g) rfl
      have hsmall : n + m ≤ 9223372036854775807 := by simp only [maxLen] at h63; omega
      have hr2 := run_append_grow (P := P) w t ty e i z ht hi hz ⟨g, 0, none⟩ n cap xs (by rw [hsize]; exact hown.1) holds a m c news (by rw [hsize]; exact hl) hnews (by omega) (by omega) (growslice_fits (by omega) (by rw [hby]; exact hbytes))
      rw [hr2] at hr
      cases hr
      refine .inr fun g' hg' => ?_
      simp [Value.ownBlock] at hg'
      omega

theorem wp_append_at {P : Program} {o : Oper} {a : Act} {w : World} {K : Act → World → Prop} {Q : Exit → Act → World → Prop} (s x : Operand) (t : TypeId)
    (ho : o.op = .call { callee := .builtin .append, args := #[s, x], argTypes := #[t, t] })
    (base : Nat) (e : TypeId) (i : TypeInfo) (z : Value) (size bytes : Nat) (ht : P.underlying t = some (.slice e)) (hi : P.info? e = some i) (hz : i.zero = some z)
    (hsize : i.size = size) (hby : i.bytes = bytes) (hzs : z.cells.size = size) (hsz : 0 < size)
    (v : Value) (n : Nat) (xs : List Value) (hs : a.eval s = v) (hown : w.ownsRow base e size v n xs)
    (ad : Addr) (m c : Nat) (news : List Value) (hx : a.eval x = .slice (some ad) m c) (hl : news.length = m * size) (hnews : ∀ j u, news[j]? = some u → w.cell? (ad.add j) = some u) (h1 : ∀ u ∈ news, u.oneCell' = true)
    (h63 : n + m ≤ maxLen) (hbytes : (n + m) * bytes ≤ 140737488355328) (hbase : base ≤ w.heap.size)
    (h : ∀ v' w', w'.ownsRow base e size v' (n + m) (xs ++ news) → w.grownBy w' v.ownBlock → (v'.ownBlock = v.ownBlock ∨ ∀ g, v'.ownBlock = some g → w.heap.size ≤ g) → K (a.put o.dst v') w') : o.wp P a w K Q := by
  obtain ⟨v', w', hr, h2, h3, h4⟩ := run_append_at (P := P) w base t o.type e i z size bytes ht hi hz hsize hby hzs hsz v n xs hown ad m c news hl hnews h1 h63 hbytes hbase
  unfold Oper.wp execOp
  simp only [ho, resolve, invoke, builtin, Sem.run_bind, Sem.run_pure, Result.andThen_ok, List.map_toArray, List.map_cons, List.map_nil, hs, hx, hr]
  exact h v' w' h2 h3 h4

theorem wpList_append_at {P : Program} {w : World} {ops : Array Oper} {rest : List Oper} {o : Oper} {a : Act} {Q : Exit → Act → World → Prop} (hgd : o.guard = none) (s x : Operand) (t : TypeId)
    (ho : o.op = .call { callee := .builtin .append, args := #[s, x], argTypes := #[t, t] })
    (base : Nat) (e : TypeId) (i : TypeInfo) (z : Value) (size bytes : Nat) (ht : P.underlying t = some (.slice e)) (hi : P.info? e = some i) (hz : i.zero = some z)
    (hsize : i.size = size) (hby : i.bytes = bytes) (hzs : z.cells.size = size) (hsz : 0 < size)
    (v : Value) (n : Nat) (xs : List Value) (hs : a.eval s = v) (hown : w.ownsRow base e size v n xs)
    (ad : Addr) (m c : Nat) (news : List Value) (hx : a.eval x = .slice (some ad) m c) (hl : news.length = m * size) (hnews : ∀ j u, news[j]? = some u → w.cell? (ad.add j) = some u) (h1 : ∀ u ∈ news, u.oneCell' = true)
    (h63 : n + m ≤ maxLen) (hbytes : (n + m) * bytes ≤ 140737488355328) (hbase : base ≤ w.heap.size)
    (h : ∀ v' w', w'.ownsRow base e size v' (n + m) (xs ++ news) → w.grownBy w' v.ownBlock → (v'.ownBlock = v.ownBlock ∨ ∀ g, v'.ownBlock = some g → w.heap.size ≤ g) → wpList P ops Q rest (a.put o.dst v') w') : wpList P ops Q (o :: rest) a w :=
  wpList_plain hgd fun _ hK => wp_append_at s x t ho base e i z size bytes ht hi hz hsize hby hzs hsz v n xs hs hown ad m c news hx hl hnews h1 h63 hbytes hbase fun v' w' h2 h3 h4 => hK _ _ (h v' w' h2 h3 h4)
end Go.Proofs.YtaiijnepeccllaaGreat

namespace Go.Proofs.YtaiijnepeccllaaGreat
set_option linter.unusedVariables false
open Go.RowKit

/-- the decimal digits of k ahead of acc -/
def mkD : Nat → Nat → List UInt8 → List UInt8
  | 0, _, acc => acc
  | fuel + 1, k, acc => if k = 0 then acc else mkD fuel (k / 10) (UInt8.ofNat (48 + k % 10) :: acc)
/-- the mark k -/
def mkS (k : Nat) : ByteArray := ⟨#[109]⟩ ++ ⟨(mkD k k []).toArray⟩

theorem conv_digit (k : Nat) (w : World) : (convert 65 9 (.slice (some ⟨w.heap.size, 0, none⟩) 1 1)).run Tryz.prog (w.alloc (.cells #[.int .u8 (48 + (k : Int) % 10)] 5)) = .ok (.string ⟨#[UInt8.ofNat (48 + k % 10)]⟩) (w.alloc (.cells #[.int .u8 (48 + (k : Int) % 10)] 5)) := by
  refine run_convert_bytes_back _ 65 9 5 ⟨w.heap.size, 0, none⟩ 1 [UInt8.ofNat (48 + k % 10)] Tryz.underlying65 Tryz.underlying5 Tryz.underlying9 (fun j hj => ?_)
  obtain rfl : j = 0 := by simpa using hj
  rw [add_none, cell_of_row _ _ _ _ _ _ (heap_alloc_new w _)]
  have h : (UInt8.ofNat (48 + k % 10)).toNat = 48 + k % 10 := by rw [UInt8.toNat_ofNat']; omega
  simp only [List.getElem_cons_zero, h]
  simp

set_option maxRecDepth 100000 in
set_option maxHeartbeats 400000 in
theorem markText_any (k : Nat) (w : World) (h0 : 1 ≤ k) (h1 : k ≤ 8388608) :
    Calls Tryz.prog 28 #[.int .i64 k] w fun e w' => e = .returned (.string (mkS k)) ∧ Below w.heap.size w w' := by
  go_enter Tryz.func28, Tryz.ntmps28
  go_wp2_with fail
  go_loopw [0, 3] (fun x s wr => ∃ (fuel kk : Nat) (acc : List UInt8), x = .int .i64 kk ∧ s = .string ⟨acc.toArray⟩ ∧ kk ≤ fuel ∧ mkD fuel kk acc = mkD k k [] ∧ acc.length + fuel = k ∧ Below w.heap.size w wr) (fun x _ _ => (intOf x).toNat)
  case atStart => exact ⟨k, k, [], rfl, rfl, Nat.le_refl _, rfl, by simp, Below.refl _ _⟩
  case round =>
    obtain ⟨fuel, kk, acc, rfl, rfl, hkf, hd, hacc, hB⟩ := hrel
    by_cases hk : 0 < kk
    · have hcv := fun W => conv_digit kk W
      have q := fun W => run_string_add_sum (P := Tryz.prog) W ⟨#[UInt8.ofNat (48 + kk % 10)]⟩ ⟨acc.toArray⟩ (by simp [ByteArray.size]; omega)
      have HD := Lib.hid hd; clear hd
      go_wp2_with fail
      obtain ⟨f, rfl⟩ : ∃ f, fuel = f + 1 := ⟨fuel - 1, by omega⟩
      exact ⟨⟨f, kk / 10, UInt8.ofNat (48 + kk % 10) :: acc, by go_num, by rw [ByteArray.mk_append_mk]; simp, by omega, by rw [← HD.out, mkD, if_neg (by omega)], by simp; omega, hB.alloc hB.size _⟩, by simp [intOf]; omega⟩
    · obtain rfl : kk = 0 := by omega
      have HD : Hid (acc = mkD k k []) := by
        have : mkD fuel 0 acc = acc := by cases fuel <;> simp [mkD]
        exact Lib.hid (this ▸ hd)
      clear hd
      have q := fun W => run_string_add_sum (P := Tryz.prog) W ⟨#[109]⟩ ⟨acc.toArray⟩ (by simp [ByteArray.size]; omega)
      go_wp2_with fail
      go_ret
      exact ⟨ret_str (by unfold mkS; rw [← HD.out]), hB⟩

theorem markText_at {z : Int} (m : Nat) (w : World) (hz : z = (m : Int)) (h0 : 1 ≤ m) (h1 : m ≤ 8388608) :
    Calls Tryz.prog 28 #[.int .i64 z] w fun e w' => e = .returned (.string (mkS m)) ∧ Below w.heap.size w w' := by
  subst hz; exact markText_any m w h0 h1
end Go.Proofs.YtaiijnepeccllaaGreat

namespace Go.Proofs.YtaiijnepeccllaaGreat
set_option linter.unusedVariables false
open Go.RowKit

/-- only blocks from L to B may have been written to -/
structure Tch (L B : Nat) (w w' : World) : Prop where
  os : w'.os = w.os
  tape : w'.tape = w.tape
  output : w'.output = w.output
  size : w.heap.size ≤ w'.heap.size
  out : ∀ g : Nat, g < w.heap.size → g < L ∨ B ≤ g → w'.heap[g]? = w.heap[g]?
section
variable {w w' w'' : World} {L B L' B' g n i : Nat}
theorem Tch.refl (L B : Nat) (w : World) : Tch L B w w := ⟨rfl, rfl, rfl, Nat.le_refl _, fun _ _ _ => rfl⟩
theorem Tch.trans (h : Tch L B w w') (h2 : Tch L B w' w'') : Tch L B w w'' := ⟨h2.os.trans h.os, h2.tape.trans h.tape, h2.output.trans h.output, Nat.le_trans h.size h2.size, fun g hg ho => (h2.out g (Nat.lt_of_lt_of_le hg h.size) ho).trans (h.out g hg ho)⟩
theorem Tch.of (h : Below w.heap.size w w') : Tch L B w w' := ⟨h.os, h.tape, h.output, h.size, fun g hg _ => h.block g hg⟩
theorem Tch.set (hL : L ≤ g) (hB : g < B) (v : Value) : Tch L B w (w.setCell ⟨g, i, none⟩ v) := ⟨rfl, rfl, rfl, by simp, fun g' hg ho => Below.heap_setCell w ⟨g, i, none⟩ v g' (by show g' ≠ g; omega)⟩
theorem Tch.more (h : Tch L B w w') (hL : L' ≤ L) (hB : B ≤ B') : Tch L' B' w w' := ⟨h.os, h.tape, h.output, h.size, fun g hg ho => h.out g hg (by omega)⟩
theorem Tch.below (h : Tch L B w w') (hL : L ≤ w.heap.size) : Below L w w' := ⟨h.os, h.tape, h.output, h.size, fun g hg => h.out g (by omega) (.inl hg)⟩
end
end Go.Proofs.YtaiijnepeccllaaGreat

namespace Go.Proofs.YtaiijnepeccllaaGreat
set_option linter.unusedVariables false
set_option linter.unusedSimpArgs false
open Go.RowKit

/-- the first n files marked from k on -/
def mrk (k : Nat) : Nat → List Fl → List Fl
  | 0, fs => fs
  | n + 1, fs => (mrk k n fs).set n (mkS (k + 2 * n), mkS (k + 2 * n + 1))
theorem mrk_length (k : Nat) (fs : List Fl) : ∀ n, (mrk k n fs).length = fs.length
  | 0 => rfl
  | n + 1 => by rw [mrk, List.length_set, mrk_length k fs n]
theorem mrk_get {k j : Nat} {fs : List Fl} (hj : j < fs.length) : ∀ {n}, j < n → (mrk k n fs)[j]? = some (mkS (k + 2 * j), mkS (k + 2 * j + 1))
  | 0, h => absurd h (by omega)
  | n + 1, h => by
    rw [mrk]
    by_cases e : j = n
    · subst e
      rw [List.getElem?_set_self (by rw [mrk_length]; exact hj)]
    · rw [List.getElem?_set_ne (fun h => e h.symm)]
      exact mrk_get hj (by omega)

theorem growT {w w' w'' : World} {row : Option Nat} (h : w.grownBy w' row) (k : w'.grownBy w'' row) : w.grownBy w'' row :=
  ⟨k.os.trans h.os, k.tape.trans h.tape, k.output.trans h.output, Nat.le_trans h.size k.size, fun i hi hne => (k.block i (Nat.lt_of_lt_of_le hi h.size) hne).trans (h.block i hi hne)⟩
theorem growB {w w' w'' : World} {row : Option Nat} (h : w.grownBy w' row) (hb : Below w'.heap.size w' w'') : w.grownBy w'' row :=
  ⟨hb.os.trans h.os, hb.tape.trans h.tape, hb.output.trans h.output, Nat.le_trans h.size hb.size, fun i hi hne => (hb.block i (Nat.lt_of_lt_of_le hi h.size)).trans (h.block i hi hne)⟩
theorem row_mark1 {w : World} {B g n cap j : Nat} {gs : List Fl} {p t s : ByteArray} (h : w.ownsRow B 62 2 (.slice (some ⟨g, 0, none⟩) n cap) n (fcells gs)) (hg : gs[j]? = some (p, t)) :
    (w.setCell ⟨g, j * 2, none⟩ (.string s)).ownsRow B 62 2 (.slice (some ⟨g, 0, none⟩) n cap) n (fcells (gs.set j (s, t))) := by
  rw [fcells_set1 hg]; exact (World.ownsRow.stored h _ _).1
theorem row_mark2 {w : World} {B g n cap j : Nat} {gs : List Fl} {p t s : ByteArray} (h : w.ownsRow B 62 2 (.slice (some ⟨g, 0, none⟩) n cap) n (fcells gs)) (hg : gs[j]? = some (p, t)) :
    (w.setCell ⟨g, j * 2 + 1, none⟩ (.string s)).ownsRow B 62 2 (.slice (some ⟨g, 0, none⟩) n cap) n (fcells (gs.set j (p, s))) := by
  rw [fcells_set2 hg]; exact (World.ownsRow.stored h _ _).1

set_option maxRecDepth 100000 in
set_option maxHeartbeats 1000000 in
theorem markF_any (v : Value) (B k : Nat) (fs : List Fl) (w : World) (ho : OwnsF w B v fs) (hn : fs.length ≤ 1048576) (h0 : 1 ≤ k) (h1 : k + 2 * fs.length ≤ 8388600) :
    Calls Tryz.prog 29 #[v, .int .i64 k] w fun e w' =>
      e = .returned (.int .i64 (k + 2 * fs.length : Nat)) ∧ OwnsF w' B v (mrk k fs.length fs) ∧ w.grownBy w' v.ownBlock := by
  rcases ho.2 with ⟨rfl, h00⟩ | ⟨g, cap, cur, rfl, hb, hg, _⟩
  · obtain rfl : fs = [] := List.eq_nil_of_length_eq_zero h00
    go_enter Tryz.func29, Tryz.ntmps29
    go_wp2_with fail
    go_loopw [1, 5] (fun x i wr => x = .int .i64 k ∧ i = .int .i64 0 ∧ wr = w) (fun _ _ _ => 0)
    case atStart => exact ⟨rfl, rfl, rfl⟩
    case round =>
      obtain ⟨rfl, rfl, rfl⟩ := hrel
      go_wp2_with fail
      go_ret
      exact ⟨rfl, ho, World.grownBy.refl _ _⟩
  · have hgl : g < w.heap.size := blk_lt hg
    have Ho := Lib.hid ho
    clear ho hg
    go_enter Tryz.func29, Tryz.ntmps29
    go_wp2_with fail
    go_loopw [1, 5] (fun x i wr => ∃ j : Nat, j ≤ fs.length ∧ i = .int .i64 j ∧ x = .int .i64 (k + 2 * j : Nat) ∧ wr.ownsRow B 62 2 (.slice (some ⟨g, 0, none⟩) fs.length cap) fs.length (fcells (mrk k j fs)) ∧ w.grownBy wr (some g)) (fun _ i _ => fs.length - (intOf i).toNat)
    case atStart => exact ⟨0, Nat.zero_le _, rfl, by simp, Ho.out, World.grownBy.refl _ _⟩
    case round =>
      obtain ⟨j, hj, rfl, rfl, hown, hgr⟩ := hrel
      have hln := Lib.hid (mrk_length k fs j)
      have hgw := hgr.size
      by_cases hlt : j < fs.length
      · have Hown := Lib.hid hown
        have hgt : (mrk k j fs)[j]? = some ((mrk k j fs)[j]'(by rw [hln.out]; exact hlt)) := List.getElem?_eq_getElem _
        generalize (mrk k j fs)[j]'(by rw [hln.out]; exact hlt) = f at hgt
        obtain ⟨p, t⟩ := f
        have Hgt := Lib.hid hgt
        clear hown hgt
        go_wp2_with fail
        refine (markText_any (k + 2 * j) _ (by omega) (by omega)).mono ?_
        rintro e w1 ⟨rfl, hB1⟩
        have ho1 := row_below Hown.out hB1 (by omega)
        have hc1 : w1.cell? ⟨g, j * 2, none⟩ = some (.string p) := (World.ownsRow.cellAt ho1 (j * 2) (by omega)).trans (fcells_get _ Hgt.out).1
        have hf1 := World.ownsRow.frozenAt ho1 (j * 2)
        have Ho1 := Lib.hid (row_mark1 (s := mkS (k + 2 * j)) ho1 Hgt.out)
        have Hg1 := Lib.hid (growT (growB hgr hB1) (World.ownsRow.stored ho1 (j * 2) (.string (mkS (k + 2 * j)))).2)
        have Hgt1 : Hid (((mrk k j fs).set j (mkS (k + 2 * j), t))[j]? = some (mkS (k + 2 * j), t)) := Lib.hid (by rw [List.getElem?_set_self (by rw [hln.out]; exact hlt)])
        have hgs := Hg1.out.size
        clear ho1 hgr
        go_wp2_with fail
        refine (markText_at (k + 2 * j + 1) _ (by omega) (by omega) (by omega)).mono ?_
        rintro e w2 ⟨rfl, hB2⟩
        have ho2 := row_below Ho1.out hB2 (by omega)
        have hc2 : w2.cell? ⟨g, j * 2 + 1, none⟩ = some (.string t) := (World.ownsRow.cellAt ho2 (j * 2 + 1) (by omega)).trans (fcells_get _ Hgt1.out).2
        have hf2 := World.ownsRow.frozenAt ho2 (j * 2 + 1)
        have Ho2 := Lib.hid (row_mark2 (s := mkS (k + 2 * j + 1)) ho2 Hgt1.out)
        have Hg2 := Lib.hid (growT (growB Hg1.out hB2) (World.ownsRow.stored ho2 (j * 2 + 1) (.string (mkS (k + 2 * j + 1)))).2)
        clear ho2
        go_wp2_with fail
        exact ⟨⟨j + 1, by omega, by go_num, by go_num, by have := Ho2.out; rw [List.set_set] at this; exact this, Hg2.out⟩, by simp [intOf]; omega⟩
      · have e : j = fs.length := by omega
        have Ho2 : Hid (OwnsF wr B (.slice (some ⟨g, 0, none⟩) fs.length cap) (mrk k fs.length fs)) := Lib.hid (by
          rw [OwnsF, mrk_length, ← e]; rw [← e] at hown; exact hown)
        have Hr : Hid (((k + 2 * j : Nat) : Int) = ((k + 2 * fs.length : Nat) : Int)) := Lib.hid (by rw [e])
        clear e hown
        go_wp2_with fail
        go_ret
        exact ⟨ret_int Hr.out, Ho2.out, hgr⟩

set_option maxRecDepth 100000 in
set_option maxHeartbeats 1000000 in
theorem heldF_any (a : Option Addr) (n c k : Nat) (gs : List Fl) (w : World) (hf : FilesAt w w.heap.size a n gs) (hm : ∀ j, j < n → gs[j]? = some (mkS (k + 2 * j), mkS (k + 2 * j + 1))) (hn : n ≤ 1048576) (h0 : 1 ≤ k) (h1 : k ≤ 16) :
    Calls Tryz.prog 30 #[.slice a n c, .int .i64 k] w fun e w' =>
      e = .returned (.int .i64 (k + 2 * n : Nat)) ∧ Below w.heap.size w w' := by
  have Hm := Lib.hid hm
  clear hm
  go_enter Tryz.func30, Tryz.ntmps30
  go_wp2_with fail
  go_loopw [1, 5] (fun x i wr => ∃ j : Nat, j ≤ n ∧ i = .int .i64 j ∧ x = .int .i64 (k + 2 * j : Nat) ∧ Below w.heap.size w wr) (fun _ i _ => n - (intOf i).toNat)
  case atStart => exact ⟨0, Nat.zero_le _, rfl, by simp, Below.refl _ _⟩
  case round =>
    obtain ⟨j, hj, rfl, rfl, hB⟩ := hrel
    by_cases hlt : j < n
    · obtain ⟨b, off, p, t, rfl, hb, hg, hc1, hc2⟩ := (hf.below hB).get hlt
      have hg2 := Hm.out j hlt
      rw [hg] at hg2
      obtain ⟨rfl, rfl⟩ : p = mkS (k + 2 * j) ∧ t = mkS (k + 2 * j + 1) := by cases hg2; exact ⟨rfl, rfl⟩
      clear hg hg2
      have hd1 : ((mkS (k + 2 * j)).toList == (mkS (k + 2 * j)).toList) = true := by simp
      have hd2 : ((mkS (k + 2 * j + 1)).toList == (mkS (k + 2 * j + 1)).toList) = true := by simp
      go_wp2_with fail
      have hbw : b < wr.heap.size := by have := hB.size; omega
      go_region_held3 (fun w' => w'.cell? ⟨b, off + j * 2, none⟩ = some (.string (mkS (k + 2 * j)))) (first | go_keep | exact (hB1.cell (p := ⟨b, off + j * 2, none⟩) hbw).trans hc1) ((go_at_call 28; refine (markText_any (k + 2 * j) _ (by omega) (by omega)).mono ?_; rintro e w1 ⟨rfl, hB1⟩))
      have B1 := hB.drew.trans (hB1.mono hB.size)
      have hc3 := (hB1.cell (p := ⟨b, off + j * 2 + 1, none⟩) hbw).trans hc2
      have hbw1 : b < w1.heap.size := by have := B1.size; omega
      clear hc1 hc2 hB1
      go_wp2_with fail
      go_region_held3 (fun w' => w'.cell? ⟨b, off + j * 2 + 1, none⟩ = some (.string (mkS (k + 2 * j + 1)))) (first | go_keep | exact (hB2.cell (p := ⟨b, off + j * 2 + 1, none⟩) hbw1).trans hc3) ((go_at_call 28; refine (markText_at (k + 2 * j + 1) _ (by omega) (by omega) (by omega)).mono ?_; rintro e w2 ⟨rfl, hB2⟩))
      have B2 := B1.drew.trans (hB2.mono B1.size)
      clear hB2 hc3
      go_wp2_with fail
      exact ⟨⟨j + 1, by omega, by go_num, by go_num, B2⟩, by simp [intOf]; omega⟩
    · have e : j = n := by omega
      have Hr : Hid (((k + 2 * j : Nat) : Int) = ((k + 2 * n : Nat) : Int)) := Lib.hid (by rw [e])
      clear e
      go_wp2_with fail
      go_ret
      exact ⟨ret_int Hr.out, hB⟩
section
variable {w w' : World} {B c : Nat} {a : Option Addr} {n : Nat} {v : Value} {fs : List Fl}
theorem OwnsF.at_ (h : OwnsF w B (.slice a n c) fs) : FilesAt w w.heap.size a n fs := by
  obtain ⟨a', c', e, hf⟩ := h.form
  cases e
  exact hf
theorem heldO (ho : OwnsF w B (.slice a fs.length c) (mrk 1 fs.length fs)) (hn : fs.length ≤ 1048576) :
    Calls Tryz.prog 30 #[.slice a fs.length c, .int .i64 1] w fun e w' =>
      e = .returned (.int .i64 (1 + 2 * fs.length : Nat)) ∧ Below w.heap.size w w' :=
  heldF_any a fs.length c 1 (mrk 1 fs.length fs) w (OwnsF.at_ ho) (fun j hj => mrk_get hj hj) hn (by omega) (by omega)
end
end Go.Proofs.YtaiijnepeccllaaGreat

namespace Go.Proofs.YtaiijnepeccllaaGreat
set_option linter.unusedVariables false
open Go.RowKit

set_option maxHeartbeats 400000 in
theorem findS0_any (a : Option Addr) (n c : Nat) (fs : List Fl) (x : ByteArray) (w : World) (hf : FilesAt w w.heap.size a n fs) (hn : n ≤ maxLen) :
    Calls Tryz.prog 49 #[.slice a n c, .string x] w fun e w' => e = .returned (.tuple #[.string (findF fs x).1, .bool (findF fs x).2]) ∧ Below w.heap.size w w' := by
  unfold maxLen at hn
  have hlen := Lib.hid hf.1
  go_enter Tryz.func49, Tryz.ntmps49
  go_wp2
  go_loopw [6] (fun i wr => ∃ k : Nat, k ≤ n ∧ i = .int .i64 k ∧ notTo fs x k ∧ Below w.heap.size w wr) (fun i _ => n - (intOf i).toNat)
  case atStart => exact ⟨0, Nat.zero_le _, rfl, notTo_zero _ _, Below.refl _ _⟩
  case round =>
    obtain ⟨k, hk, rfl, hno, hB⟩ := hrel
    have Hno := Lib.hid hno; clear hno
    by_cases hlt : k < n
    · obtain ⟨b, off, p, t, rfl, hb, hg, hc1, hc2⟩ := (hf.below hB).get hlt
      have Hg := Lib.hid hg; clear hg
      by_cases hpx : p = x
      · subst hpx
        go_wp2
        go_ret2
        exact ⟨by rw [findF_at Hno.out Hg.out]; rfl, hB⟩
      · have hd : (p.toList == x.toList) = false := by rw [sEq]; simpa using hpx
        have Hpx := Lib.hid hpx; clear hpx
        go_wp2
        go_roundw
        case rel => exact ⟨k + 1, by omega, by go_num, notTo_step Hno.out Hg.out Hpx.out, hB⟩
        case measure => simp [intOf]; omega
    · have e : n = k := by omega
      have Hall := Lib.hid (notTo_all hlen.out (e ▸ Hno.out)); clear e
      go_wp2
      go_ret2
      exact ⟨by rw [Hall.out]; rfl, hB⟩

set_option maxHeartbeats 400000 in
theorem findI_any (a : Option Addr) (n c : Nat) (fs : List Fl) (x : ByteArray) (w : World) (hf : FilesAt w w.heap.size a n fs) (hn : n ≤ maxLen) :
    Calls Tryz.prog 64 #[.slice a n c, .string x] w fun e w' => e = .returned (.tuple #[.string (findF fs x).1, .bool (findF fs x).2]) ∧ Below w.heap.size w w' := by
  unfold maxLen at hn
  have hlen := Lib.hid hf.1
  go_enter Tryz.func64, Tryz.ntmps64
  go_wp2
  go_loopw [10] (fun i wr => ∃ k : Nat, k ≤ n ∧ i = .int .i64 k ∧ notTo fs x k ∧ Below w.heap.size w wr) (fun i _ => n - (intOf i).toNat)
  case atStart => exact ⟨0, Nat.zero_le _, rfl, notTo_zero _ _, Below.refl _ _⟩
  case round =>
    obtain ⟨k, hk, rfl, hno, hB⟩ := hrel
    have Hno := Lib.hid hno; clear hno
    by_cases hlt : k < n
    · obtain ⟨b, off, p, t, rfl, hb, hg, hc1, hc2⟩ := (hf.below hB).get hlt
      have Hg := Lib.hid hg; clear hg
      by_cases hpx : p = x
      · subst hpx
        go_wp2
        go_ret2
        exact ⟨by rw [findF_at Hno.out Hg.out]; rfl, hB.alloc hB.size _⟩
      · have hd : (p.toList == x.toList) = false := by rw [sEq]; simpa using hpx
        have Hpx := Lib.hid hpx; clear hpx
        go_wp2
        go_roundw
        case rel => exact ⟨k + 1, by omega, by go_num, notTo_step Hno.out Hg.out Hpx.out, hB.alloc hB.size _⟩
        case measure => simp [intOf]; omega
    · have e : n = k := by omega
      have Hall := Lib.hid (notTo_all hlen.out (e ▸ Hno.out)); clear e
      go_wp2
      go_ret2
      exact ⟨by rw [Hall.out]; rfl, hB⟩
end Go.Proofs.YtaiijnepeccllaaGreat

namespace Go.Proofs.YtaiijnepeccllaaGreat
set_option linter.unusedVariables false
open Go.RowKit

/-- a list of expressions: none, or a node with its operands, and the nodes behind it -/
inductive Fo where
  | nil
  | node (k : Int) (s : ByteArray) (ks rest : Fo)

namespace Fo
/-- how many nodes stand side by side -/
def len : Fo → Nat
  | .nil => 0
  | .node _ _ _ r => r.len + 1
/-- how many nodes there are at all -/
def size : Fo → Nat
  | .nil => 0
  | .node _ _ ks r => ks.size + r.size + 1
/-- the bytes and operands below -/
def tot : Fo → Nat
  | .nil => 0
  | .node _ s ks r => s.size + ks.len + ks.tot + r.tot
/-- the node at a place -/
def get : Fo → Nat → Option (Int × ByteArray × Fo)
  | .nil, _ => none
  | .node k s ks r, 0 => some (k, s, ks)
  | .node k s ks r, j + 1 => r.get j
/-- texts and lists that a machine holds -/
def Fits : Fo → Prop
  | .nil => True
  | .node _ s ks r => s.size ≤ maxLen ∧ ks.len ≤ maxLen ∧ ks.Fits ∧ r.Fits
theorem size_le : ∀ f : Fo, f.size ≤ f.len + f.tot
  | .nil => Nat.le_refl _
  | .node k s ks r => by have := size_le ks; have := size_le r; simp only [size, len, tot]; omega
theorem len_size : ∀ f : Fo, f.len ≤ f.size
  | .nil => Nat.le_refl _
  | .node k s ks r => by have := len_size r; simp only [size, len]; omega
theorem get_some : ∀ {f : Fo} {j : Nat}, j < f.len → ∃ x, f.get j = some x
  | .node k s ks r, 0, _ => ⟨_, rfl⟩
  | .node k s ks r, j + 1, h => get_some (f := r) (j := j) (by simp only [len] at h; omega)
  | .nil, _, h => absurd h (by simp [len])
theorem get_lt : ∀ {f : Fo} {j : Nat} {x : Int × ByteArray × Fo}, f.get j = some x → j < f.len
  | .nil, _, _, h => by simp [get] at h
  | .node k s ks r, 0, _, _ => by simp [len]
  | .node k s ks r, j + 1, x, h => by have := get_lt (f := r) (j := j) h; simp only [len]; omega
theorem get_size : ∀ {f : Fo} {j : Nat} {k : Int} {s : ByteArray} {ks : Fo}, f.get j = some (k, s, ks) → ks.size + 1 ≤ f.size
  | .nil, _, _, _, _, h => by simp [get] at h
  | .node k s ks r, 0, _, _, _, h => by simp only [get, Option.some.injEq, Prod.mk.injEq] at h; obtain ⟨_, _, rfl⟩ := h; simp only [size]; omega
  | .node k s ks r, j + 1, _, _, _, h => by have := get_size (f := r) (j := j) h; simp only [size]; omega
theorem get_tot : ∀ {f : Fo} {j : Nat} {k : Int} {s : ByteArray} {ks : Fo}, f.get j = some (k, s, ks) → s.size + ks.len + ks.tot ≤ f.tot
  | .nil, _, _, _, _, h => by simp [get] at h
  | .node k s ks r, 0, _, _, _, h => by simp only [get, Option.some.injEq, Prod.mk.injEq] at h; obtain ⟨_, rfl, rfl⟩ := h; simp only [tot]; omega
  | .node k s ks r, j + 1, _, _, _, h => by have := get_tot (f := r) (j := j) h; simp only [tot]; omega
theorem Fits.get : ∀ {f : Fo} {j : Nat} {k : Int} {s : ByteArray} {ks : Fo}, f.Fits → f.get j = some (k, s, ks) → s.size ≤ maxLen ∧ ks.len ≤ maxLen ∧ ks.Fits
  | .nil, _, _, _, _, _, h => by simp [Fo.get] at h
  | .node k s ks r, 0, _, _, _, hf, h => by simp only [Fo.get, Option.some.injEq, Prod.mk.injEq] at h; obtain ⟨_, rfl, rfl⟩ := h; exact ⟨hf.1, hf.2.1, hf.2.2.1⟩
  | .node k s ks r, j + 1, _, _, _, hf, h => Fits.get (f := r) (j := j) hf.2.2.2 h
/-- the nodes from a place on -/
def drop : Fo → Nat → Fo
  | f, 0 => f
  | .nil, _ + 1 => .nil
  | .node _ _ _ r, j + 1 => r.drop j
theorem drop_zero (f : Fo) : f.drop 0 = f := by cases f <;> rfl
theorem drop_get : ∀ {f : Fo} {j : Nat} {k : Int} {s : ByteArray} {ks : Fo}, f.get j = some (k, s, ks) → f.drop j = .node k s ks (f.drop (j + 1))
  | .nil, _, _, _, _, h => by simp [get] at h
  | .node k s ks r, 0, _, _, _, h => by simp only [get, Option.some.injEq, Prod.mk.injEq] at h; obtain ⟨rfl, rfl, rfl⟩ := h; simp [drop, drop_zero]
  | .node k s ks r, j + 1, _, _, _, h => drop_get (f := r) (j := j) h
theorem drop_all : ∀ {f : Fo} {j : Nat}, f.len ≤ j → f.drop j = .nil
  | .nil, 0, _ => rfl
  | .nil, _ + 1, _ => rfl
  | .node k s ks r, 0, h => absurd h (by simp [len])
  | .node k s ks r, j + 1, h => drop_all (f := r) (j := j) (by simp only [len] at h; omega)
/-- two lists with the same nodes at each place are one list -/
theorem ext : ∀ {f g : Fo}, (∀ j, f.get j = g.get j) → f = g
  | .nil, .nil, _ => rfl
  | .nil, .node .., h => by have := h 0; simp [get] at this
  | .node .., .nil, h => by have := h 0; simp [get] at this
  | .node k s ks r, .node k' s' ks' r', h => by
    have h0 := h 0
    simp only [get, Option.some.injEq, Prod.mk.injEq] at h0
    obtain ⟨rfl, rfl, rfl⟩ := h0
    rw [ext (f := r) (g := r') fun j => h (j + 1)]
/-- a list out of its nodes -/
def ofFn (F : Nat → Int × ByteArray × Fo) : Nat → Nat → Fo
  | 0, _ => .nil
  | n + 1, i => .node (F i).1 (F i).2.1 (F i).2.2 (ofFn F n (i + 1))
theorem ofFn_len (F : Nat → Int × ByteArray × Fo) : ∀ n i, (ofFn F n i).len = n
  | 0, _ => rfl
  | n + 1, i => by simp only [ofFn, len, ofFn_len F n]
theorem ofFn_get (F : Nat → Int × ByteArray × Fo) : ∀ {n i j : Nat} {x : Int × ByteArray × Fo}, (ofFn F n i).get j = some x → j < n ∧ x = F (i + j)
  | 0, _, _, _, h => by simp [ofFn, get] at h
  | n + 1, i, 0, x, h => by simp only [ofFn, get, Option.some.injEq] at h; exact ⟨by omega, h.symm⟩
  | n + 1, i, j + 1, x, h => by
    obtain ⟨h1, h2⟩ := ofFn_get F (n := n) (i := i + 1) (j := j) h
    exact ⟨by omega, by rw [h2]; congr 1; omega⟩
theorem ofFn_fits (F : Nat → Int × ByteArray × Fo) : ∀ {n i : Nat}, (∀ j, i ≤ j → j < i + n → (F j).2.1.size ≤ maxLen ∧ (F j).2.2.len ≤ maxLen ∧ (F j).2.2.Fits) → (ofFn F n i).Fits
  | 0, _, _ => trivial
  | n + 1, i, h => ⟨(h i (by omega) (by omega)).1, (h i (by omega) (by omega)).2.1, (h i (by omega) (by omega)).2.2, ofFn_fits F fun j h1 h2 => h j (by omega) (by omega)⟩
end Fo

/-- these nodes lie side by side from a place on; all that they lead to lies in blocks from L to B -/
def Seg (w : World) (L B : Nat) : Fo → Nat → Nat → Prop
  | .nil, _, _ => True
  | .node k s ks r, b, off => w.cell? ⟨b, off, none⟩ = some (.int .i64 k) ∧ w.cell? ⟨b, off + 1, none⟩ = some (.string s) ∧
      (∃ a n c, w.cell? ⟨b, off + 2, none⟩ = some (.slice a n c) ∧ ks.len = n ∧ n ≤ c ∧ (0 < n → ∃ b' off', a = some ⟨b', off', none⟩ ∧ L ≤ b' ∧ b' < B ∧ Seg w L B ks b' off')) ∧
      Seg w L B r b (off + 3)
/-- a slice whose elements are these nodes -/
def KA (w : World) (L B : Nat) (f : Fo) (a : Option Addr) (n : Nat) : Prop := f.len = n ∧ (0 < n → ∃ b off, a = some ⟨b, off, none⟩ ∧ L ≤ b ∧ b < B ∧ Seg w L B f b off)
/-- one node -/
def NodeAt (w : World) (L B : Nat) (k : Int) (s : ByteArray) (ks : Fo) (b off : Nat) : Prop :=
  w.cell? ⟨b, off, none⟩ = some (.int .i64 k) ∧ w.cell? ⟨b, off + 1, none⟩ = some (.string s) ∧ ∃ a n c, w.cell? ⟨b, off + 2, none⟩ = some (.slice a n c) ∧ n ≤ c ∧ KA w L B ks a n
section
variable {w w' : World} {L L' B B' b off n : Nat} {a : Option Addr} {f ks : Fo} {k : Int} {s : ByteArray}
theorem seg_node {r : Fo} : Seg w L B (.node k s ks r) b off ↔ NodeAt w L B k s ks b off ∧ Seg w L B r b (off + 3) :=
  ⟨fun ⟨h1, h2, ⟨a, n, c, h3, h4, h5, h6⟩, h7⟩ => ⟨⟨h1, h2, a, n, c, h3, h5, h4, h6⟩, h7⟩, fun ⟨⟨h1, h2, a, n, c, h3, h5, h4, h6⟩, h7⟩ => ⟨h1, h2, ⟨a, n, c, h3, h4, h5, h6⟩, h7⟩⟩
theorem seg_get : ∀ {f : Fo} {b off j : Nat} {k : Int} {s : ByteArray} {ks : Fo}, Seg w L B f b off → f.get j = some (k, s, ks) → NodeAt w L B k s ks b (off + j * 3)
  | .nil, _, _, _, _, _, _, _, h => by simp [Fo.get] at h
  | .node k s ks r, _, _, 0, _, _, _, hs, h => by
    simp only [Fo.get, Option.some.injEq, Prod.mk.injEq] at h
    obtain ⟨rfl, rfl, rfl⟩ := h
    rw [Nat.zero_mul]
    exact (seg_node.1 hs).1
  | .node k s ks r, b, off, j + 1, _, _, _, hs, h => by
    have := seg_get (f := r) (j := j) (seg_node.1 hs).2 h
    rwa [show off + (j + 1) * 3 = off + 3 + j * 3 from by omega]
theorem seg_of : ∀ {f : Fo} {b off : Nat}, (∀ j k s ks, f.get j = some (k, s, ks) → NodeAt w L B k s ks b (off + j * 3)) → Seg w L B f b off
  | .nil, _, _, _ => trivial
  | .node k s ks r, b, off, h => by
    refine seg_node.2 ⟨?_, seg_of (f := r) fun j k s ks hg => ?_⟩
    · have := h 0 k s ks rfl
      rwa [Nat.zero_mul] at this
    · have := h (j + 1) k s ks hg
      rwa [show off + (j + 1) * 3 = off + 3 + j * 3 from by omega] at this
theorem seg_keep (hL : L' ≤ L) (hB : B ≤ B') (hk : ∀ p : Addr, L ≤ p.block → p.block < B → w'.cell? p = w.cell? p) : ∀ {f : Fo} {b off : Nat}, L ≤ b → b < B → Seg w L B f b off → Seg w' L' B' f b off
  | .nil, _, _, _, _, _ => trivial
  | .node k s ks r, b, off, h1, h2, ⟨c1, c2, ⟨a, n, c, c3, hl, hc, hs⟩, hr⟩ => by
    refine ⟨(hk ⟨b, off, none⟩ h1 h2).trans c1, (hk ⟨b, off + 1, none⟩ h1 h2).trans c2, ⟨a, n, c, (hk ⟨b, off + 2, none⟩ h1 h2).trans c3, hl, hc, fun hn => ?_⟩, seg_keep hL hB hk h1 h2 hr⟩
    obtain ⟨b', off', ha, hb1, hb2, hs'⟩ := hs hn
    exact ⟨b', off', ha, by omega, by omega, seg_keep hL hB hk hb1 hb2 hs'⟩
theorem KA.keep (h : KA w L B f a n) (hL : L' ≤ L) (hB : B ≤ B') (hk : ∀ p : Addr, L ≤ p.block → p.block < B → w'.cell? p = w.cell? p) : KA w' L' B' f a n :=
  ⟨h.1, fun hn => let ⟨b, off, ha, h1, h2, hs⟩ := h.2 hn; ⟨b, off, ha, by omega, by omega, seg_keep hL hB hk h1 h2 hs⟩⟩
theorem KA.more (h : KA w L B f a n) (hL : L' ≤ L) (hB : B ≤ B') : KA w L' B' f a n := h.keep hL hB fun _ _ _ => rfl
theorem KA.below (h : KA w L B f a n) (hb : Below B w w') : KA w' L B f a n := h.keep (Nat.le_refl _) (Nat.le_refl _) fun _ _ hp => hb.cell hp
theorem KA.next (h : KA w L w.heap.size f a n) (hb : Below w.heap.size w w') : KA w' L w'.heap.size f a n := (h.below hb).more (Nat.le_refl _) hb.size
theorem KA.nextB (h : KA w L B f a n) (hB : B ≤ w.heap.size) (hb : Below w.heap.size w w') : KA w' L B f a n := h.below (hb.mono hB)
theorem KA.alloc (h : KA w L B f a n) (hB : B ≤ w.heap.size) (o : Obj) : KA (w.alloc o) L B f a n := h.keep (Nat.le_refl _) (Nat.le_refl _) fun p _ hp => World.cell?_alloc_lt w o p (by omega)
theorem KA.setCell (h : KA w L B f a n) {g : Nat} (hg : g < L ∨ B ≤ g) (i : Nat) (u : Value) : KA (w.setCell ⟨g, i, none⟩ u) L B f a n :=
  h.keep (Nat.le_refl _) (Nat.le_refl _) fun p h1 h2 => World.cell?_setCell_other w _ _ _ (by rintro rfl; simp at h1 h2; omega)
theorem KA.nil : KA w L B .nil a 0 := ⟨rfl, fun h => absurd h (by omega)⟩
theorem KA.get (h : KA w L B f a n) {j : Nat} (hj : j < n) :
    ∃ b off k s ks a' n' c', a = some ⟨b, off, none⟩ ∧ L ≤ b ∧ b < B ∧ f.get j = some (k, s, ks) ∧ w.cell? ⟨b, off + j * 3, none⟩ = some (.int .i64 k) ∧ w.cell? ⟨b, off + j * 3 + 1, none⟩ = some (.string s) ∧
      w.cell? ⟨b, off + j * 3 + 2, none⟩ = some (.slice a' n' c') ∧ n' ≤ c' ∧ KA w L B ks a' n' := by
  obtain ⟨b, off, ha, hb, hc, hs⟩ := h.2 (by omega)
  obtain ⟨⟨k, s, ks⟩, hg⟩ := Fo.get_some (f := f) (j := j) (by have := h.1; omega)
  obtain ⟨h1, h2, a', n', c', h3, h4, h5⟩ := seg_get hs hg
  exact ⟨b, off, k, s, ks, a', n', c', ha, hb, hc, hg, h1, h2, h3, h4, h5⟩
end
end Go.Proofs.YtaiijnepeccllaaGreat

namespace Go.Proofs.YtaiijnepeccllaaGreat
set_option linter.unusedVariables false
open Go.RowKit

/-- no quote in it -/
def noQ (l : List UInt8) : Bool := l.all fun c => decide (c.toNat ≠ 39)
theorem noQ_succ (s : ByteArray) (k : Nat) (h : k < s.size) : noQ (s.data.toList.take (k + 1)) = (noQ (s.data.toList.take k) && decide (s[k].toNat ≠ 39)) := by
  unfold noQ
  rw [List.take_succ_eq_append_getElem (by simpa using h), List.all_append]
  congr 1
  simp only [List.all_cons, List.all_nil, Bool.and_true]
  rfl
theorem noQ_false (s : ByteArray) (k : Nat) (h : k < s.size) (hb : s[k].toNat = 39) : noQ s.data.toList = false := by
  have h1 := noQ_succ s k h
  rw [decide_eq_false (p := s[k].toNat ≠ 39) (by omega), Bool.and_false] at h1
  unfold noQ at h1 ⊢
  rw [← List.take_append_drop (k + 1) s.data.toList, List.all_append, h1, Bool.false_and]
/-- a text that can stand between quotes -/
def plainB (s : ByteArray) : Bool := noQ s.data.toList && textB s
/-- a number of operands that is right for a kind -/
def kidsB (k : Int) (n : Nat) : Bool := (decide (k = 1) && decide (n = 0)) || (decide (k = 3) && decide (n ≤ 4)) || (decide (k = 4) && decide (n = 4)) || ((decide (k = 2) || decide (k = 5) || decide (k = 6) || decide (k = 7)) && decide (n = 1))
/-- a node that is right, but for its operands -/
def nodeB (k : Int) (s : ByteArray) (n : Nat) : Bool := kidsB k n && plainB s && (decide (k = 1) || decide (s = .empty))
/-- well-formed down to a depth -/
def shape : Fo → Nat → Bool
  | .nil, _ => true
  | .node k s ks r, d => decide (1 ≤ d) && nodeB k s ks.len && shape ks (d - 1) && shape r d
/-- nodes down to a depth -/
def count : Fo → Nat → Nat
  | .nil, _ => 0
  | .node k s ks r, d => 1 + (if 0 < d then count ks (d - 1) else 0) + count r d
theorem count_le : ∀ (f : Fo) (d : Nat), count f d ≤ f.size
  | .nil, _ => Nat.le_refl _
  | .node k s ks r, d => by
    have h1 := count_le ks (d - 1)
    have h2 := count_le r d
    simp only [count, Fo.size]
    split <;> omega
theorem count_shape : ∀ (f : Fo) (d : Nat), shape f d = true → count f d = f.size
  | .nil, _, _ => rfl
  | .node k s ks r, d, h => by
    simp only [shape, Bool.and_eq_true, decide_eq_true_eq] at h
    have h1 := count_shape ks (d - 1) h.1.2
    have h2 := count_shape r d h.2
    simp only [count, Fo.size]
    rw [if_pos (by omega)]
    omega
/-- a valid expression -/
def validE (k : Int) (s : ByteArray) (ks : Fo) : Bool := shape (.node k s ks .nil) 6 && decide (ks.size + 1 ≤ 20)
/-- the count of nodes behind a list of operands at a depth, if all are right -/
def conv : Fo → Nat → Nat → Option Nat
  | .nil, _, m => some m
  | .node k s ks r, d, m => if m + 1 ≤ 20 ∧ d ≤ 6 then (conv ks (d + 1) (m + 1)).bind fun m' => if nodeB k s ks.len = true then conv r d m' else none else none
/-- one node -/
def conv1 (k : Int) (s : ByteArray) (ks : Fo) (d m : Nat) : Option Nat := if m + 1 ≤ 20 ∧ d ≤ 6 then (conv ks (d + 1) (m + 1)).bind fun m' => if nodeB k s ks.len = true then some m' else none else none
theorem conv_node (k : Int) (s : ByteArray) (ks r : Fo) (d m : Nat) : conv (.node k s ks r) d m = (conv1 k s ks d m).bind fun m' => conv r d m' := by
  unfold conv1
  rw [conv]
  split
  · cases conv ks (d + 1) (m + 1) with
    | none => rfl
    | some m' => simp only [Option.bind_some]; split <;> rfl
  · rfl
theorem conv_eq : ∀ (f : Fo) (d m : Nat), d ≤ 7 → m ≤ 20 → conv f d m = if shape f (7 - d) = true ∧ m + f.size ≤ 20 then some (m + f.size) else none
  | .nil, d, m, _, hm => by simp [conv, shape, Fo.size, hm]
  | .node k s ks r, d, m, hd, hm => by
    rw [conv]
    simp only [shape, Fo.size, Bool.and_eq_true, decide_eq_true_eq]
    by_cases h1 : m + 1 ≤ 20 ∧ d ≤ 6
    · rw [if_pos h1, conv_eq ks (d + 1) (m + 1) (by omega) h1.1, show 7 - (d + 1) = 7 - d - 1 from by omega]
      by_cases h2 : shape ks (7 - d - 1) = true ∧ m + 1 + ks.size ≤ 20
      · rw [if_pos h2, Option.bind_some]
        by_cases h3 : nodeB k s ks.len = true
        · rw [if_pos h3, conv_eq r d _ hd h2.2]
          by_cases h4 : shape r (7 - d) = true ∧ m + 1 + ks.size + r.size ≤ 20
          · rw [if_pos h4, if_pos ⟨⟨⟨⟨by omega, h3⟩, h2.1⟩, h4.1⟩, by omega⟩]; congr 1; omega
          · rw [if_neg h4, if_neg (fun h => h4 ⟨h.1.2, by omega⟩)]
        · rw [if_neg h3, if_neg (fun h => h3 h.1.1.1.2)]
      · rw [if_neg h2, Option.bind_none, if_neg (fun h => h2 ⟨h.1.1.2, by omega⟩)]
    · rw [if_neg h1, if_neg (fun h => h1 ⟨by omega, by have := h.1.1.1.1; omega⟩)]
theorem conv1_valid (k : Int) (s : ByteArray) (ks : Fo) : conv1 k s ks 1 0 = if validE k s ks = true then some (ks.size + 1) else none := by
  have h1 : conv (.node k s ks .nil) 1 0 = conv1 k s ks 1 0 := by
    rw [conv_node]
    cases conv1 k s ks 1 0 <;> rfl
  rw [← h1, conv_eq _ 1 0 (by omega) (by omega)]
  unfold validE
  simp only [Bool.and_eq_true, decide_eq_true_eq, Fo.size, show 7 - 1 = 6 from rfl]
  by_cases h : shape (.node k s ks .nil) 6 = true ∧ ks.size + 1 ≤ 20
  · rw [if_pos h, if_pos ⟨h.1, by omega⟩]; congr 1; omega
  · rw [if_neg h, if_neg (fun h2 => h ⟨h2.1, by omega⟩)]
theorem conv_le {f : Fo} {d m m' : Nat} (hd : d ≤ 7) (hm : m ≤ 20) (h : conv f d m = some m') : m' ≤ 20 := by
  rw [conv_eq f d m hd hm] at h
  split at h
  · cases h; omega
  · cases h
end Go.Proofs.YtaiijnepeccllaaGreat

namespace Go.Proofs.YtaiijnepeccllaaGreat
set_option linter.unusedVariables false
open Go.RowKit

/-- all nodes are right -/
def good : Fo → Bool
  | .nil => true
  | .node k s ks r => nodeB k s ks.len && good ks && good r
theorem good_of : ∀ {f : Fo} {d : Nat}, shape f d = true → good f = true
  | .nil, _, _ => rfl
  | .node k s ks r, d, h => by
    simp only [shape, Bool.and_eq_true] at h
    simp only [good, Bool.and_eq_true]
    exact ⟨⟨h.1.1.2, good_of h.1.2⟩, good_of h.2⟩
theorem good_get : ∀ {f : Fo} {j : Nat} {k : Int} {s : ByteArray} {ks : Fo}, good f = true → f.get j = some (k, s, ks) → nodeB k s ks.len = true ∧ good ks = true
  | .nil, _, _, _, _, _, h => by simp [Fo.get] at h
  | .node k s ks r, 0, _, _, _, hf, h => by
    simp only [Fo.get, Option.some.injEq, Prod.mk.injEq] at h
    obtain ⟨rfl, rfl, rfl⟩ := h
    simp only [good, Bool.and_eq_true] at hf
    exact hf.1
  | .node k s ks r, j + 1, _, _, _, hf, h => by
    simp only [good, Bool.and_eq_true] at hf
    exact good_get (f := r) (j := j) hf.2 h
theorem valid_good {k : Int} {s : ByteArray} {ks : Fo} (h : validE k s ks = true) : nodeB k s ks.len = true ∧ good ks = true ∧ ks.size + 1 ≤ 20 := by
  unfold validE at h
  simp only [Bool.and_eq_true, decide_eq_true_eq] at h
  have := good_of h.1
  simp only [good, Bool.and_eq_true] at this
  exact ⟨this.1.1, this.1.2, h.2⟩
/-- the kinds -/
theorem node_kinds {k : Int} {s : ByteArray} {n : Nat} (h : nodeB k s n = true) :
    (k = 1 ∧ n = 0 ∧ plainB s = true) ∨ (k = 3 ∧ n ≤ 4 ∧ s = .empty) ∨ (k = 4 ∧ n = 4 ∧ s = .empty) ∨ ((k = 2 ∨ k = 5 ∨ k = 6 ∨ k = 7) ∧ n = 1 ∧ s = .empty) := by
  unfold nodeB kidsB at h
  simp only [Bool.and_eq_true, Bool.or_eq_true, decide_eq_true_eq] at h
  obtain ⟨⟨h1, h2⟩, h3⟩ := h
  rcases h1 with ((⟨h1, h4⟩ | ⟨h1, h4⟩) | ⟨h1, h4⟩) | ⟨h1, h4⟩
  · exact .inl ⟨h1, h4, h2⟩
  · exact .inr (.inl ⟨h1, h4, h3.resolve_left (by omega)⟩)
  · exact .inr (.inr (.inl ⟨h1, h4, h3.resolve_left (by omega)⟩))
  · exact .inr (.inr (.inr ⟨by rcases h1 with ((h1 | h1) | h1) | h1 <;> simp [h1], h4, h3.resolve_left (by omega)⟩))
theorem plain_size {s : ByteArray} (h : plainB s = true) : s.size ≤ 60 := by
  unfold plainB at h
  simp only [Bool.and_eq_true] at h
  exact ((textB_iff s).1 h.2).1
theorem node_size {k : Int} {s : ByteArray} {n : Nat} (h : nodeB k s n = true) : s.size ≤ 60 := by
  unfold nodeB at h
  simp only [Bool.and_eq_true] at h
  exact plain_size h.1.2
theorem len_one {ks : Fo} (h : ks.len = 1) : ∃ k s f, ks = .node k s f .nil := by
  match ks, h with
  | .node k s f .nil, _ => exact ⟨k, s, f, rfl⟩
  | .node k s f (.node ..), h => simp [Fo.len] at h
theorem len_zero {ks : Fo} (h : ks.len = 0) : ks = .nil := by
  match ks, h with
  | .nil, _ => rfl
  | .node .., h => simp [Fo.len] at h
/-- the byte that a node with one operand begins with -/
def chrB (k : Int) : UInt8 := if k = 2 then 64 else if k = 5 then 60 else if k = 6 then 62 else 35
/-- the texts of nodes, each with what stands behind it -/
def fmS : Fo → List (List UInt8) → List UInt8
  | .nil, _ => []
  | .node k s ks r, seps => (if k = 1 then [39] ++ s.data.toList ++ [39] else if k = 3 then [40] ++ fmS ks [] ++ [41] else if k = 4 then [91] ++ fmS ks [[61], [63], [58], [93]] else [chrB k] ++ fmS ks []) ++ seps.headD [] ++ fmS r seps.tail
/-- the text of a node -/
def fm1 (k : Int) (s : ByteArray) (ks : Fo) : List UInt8 :=
  if k = 1 then [39] ++ s.data.toList ++ [39] else if k = 3 then [40] ++ fmS ks [] ++ [41] else if k = 4 then [91] ++ fmS ks [[61], [63], [58], [93]] else [chrB k] ++ fmS ks []
theorem fmS_node (k : Int) (s : ByteArray) (ks r : Fo) (seps : List (List UInt8)) : fmS (.node k s ks r) seps = fm1 k s ks ++ seps.headD [] ++ fmS r seps.tail := rfl
theorem fmS_one (k : Int) (s : ByteArray) (ks : Fo) : fmS (.node k s ks .nil) [] = fm1 k s ks := by rw [fmS_node]; simp [fmS]
theorem fmS_len : ∀ {f : Fo} (seps : List (List UInt8)), good f = true → (∀ x ∈ seps, x.length ≤ 1) → (fmS f seps).length ≤ 63 * f.size
  | .nil, _, _, _ => Nat.le_refl _
  | .node k s ks r, seps, hg, hs => by
    simp only [good, Bool.and_eq_true] at hg
    have h1 := fmS_len (f := ks) [] hg.1.2 (by simp)
    have h2 := fmS_len (f := ks) [[61], [63], [58], [93]] hg.1.2 (by simp)
    have h3 := fmS_len (f := r) seps.tail hg.2 (fun x hx => hs x (List.mem_of_mem_tail hx))
    have h4 : (seps.headD []).length ≤ 1 := by
      cases seps with
      | nil => simp
      | cons a l => exact hs a (by simp)
    have h5 := node_size hg.1.1
    have h6 : s.data.toList.length ≤ 60 := by rw [Array.length_toList]; exact h5
    rw [fmS_node, List.length_append, List.length_append]
    simp only [Fo.size]
    have h7 : (fm1 k s ks).length ≤ 62 + 63 * ks.size := by
      unfold fm1
      split
      · simp only [List.length_append, List.length_cons, List.length_nil]; omega
      · split
        · simp only [List.length_append, List.length_cons, List.length_nil]; omega
        · split
          · simp only [List.length_append, List.length_cons, List.length_nil]; omega
          · simp only [List.length_append, List.length_cons, List.length_nil]; omega
    omega
theorem fm1_len {k : Int} {s : ByteArray} {ks : Fo} (hn : nodeB k s ks.len = true) (hg : good ks = true) : (fm1 k s ks).length ≤ 63 * (ks.size + 1) := by
  have := fmS_len (f := .node k s ks .nil) [] (by simp only [good, hn, hg, Bool.and_true]) (by simp)
  rw [fmS_one] at this
  simpa [Fo.size] using this
/-- the text of an expression, if it is valid -/
def fmtE (k : Int) (s : ByteArray) (ks : Fo) : ByteArray := if validE k s ks = true then ⟨(fm1 k s ks).toArray⟩ else .empty
end Go.Proofs.YtaiijnepeccllaaGreat

namespace Go.Proofs.YtaiijnepeccllaaGreat
set_option linter.unusedVariables false
open Go.RowKit

theorem ba_ext {a b : ByteArray} (h : a.data.toList = b.data.toList) : a = b := by
  cases a; cases b; simp at h; simp [h]
/-- a node whose text can be read back, but for its operands -/
def TxN (k : Int) (s : ByteArray) (n : Nat) : Prop :=
  (k = 1 ∧ n = 0 ∧ (39 : UInt8) ∉ s.data.toList) ∨ (k = 3 ∧ s = .empty) ∨ (k = 4 ∧ n = 4 ∧ s = .empty) ∨ ((k = 2 ∨ k = 5 ∨ k = 6 ∨ k = 7) ∧ n = 1 ∧ s = .empty)
def Tx : Fo → Prop
  | .nil => True
  | .node k s ks r => TxN k s ks.len ∧ Tx ks ∧ Tx r
/-- the byte that a node's text begins with -/
def hdB (k : Int) : UInt8 := if k = 1 then 39 else if k = 3 then 40 else if k = 4 then 91 else chrB k
/-- the rest of its text -/
def tlB (k : Int) (s : ByteArray) (ks : Fo) : List UInt8 := if k = 1 then s.data.toList ++ [39] else if k = 3 then fmS ks [] ++ [41] else if k = 4 then fmS ks [[61], [63], [58], [93]] else fmS ks []
theorem fm1_hd (k : Int) (s : ByteArray) (ks : Fo) : fm1 k s ks = hdB k :: tlB k s ks := by
  unfold fm1 hdB tlB
  by_cases h1 : k = 1
  · simp [h1]
  · by_cases h3 : k = 3
    · simp [h3]
    · by_cases h4 : k = 4
      · simp [h4]
      · simp [h1, h3, h4]
theorem txN_kind {k : Int} {s : ByteArray} {n : Nat} (h : TxN k s n) : k = 1 ∨ k = 2 ∨ k = 3 ∨ k = 4 ∨ k = 5 ∨ k = 6 ∨ k = 7 := by
  rcases h with h | h | h | h <;> omega
theorem hd_inj {k k' : Int} (h : k = 1 ∨ k = 2 ∨ k = 3 ∨ k = 4 ∨ k = 5 ∨ k = 6 ∨ k = 7) (h' : k' = 1 ∨ k' = 2 ∨ k' = 3 ∨ k' = 4 ∨ k' = 5 ∨ k' = 6 ∨ k' = 7) (e : hdB k = hdB k') : k = k' := by
  rcases h with rfl | rfl | rfl | rfl | rfl | rfl | rfl <;> rcases h' with rfl | rfl | rfl | rfl | rfl | rfl | rfl <;> first | rfl | (exact absurd e (by decide))
theorem hd_not {k : Int} (h : k = 1 ∨ k = 2 ∨ k = 3 ∨ k = 4 ∨ k = 5 ∨ k = 6 ∨ k = 7) : hdB k ≠ 41 := by
  rcases h with rfl | rfl | rfl | rfl | rfl | rfl | rfl <;> decide
theorem quote_uniq : ∀ {x y t t' : List UInt8}, (39 : UInt8) ∉ x → (39 : UInt8) ∉ y → x ++ 39 :: t = y ++ 39 :: t' → x = y ∧ t = t'
  | [], [], _, _, _, _, h => ⟨rfl, by simpa using h⟩
  | [], b :: y, _, _, _, hy, h => by simp at h hy; exact absurd h.1 hy.1
  | a :: x, [], _, _, hx, _, h => by simp at h hx; exact absurd h.1.symm hx.1
  | a :: x, b :: y, _, _, hx, hy, h => by
    simp at h hx hy
    obtain ⟨h1, h2⟩ := quote_uniq hx.2 hy.2 h.2
    exact ⟨by rw [h.1, h1], h2⟩
/-- with as many nodes, or before a closing bracket, a list has one reading -/
def UnP (f : Fo) : Prop := ∀ g seps t t', Tx f → Tx g → f.len = g.len → fmS f seps ++ t = fmS g seps ++ t' → f = g ∧ t = t'
def UnJ (f : Fo) : Prop := ∀ g t t', Tx f → Tx g → fmS f [] ++ 41 :: t = fmS g [] ++ 41 :: t' → f = g ∧ t = t'
theorem u1_of {k k' : Int} {s s' : ByteArray} {ks ks' : Fo} {t t' : List UInt8} (ih : UnP ks ∧ UnJ ks) (h : TxN k s ks.len) (hk : Tx ks) (h' : TxN k' s' ks'.len) (hk' : Tx ks') (e : fm1 k s ks ++ t = fm1 k' s' ks' ++ t') : k = k' ∧ s = s' ∧ ks = ks' ∧ t = t' := by
  rw [fm1_hd, fm1_hd, List.cons_append, List.cons_append] at e
  injection e with e1 e2
  obtain rfl := hd_inj (txN_kind h) (txN_kind h') e1
  rcases h with ⟨rfl, h0, hq⟩ | ⟨rfl, hs⟩ | ⟨rfl, h0, hs⟩ | ⟨hk7, h0, hs⟩
  · obtain ⟨h0', hq'⟩ : ks'.len = 0 ∧ (39 : UInt8) ∉ s'.data.toList := by
      rcases h' with ⟨_, h1, h2⟩ | ⟨h', _⟩ | ⟨h', _⟩ | ⟨h', _⟩
      · exact ⟨h1, h2⟩
      all_goals omega
    simp only [tlB, if_true, List.append_assoc, List.singleton_append] at e2
    obtain ⟨h1, h2⟩ := quote_uniq hq hq' e2
    exact ⟨rfl, ba_ext h1, by rw [len_zero h0, len_zero h0'], h2⟩
  · have hs' : s' = .empty := by
      rcases h' with ⟨h', _⟩ | ⟨_, h1⟩ | ⟨h', _⟩ | ⟨h', _⟩
      · omega
      · exact h1
      all_goals omega
    simp only [tlB, if_true, show ¬ ((3 : Int) = 1) from by decide, if_false, List.append_assoc, List.singleton_append] at e2
    obtain ⟨h1, h2⟩ := ih.2 _ _ _ hk hk' e2
    exact ⟨rfl, hs.trans hs'.symm, h1, h2⟩
  · obtain ⟨h0', hs'⟩ : ks'.len = 4 ∧ s' = .empty := by
      rcases h' with ⟨h', _⟩ | ⟨h', _⟩ | ⟨_, h1, h2⟩ | ⟨h', _⟩
      · omega
      · omega
      · exact ⟨h1, h2⟩
      · omega
    simp only [tlB, if_true, show ¬ ((4 : Int) = 1) from by decide, show ¬ ((4 : Int) = 3) from by decide, if_false] at e2
    obtain ⟨h1, h2⟩ := ih.1 _ _ _ _ hk hk' (h0.trans h0'.symm) e2
    exact ⟨rfl, hs.trans hs'.symm, h1, h2⟩
  · obtain ⟨h0', hs'⟩ : ks'.len = 1 ∧ s' = .empty := by
      rcases h' with ⟨h', _⟩ | ⟨h', _⟩ | ⟨h', _⟩ | ⟨_, h1, h2⟩
      · omega
      · omega
      · omega
      · exact ⟨h1, h2⟩
    unfold tlB at e2
    rw [if_neg (by omega), if_neg (by omega), if_neg (by omega), if_neg (by omega), if_neg (by omega), if_neg (by omega)] at e2
    obtain ⟨h1, h2⟩ := ih.1 _ _ _ _ hk hk' (h0.trans h0'.symm) e2
    exact ⟨rfl, hs.trans hs'.symm, h1, h2⟩
theorem un_all : ∀ f : Fo, UnP f ∧ UnJ f
  | .nil => by
    refine ⟨fun g seps t t' _ _ hl e => ?_, fun g t t' _ hg e => ?_⟩
    · obtain rfl := len_zero (ks := g) hl.symm
      exact ⟨rfl, by simpa [fmS] using e⟩
    · match g, hg, e with
      | .nil, _, e => exact ⟨rfl, by simpa [fmS] using e⟩
      | .node k s ks r, hg, e =>
        rw [fmS_node, fm1_hd] at e
        simp only [fmS, List.nil_append, List.cons_append] at e
        injection e with e1 _
        exact absurd e1.symm (hd_not (txN_kind hg.1))
  | .node k s ks r => by
    have ihk := un_all ks
    have ihr := un_all r
    refine ⟨fun g seps t t' hf hg hl e => ?_, fun g t t' hf hg e => ?_⟩
    · match g, hg, hl, e with
      | .nil, _, hl, _ => simp [Fo.len] at hl
      | .node k' s' ks' r', hg, hl, e =>
        rw [fmS_node, fmS_node, List.append_assoc, List.append_assoc, List.append_assoc, List.append_assoc] at e
        obtain ⟨rfl, rfl, rfl, e2⟩ := u1_of ihk hf.1 hf.2.1 hg.1 hg.2.1 e
        have e3 := List.append_cancel_left e2
        obtain ⟨rfl, h2⟩ := ihr.1 r' seps.tail t t' hf.2.2 hg.2.2 (by simp only [Fo.len] at hl; omega) e3
        exact ⟨rfl, h2⟩
    · match g, hg, e with
      | .nil, _, e =>
        rw [fmS_node, fm1_hd] at e
        simp only [fmS, List.nil_append, List.cons_append] at e
        injection e with e1 _
        exact absurd e1 (hd_not (txN_kind hf.1))
      | .node k' s' ks' r', hg, e =>
        rw [fmS_node, fmS_node, List.append_assoc, List.append_assoc, List.append_assoc, List.append_assoc] at e
        obtain ⟨rfl, rfl, rfl, e2⟩ := u1_of ihk hf.1 hf.2.1 hg.1 hg.2.1 e
        simp only [List.headD_nil, List.tail_nil, List.nil_append] at e2
        obtain ⟨rfl, h2⟩ := ihr.2 r' t t' hf.2.2 hg.2.2 e2
        exact ⟨rfl, h2⟩
theorem u1 {k k' : Int} {s s' : ByteArray} {ks ks' : Fo} {t t' : List UInt8} (h : TxN k s ks.len) (hk : Tx ks) (h' : TxN k' s' ks'.len) (hk' : Tx ks') (e : fm1 k s ks ++ t = fm1 k' s' ks' ++ t') : k = k' ∧ s = s' ∧ ks = ks' ∧ t = t' := u1_of (un_all ks) h hk h' hk' e

namespace Fo
/-- two lists, one behind the other -/
def app : Fo → Fo → Fo
  | .nil, g => g
  | .node k s ks r, g => .node k s ks (r.app g)
theorem app_size : ∀ f g : Fo, (f.app g).size = f.size + g.size
  | .nil, g => by simp [app, size]
  | .node k s ks r, g => by simp only [app, size, app_size r]; omega
theorem app_len : ∀ f g : Fo, (f.app g).len = f.len + g.len
  | .nil, g => by simp [app, len]
  | .node k s ks r, g => by simp only [app, len, app_len r]; omega
theorem app_nil : ∀ f : Fo, f.app .nil = f
  | .nil => rfl
  | .node k s ks r => by simp only [app, app_nil r]
end Fo
theorem tx_app : ∀ {f g : Fo}, Tx (f.app g) → Tx g
  | .nil, _, h => h
  | .node k s ks r, _, h => tx_app (f := r) h.2.2
/-- what stands behind the nodes that were read is the text of the others -/
theorem read_on : ∀ {f ks : Fo} {seps : List (List UInt8)} {cur tail : List UInt8}, Tx f → Tx ks → f.len ≤ ks.len → fmS f seps ++ cur = fmS ks seps ++ tail → ∃ g, ks = f.app g ∧ cur = fmS g (seps.drop f.len) ++ tail
  | .nil, ks, seps, cur, tail, _, _, _, e => ⟨ks, rfl, by simpa [fmS, Fo.len] using e⟩
  | .node k s k1 r, .nil, _, _, _, _, _, hl, _ => absurd hl (by simp [Fo.len])
  | .node k s k1 r, .node k' s' k1' r', seps, cur, tail, hf, hg, hl, e => by
    rw [fmS_node, fmS_node, List.append_assoc, List.append_assoc, List.append_assoc, List.append_assoc] at e
    obtain ⟨rfl, rfl, rfl, e2⟩ := u1 hf.1 hf.2.1 hg.1 hg.2.1 e
    obtain ⟨g, rfl, h2⟩ := read_on (f := r) (ks := r') hf.2.2 hg.2.2 (by simp only [Fo.len] at hl; omega) (List.append_cancel_left e2)
    refine ⟨g, rfl, ?_⟩
    rw [h2]
    cases seps with
    | nil => simp [Fo.len]
    | cons a l => simp [Fo.len]
theorem read_join : ∀ {f ks : Fo} {cur tail : List UInt8}, Tx f → Tx ks → fmS f [] ++ cur = fmS ks [] ++ 41 :: tail → ∃ g, ks = f.app g ∧ cur = fmS g [] ++ 41 :: tail
  | .nil, ks, cur, tail, _, _, e => ⟨ks, rfl, by simpa [fmS] using e⟩
  | .node k s k1 r, .nil, cur, tail, hf, _, e => by
    rw [fmS_node, fm1_hd] at e
    simp only [fmS, List.nil_append, List.cons_append] at e
    injection e with e1 _
    exact absurd e1 (hd_not (txN_kind hf.1))
  | .node k s k1 r, .node k' s' k1' r', cur, tail, hf, hg, e => by
    rw [fmS_node, fmS_node, List.append_assoc, List.append_assoc, List.append_assoc, List.append_assoc] at e
    obtain ⟨rfl, rfl, rfl, e2⟩ := u1 hf.1 hf.2.1 hg.1 hg.2.1 e
    simp only [List.headD_nil, List.tail_nil, List.nil_append] at e2
    obtain ⟨g, rfl, h2⟩ := read_join (f := r) (ks := r') hf.2.2 hg.2.2 e2
    exact ⟨g, rfl, h2⟩

/-- no node of at most this size can be read off the text -/
def NoRead (l : List UInt8) (n : Nat) : Prop := ∀ (k : Int) (s : ByteArray) (ks : Fo) (tail : List UInt8), TxN k s ks.len → Tx ks → l = fm1 k s ks ++ tail → n < ks.size + 1
/-- a node is read off the text -/
def Reads1 (l : List UInt8) (n : Nat) (k : Int) (s : ByteArray) (ks : Fo) (tail : List UInt8) : Prop := TxN k s ks.len ∧ Tx ks ∧ l = fm1 k s ks ++ tail ∧ ks.size + 1 ≤ n
theorem noRead_zero (l : List UInt8) : NoRead l 0 := fun _ _ _ _ _ _ _ => Nat.succ_pos _
theorem noRead_nil (n : Nat) : NoRead [] n := fun k s ks tail _ _ e => by rw [fm1_hd] at e; simp at e
theorem noRead_hd {c : UInt8} {l : List UInt8} {n : Nat} (h : ∀ k : Int, (k = 1 ∨ k = 2 ∨ k = 3 ∨ k = 4 ∨ k = 5 ∨ k = 6 ∨ k = 7) → hdB k ≠ c) : NoRead (c :: l) n := fun k s ks tail h1 _ e => by
  rw [fm1_hd, List.cons_append] at e
  injection e with e1 _
  exact absurd e1.symm (h k (txN_kind h1))
/-- a list of nodes that is read off the text: so far -/
def ReadsS (l : List UInt8) (n : Nat) (seps : List (List UInt8)) (f : Fo) (cur : List UInt8) : Prop := Tx f ∧ l = fmS f seps ++ cur ∧ f.size ≤ n
def NoJoin (l : List UInt8) (n : Nat) : Prop := ∀ (ks : Fo) (tail : List UInt8), Tx ks → l = fmS ks [] ++ 41 :: tail → n < ks.size
def NoSeps (l : List UInt8) (n : Nat) (seps : List (List UInt8)) : Prop := ∀ (ks : Fo) (tail : List UInt8), Tx ks → ks.len = seps.length → l = fmS ks seps ++ tail → n < ks.size
theorem noJoin_of {l : List UInt8} {n : Nat} {f : Fo} {cur : List UInt8} (h : ReadsS l n [] f cur) (h1 : ∀ t, cur ≠ 41 :: t) (h2 : NoRead cur (n - f.size)) : NoJoin l n := by
  intro ks tail hk e
  obtain ⟨hf, hl, hz⟩ := h
  obtain ⟨g, rfl, hc⟩ := read_join hf hk (hl.symm.trans e)
  match g, hk, hc with
  | .nil, _, hc => exact absurd (by simpa [fmS] using hc) (h1 tail)
  | .node k s k1 r, hk, hc =>
    have hg := tx_app hk
    rw [fmS_node, List.append_assoc, List.append_assoc] at hc
    have := h2 k s k1 _ hg.1 hg.2.1 hc
    rw [Fo.app_size]
    simp only [Fo.size]
    omega
theorem noSeps_expr {l : List UInt8} {n : Nat} {seps : List (List UInt8)} {f : Fo} {cur : List UInt8} (h : ReadsS l n seps f cur) (hj : f.len < seps.length) (h2 : NoRead cur (n - f.size)) : NoSeps l n seps := by
  intro ks tail hk hlen e
  obtain ⟨hf, hl, hz⟩ := h
  obtain ⟨g, rfl, hc⟩ := read_on hf hk (by omega) (hl.symm.trans e)
  rw [Fo.app_len] at hlen
  match g, hk, hc with
  | .nil, _, _ => simp only [Fo.len] at hlen; omega
  | .node k s k1 r, hk, hc =>
    have hg := tx_app hk
    rw [fmS_node, List.append_assoc, List.append_assoc] at hc
    have := h2 k s k1 _ hg.1 hg.2.1 hc
    rw [Fo.app_size]
    simp only [Fo.size]
    omega
theorem noSeps_mark {l : List UInt8} {n : Nat} {seps : List (List UInt8)} {f : Fo} {cur cur2 : List UInt8} {k : Int} {s : ByteArray} {ks1 : Fo} {m : List UInt8} (h : ReadsS l n seps f cur) (hj : seps[f.len]? = some m) (h2 : Reads1 cur (n - f.size) k s ks1 cur2) (h3 : ∀ t, cur2 ≠ m ++ t) : NoSeps l n seps := by
  intro ks tail hk hlen e
  obtain ⟨hf, hl, hz⟩ := h
  have hjl := (List.getElem?_eq_some_iff.1 hj).1
  obtain ⟨g, rfl, hc⟩ := read_on hf hk (by omega) (hl.symm.trans e)
  rw [Fo.app_len] at hlen
  match g, hk, hc with
  | .nil, _, _ => simp only [Fo.len] at hlen; omega
  | .node k' s' k1 r, hk, hc =>
    have hg := tx_app hk
    rw [fmS_node, List.append_assoc, List.append_assoc, h2.2.2.1] at hc
    obtain ⟨rfl, rfl, rfl, e2⟩ := u1 h2.1 h2.2.1 hg.1 hg.2.1 hc
    have hd : seps.drop f.len = m :: seps.drop (f.len + 1) := by
      obtain ⟨h5, h6⟩ := List.getElem?_eq_some_iff.1 hj
      rw [List.drop_eq_getElem_cons h5, h6]
    rw [hd] at e2
    exact absurd (by simpa using e2) (h3 _)
end Go.Proofs.YtaiijnepeccllaaGreat

namespace Go.Proofs.YtaiijnepeccllaaGreat
set_option linter.unusedVariables false
open Go.RowKit Go.Maps

/-! ### the order of strings -/
theorem sLess_lt (a b : ByteArray) : sLess a b = decide (a.data.toList < b.data.toList) := by
  unfold sLess
  rw [Lib.toList_data, Lib.toList_data]
  generalize a.data.toList = x
  generalize b.data.toList = y
  induction x generalizing y with
  | nil => cases y with
    | nil => simp [Op.bytesLess]
    | cons b bs => simp [Op.bytesLess]
  | cons a ts ih =>
    cases y with
    | nil => simp [Op.bytesLess]
    | cons b bs =>
      rw [Op.bytesLess, ih bs]
      by_cases h1 : a < b
      · simp [h1, List.cons_lt_cons_iff]
      · by_cases h2 : a = b
        · subst h2; simp
        · simp [h1, h2, List.cons_lt_cons_iff]
theorem sLess_iff {a b : ByteArray} : sLess a b = true ↔ a.data.toList < b.data.toList := by rw [sLess_lt]; simp
theorem bytes_ext {a b : ByteArray} (h : a.data.toList = b.data.toList) : a = b := WideShapes.bytes_inj h
theorem sLess_irrefl (a : ByteArray) : sLess a a = false := by rw [sLess_lt]; simp
theorem sLess_trans {a b c : ByteArray} (h1 : sLess a b = true) (h2 : sLess b c = true) : sLess a c = true := by
  rw [sLess_iff] at *; exact List.lt_trans h1 h2
theorem sLess_total {a b : ByteArray} (h : sLess a b = false) (hne : a ≠ b) : sLess b a = true := by
  rw [sLess_lt, decide_eq_false_iff_not] at h
  rw [sLess_iff]
  have h2 : b.data.toList ≤ a.data.toList := h
  rcases List.le_iff_lt_or_eq.1 h2 with h3 | h3
  · exact h3
  · exact absurd (bytes_ext h3.symm) hne
theorem sLess_ne {a b : ByteArray} (h : sLess a b = true) : a ≠ b := by rintro rfl; rw [sLess_irrefl] at h; cases h
theorem sLess_asymm {a b : ByteArray} (h : sLess a b = true) : sLess b a = false := by
  cases h2 : sLess b a
  · rfl
  · have := sLess_trans h h2; rw [sLess_irrefl] at this; cases this
theorem leB_iff {a b : ByteArray} : leB a.data.toList b.data.toList = !sLess b a := by
  rw [sLess_lt]
  generalize a.data.toList = x
  generalize b.data.toList = y
  show decide (x ≤ y) = _
  by_cases h : y < x
  · rw [decide_eq_true h, decide_eq_false (fun hle : x ≤ y => hle h)]; rfl
  · rw [decide_eq_false h, decide_eq_true (show x ≤ y from h)]; rfl

/-! ### lists in order -/
/-- the paths ascend -/
def Asc (fs : List Fl) : Prop := fs.Pairwise fun a b => sLess a.1 b.1 = true
/-- no path stands twice -/
def Once (fs : List Fl) : Prop := fs.Pairwise fun a b => a.1 ≠ b.1
theorem Asc.once {fs : List Fl} (h : Asc fs) : Once fs := h.imp fun h => sLess_ne h
theorem Once.perm {fs gs : List Fl} (h : Once fs) (hp : fs.Perm gs) : Once gs := (hp.pairwise_iff (fun {_ _} hne => Ne.symm hne)).1 h
theorem Once.filter {fs : List Fl} (h : Once fs) (q : Fl → Bool) : Once (fs.filter q) := List.Pairwise.filter q h
theorem Asc.filter {fs : List Fl} (h : Asc fs) (q : Fl → Bool) : Asc (fs.filter q) := List.Pairwise.filter q h
theorem Once.inj {fs : List Fl} (h : Once fs) {f g : Fl} (hf : f ∈ fs) (hg : g ∈ fs) (he : f.1 = g.1) : f = g := by
  induction fs with
  | nil => cases hf
  | cons x fs ih =>
    obtain ⟨h1, h2⟩ := List.pairwise_cons.1 h
    rcases List.mem_cons.1 hf with e1 | m1 <;> rcases List.mem_cons.1 hg with e2 | m2
    · rw [e1, e2]
    · subst e1; exact absurd he (h1 _ m2)
    · subst e2; exact absurd he.symm (h1 _ m1)
    · exact ih h2 m1 m2
/-- two ascending lists that hold the same files are one -/
theorem Asc.eq {fs gs : List Fl} (h1 : Asc fs) (h2 : Asc gs) (hp : fs.Perm gs) : fs = gs :=
  List.Perm.eq_of_pairwise (le := fun a b : Fl => sLess a.1 b.1 = true) (fun a b _ _ h h' => by rw [sLess_asymm h] at h'; cases h') h1 h2 hp

/-- one put in, in whatever place -/
def putU (f : Fl) (fs : List Fl) : List Fl := f :: fs.filter fun g => decide (g.1 ≠ f.1)
/-- one struck out -/
def delU (p : ByteArray) (fs : List Fl) : List Fl := fs.filter fun g => decide (g.1 ≠ p)
theorem putU_once {f : Fl} {fs : List Fl} (h : Once fs) : Once (putU f fs) :=
  List.pairwise_cons.2 ⟨fun g hg => by have := (List.mem_filter.1 hg).2; simp at this; exact fun e => this e.symm, h.filter _⟩
theorem putU_perm {f : Fl} {fs gs : List Fl} (h : fs.Perm gs) : (putU f fs).Perm (putU f gs) := (h.filter _).cons _
theorem delU_perm {p : ByteArray} {fs gs : List Fl} (h : fs.Perm gs) : (delU p fs).Perm (delU p gs) := h.filter _
theorem putU_new {f : Fl} {fs : List Fl} (h : ∀ g ∈ fs, g.1 ≠ f.1) : (putU f fs).Perm (fs ++ [f]) := by
  unfold putU
  rw [List.filter_eq_self.2 fun g hg => by simpa using h g hg]
  exact (List.perm_append_singleton f fs).symm
theorem mem_putU {f g : Fl} {fs : List Fl} : g ∈ putU f fs ↔ g = f ∨ (g ∈ fs ∧ g.1 ≠ f.1) := by simp [putU]
theorem mem_delU {p : ByteArray} {g : Fl} {fs : List Fl} : g ∈ delU p fs ↔ g ∈ fs ∧ g.1 ≠ p := by simp [delU]

/-- the files in the order of their paths -/
def srtF (fs : List Fl) : List Fl := fs.mergeSort fun a b => leB a.1.data.toList b.1.data.toList
theorem leB_trans (a b c : List UInt8) (h1 : leB a b = true) (h2 : leB b c = true) : leB a c = true := by simp only [leB, decide_eq_true_eq] at *; exact List.le_trans h1 h2
theorem leB_total (a b : List UInt8) : (leB a b || leB b a) = true := by simp only [leB, Bool.or_eq_true, decide_eq_true_eq]; exact List.le_total a b
theorem srtF_perm (fs : List Fl) : (srtF fs).Perm fs := List.mergeSort_perm _ _
theorem srtF_pw (fs : List Fl) : (srtF fs).Pairwise fun a b => leB a.1.data.toList b.1.data.toList = true :=
  List.pairwise_mergeSort (le := fun a b : Fl => leB a.1.data.toList b.1.data.toList) (fun a b c => leB_trans a.1.data.toList b.1.data.toList c.1.data.toList) (fun a b => leB_total a.1.data.toList b.1.data.toList) fs
theorem srtF_asc {fs : List Fl} (h : Once fs) : Asc (srtF fs) := by
  have h1 : (srtF fs).Pairwise fun a b => leB a.1.data.toList b.1.data.toList = true := srtF_pw fs
  have h2 : Once (srtF fs) := h.perm (srtF_perm fs).symm
  refine (h1.and h2).imp ?_
  rintro a b ⟨hle, hne⟩
  rw [leB_iff] at hle
  exact sLess_total (by simpa using hle) (fun e => hne e.symm)
theorem srtF_eq {fs gs : List Fl} (h : Once fs) (hp : fs.Perm gs) (ha : Asc gs) : srtF fs = gs := (srtF_asc h).eq ha ((srtF_perm fs).trans hp)
theorem srtF_keys {fs : List Fl} {ss : List (List UInt8)} (hp : ss.Perm (fs.map fun f => f.1.data.toList)) : ss.mergeSort (fun x y => decide (x ≤ y)) = (srtF fs).map fun f => f.1.data.toList := by
  refine List.Perm.eq_of_pairwise (le := fun a b => leB a b = true) (fun a b _ _ h1 h2 => ?_) (List.pairwise_mergeSort leB_trans leB_total ss) ?_ (((List.mergeSort_perm ss _).trans hp).trans ((srtF_perm fs).symm.map _))
  · simp only [leB, decide_eq_true_eq] at h1 h2
    exact List.le_antisymm h1 h2
  · exact List.pairwise_map.2 (srtF_pw fs)

/-! ### a map as read -/
section
variable {H : Type}
def ent (f : Fl) : Lit × DataW H := (.string f.1.data.toList, .lit (.string f.2.data.toList))
/-- the map D holds just the files of gs -/
def Rep (D : DataW H) (gs : List Fl) : Prop := ∃ es, D = .map es ∧ es.Perm (gs.map ent) ∧ Once gs
theorem rep_empty : Rep (.map [] : DataW H) [] := ⟨[], rfl, .nil, List.Pairwise.nil⟩
theorem Rep.once {D : DataW H} {gs : List Fl} (h : Rep D gs) : Once gs := let ⟨_, _, _, h⟩ := h; h
theorem Rep.perm {D : DataW H} {gs hs : List Fl} (h : Rep D gs) (hp : gs.Perm hs) : Rep D hs := by
  obtain ⟨es, rfl, h1, h2⟩ := h
  exact ⟨es, rfl, h1.trans (hp.map _), h2.perm hp⟩
theorem insert_perm (x : Lit × DataW H) : ∀ l : List (Lit × DataW H), (DataW.insert x l).Perm (x :: l)
  | [] => .refl _
  | y :: r => by
    unfold DataW.insert
    split
    · exact .refl _
    · exact ((insert_perm x r).cons y).trans (.swap x y r)
theorem sameKey_str (a b : List UInt8) : (Lit.string a).sameKey (.string b) = decide (a = b) := by
  by_cases h : a = b <;> simp [Lit.sameKey, h]
theorem ent_filter (p : ByteArray) (gs : List Fl) : ((gs.map ent : List (Lit × DataW H)).filter fun e => !e.1.sameKey (.string p.data.toList)) = (delU p gs).map ent := by
  unfold delU
  rw [List.filter_map]
  congr 1
  refine List.filter_congr fun g _ => ?_
  show (!(Lit.string g.1.data.toList).sameKey _) = _
  rw [sameKey_str]
  by_cases h : g.1 = p
  · simp [h]
  · have : ¬ g.1.data.toList = p.data.toList := fun e => h (bytes_ext e)
    simp only [this, h, decide_false, Bool.not_false, ne_eq, not_false_eq_true, decide_true]
theorem Rep.put {D : DataW H} {gs : List Fl} (h : Rep D gs) (f : Fl) : Rep (D.put (.string f.1.data.toList) (.lit (.string f.2.data.toList))) (putU f gs) := by
  obtain ⟨es, rfl, h1, h2⟩ := h
  refine ⟨_, rfl, (insert_perm _ _).trans ?_, putU_once h2⟩
  have h3 := h1.filter fun e => !e.1.sameKey (.string f.1.data.toList)
  rw [ent_filter] at h3
  exact h3.cons _
theorem Rep.del {D : DataW H} {gs : List Fl} (h : Rep D gs) (p : ByteArray) : Rep (D.del (.string p.data.toList)) (delU p gs) := by
  obtain ⟨es, rfl, h1, h2⟩ := h
  refine ⟨_, rfl, ?_, h2.filter _⟩
  have h3 := h1.filter fun e => !e.1.sameKey (.string p.data.toList)
  rwa [ent_filter] at h3
theorem Rep.keys {D : DataW H} {gs : List Fl} (h : Rep D gs) : (strKeys D).Perm (gs.map fun f => f.1.data.toList) := by
  obtain ⟨es, rfl, h1, _⟩ := h
  have := h1.map fun p : Lit × DataW H => strOf p.1
  rw [List.map_map] at this
  exact this
theorem Rep.size {D : DataW H} {gs : List Fl} (h : Rep D gs) : Maps.size D = gs.length := by
  obtain ⟨es, rfl, h1, _⟩ := h
  rw [size_eq, h1.length_eq, List.length_map]
theorem Rep.has {D : DataW H} {gs : List Fl} (h : Rep D gs) (p : ByteArray) : Maps.has D (.string p.data.toList) = gs.any fun g => decide (g.1 = p) := by
  obtain ⟨es, rfl, h1, _⟩ := h
  rw [has_eq, h1.any_eq, List.any_map]
  congr 1
  funext g
  show (Lit.string g.1.data.toList).sameKey (.string p.data.toList) = decide (g.1 = p)
  rw [sameKey_str]
  by_cases hg : g.1 = p
  · simp [hg]
  · have : ¬ g.1.data.toList = p.data.toList := fun e => hg (bytes_ext e)
    simp [hg, this]
theorem Rep.at_ {D : DataW H} {gs : List Fl} (h : Rep D gs) {p t : ByteArray} (hm : (p, t) ∈ gs) (z : DataW H) : D.atKey (.string p.data.toList) z = .lit (.string t.data.toList) := by
  obtain ⟨es, rfl, h1, h2⟩ := h
  show (match es.find? (fun e => e.1.sameKey (.string p.data.toList)) with | some e => e.2 | none => z) = _
  cases hf : es.find? (fun e => e.1.sameKey (.string p.data.toList)) with
  | none =>
    rw [List.find?_eq_none] at hf
    have := hf (ent (p, t)) (h1.mem_iff.2 (List.mem_map.2 ⟨_, hm, rfl⟩))
    simp [ent, sameKey_str] at this
  | some e =>
    have hk := List.find?_some hf
    obtain ⟨g, hg, rfl⟩ := List.mem_map.1 (h1.mem_iff.1 (List.mem_of_find?_eq_some hf))
    simp [ent, sameKey_str] at hk
    obtain rfl : g = (p, t) := h2.inj hg hm (bytes_ext (by simpa using hk))
    rfl
end

/-! ### what valid lists are -/
theorem okTo_iff {fs : List Fl} {n : Nat} : okTo fs n = true ↔ ∀ k, k < n → okAt fs k = true := by
  unfold okTo
  rw [List.all_eq_true]
  exact ⟨fun h k hk => h k (by simpa using hk), fun h k hk => h k (by simpa using hk)⟩
theorem asc_of_next {fs : List Fl} (h : ∀ k p t q r, fs[k + 1]? = some (p, t) → fs[k]? = some (q, r) → sLess q p = true) : Asc fs := by
  induction fs with
  | nil => exact List.Pairwise.nil
  | cons x fs ih =>
    have hi := ih fun k p t q r h1 h2 => h (k + 1) p t q r (by simpa using h1) (by simpa using h2)
    refine List.pairwise_cons.2 ⟨fun y hy => ?_, hi⟩
    cases fs with
    | nil => cases hy
    | cons z fs =>
      have hz : sLess x.1 z.1 = true := h 0 z.1 z.2 x.1 x.2 rfl rfl
      rcases List.mem_cons.1 hy with rfl | hy
      · exact hz
      · exact sLess_trans hz ((List.pairwise_cons.1 hi).1 y hy)
theorem validB_iff {fs : List Fl} : validB fs = true ↔ fs.length ≤ 12 ∧ (∀ f ∈ fs, pathB f.1 = true ∧ textB f.2 = true) ∧ Asc fs := by
  unfold validB
  rw [Bool.and_eq_true, decide_eq_true_eq, okTo_iff]
  refine and_congr_right fun _ => ⟨fun h => ⟨fun f hf => ?_, asc_of_next fun k p t q r h1 h2 => ?_⟩, fun ⟨h1, h2⟩ k hk => ?_⟩
  · obtain ⟨k, hk⟩ := List.getElem?_of_mem hf
    have := h k (List.getElem?_eq_some_iff.1 hk).1
    unfold okAt at this
    rw [hk] at this
    simp only [Bool.and_eq_true] at this
    exact this.1
  · have := h (k + 1) (List.getElem?_eq_some_iff.1 h1).1
    unfold okAt at this
    rw [h1] at this
    simp only [h2, Bool.and_eq_true] at this
    exact this.2
  · have hg : fs[k]? = some (fs[k].1, fs[k].2) := List.getElem?_eq_getElem hk
    have hv := h1 fs[k] (List.getElem_mem _)
    cases k with
    | zero => exact okAt_zero hg hv.1 hv.2
    | succ k =>
      have hq : fs[k]? = some (fs[k].1, fs[k].2) := List.getElem?_eq_getElem (by omega)
      rw [okAt_succ hg hq hv.1 hv.2]
      exact (List.pairwise_iff_getElem.1 h2) k (k + 1) (by omega) hk (by omega)
theorem valid_asc {fs : List Fl} (h : validB fs = true) : Asc fs := (validB_iff.1 h).2.2

theorem findF_mem {fs : List Fl} (h : Once fs) {p t : ByteArray} (hm : (p, t) ∈ fs) : findF fs p = (t, true) := by
  induction fs with
  | nil => cases hm
  | cons x fs ih =>
    obtain ⟨h1, h2⟩ := List.pairwise_cons.1 h
    rw [findF]
    rcases List.mem_cons.1 hm with rfl | hm
    · simp
    · rw [if_neg (h1 _ hm)]
      exact ih h2 hm
theorem findF_not {fs : List Fl} {p : ByteArray} (h : ∀ g ∈ fs, g.1 ≠ p) : findF fs p = (.empty, false) :=
  findF_none fun j q t hj => h _ (List.mem_of_getElem? hj)
theorem findF_cases (fs : List Fl) (p : ByteArray) : ((∃ t, (p, t) ∈ fs ∧ findF fs p = (t, true)) ∨ ((∀ g ∈ fs, g.1 ≠ p) ∧ findF fs p = (.empty, false))) := by
  induction fs with
  | nil => exact .inr ⟨by simp, rfl⟩
  | cons x fs ih =>
    rw [findF]
    by_cases h : x.1 = p
    · rw [if_pos h]; exact .inl ⟨x.2, by rw [← h]; simp, rfl⟩
    · rw [if_neg h]
      rcases ih with ⟨t, hm, hf⟩ | ⟨hn, hf⟩
      · exact .inl ⟨t, List.mem_cons_of_mem _ hm, hf⟩
      · refine .inr ⟨fun g hg => ?_, hf⟩
        rcases List.mem_cons.1 hg with e | hg
        · rw [e]; exact h
        · exact hn g hg
end Go.Proofs.YtaiijnepeccllaaGreat

namespace Go.Proofs.YtaiijnepeccllaaGreat
set_option linter.unusedVariables false
open Go.RowKit

theorem split_unique {a : UInt8} : ∀ {x x' y y' : List UInt8}, x ++ a :: y = x' ++ a :: y' → a ∉ x → a ∉ x' → x = x' ∧ y = y'
  | [], [], y, y', h, _, _ => ⟨rfl, by simpa using h⟩
  | [], b :: x', y, y', h, _, h2 => by
    simp at h
    exact absurd (by simp [h.1]) h2
  | b :: x, [], y, y', h, h1, _ => by
    simp at h
    exact absurd (by simp [← h.1]) h1
  | b :: x, b' :: x', y, y', h, h1, h2 => by
    simp at h h1 h2
    obtain ⟨rfl, h⟩ := h
    obtain ⟨rfl, rfl⟩ := split_unique h h1.2 h2.2
    exact ⟨rfl, rfl⟩

/-- no blank in the path, no newline anywhere -/
def Clean (f : Fl) : Prop := (32 : UInt8) ∉ f.1.data.toList ∧ (10 : UInt8) ∉ f.1.data.toList ∧ (10 : UInt8) ∉ f.2.data.toList
def lineF (f : Fl) : List UInt8 := f.1.data.toList ++ 32 :: f.2.data.toList
theorem fmtF_cons (f : Fl) (fs : List Fl) : fmtF (f :: fs) = lineF f ++ 10 :: fmtF fs := by simp [fmtF, lineF]
theorem fmtF_nil : fmtF [] = [] := rfl
theorem fmtF_append (a b : List Fl) : fmtF (a ++ b) = fmtF a ++ fmtF b := by simp [fmtF]
theorem lineF_clean {f : Fl} (h : Clean f) : (10 : UInt8) ∉ lineF f := by
  unfold lineF; simp [h.2.1, h.2.2]
theorem lineF_inj {f g : Fl} (hf : Clean f) (hg : Clean g) (h : lineF f = lineF g) : f = g := by
  obtain ⟨h1, h2⟩ := split_unique h hf.1 hg.1
  exact Prod.ext (bytes_ext h1) (bytes_ext h2)
theorem path_clean {p : ByteArray} (h : pathB p = true) : (32 : UInt8) ∉ p.data.toList ∧ (10 : UInt8) ∉ p.data.toList := by
  have h3 := (btw_iff _ _ _).1 ((pathB_iff p).1 h).2.2
  exact ⟨fun hm => by have := h3 _ hm; revert this; decide, fun hm => by have := h3 _ hm; revert this; decide⟩
theorem text_clean {t : ByteArray} (h : textB t = true) : (10 : UInt8) ∉ t.data.toList := by
  have h3 := (btw_iff _ _ _).1 ((textB_iff t).1 h).2
  exact fun hm => by have := h3 _ hm; revert this; decide
theorem valid_clean {fs : List Fl} (h : validB fs = true) : ∀ f ∈ fs, Clean f := fun f hf => by
  have := (validB_iff.1 h).2.1 f hf
  exact ⟨(path_clean this.1).1, (path_clean this.1).2, text_clean this.2⟩

/-- a list whose text begins as another's -/
theorem fmt_prefix : ∀ {l fs : List Fl} {r : List UInt8}, (∀ f ∈ l, Clean f) → (∀ f ∈ fs, Clean f) → fmtF fs = fmtF l ++ r → ∃ gs, fs = l ++ gs ∧ r = fmtF gs
  | [], fs, r, _, _, h => ⟨fs, rfl, by rw [h]; rfl⟩
  | g :: l, [], r, _, _, h => by
    rw [fmtF_cons] at h
    have := congrArg List.length h
    simp [fmtF_nil] at this
  | g :: l, f :: fs, r, hl, hf, h => by
    rw [fmtF_cons, fmtF_cons, List.append_assoc, List.cons_append] at h
    obtain ⟨h1, h2⟩ := split_unique h (lineF_clean (hf f (by simp))) (lineF_clean (hl g (by simp)))
    obtain rfl := lineF_inj (hf f (by simp)) (hl g (by simp)) h1
    obtain ⟨gs, rfl, rfl⟩ := fmt_prefix (fun x hx => hl x (by simp [hx])) (fun x hx => hf x (by simp [hx])) h2
    exact ⟨gs, rfl, rfl⟩
theorem fmtF_eq_nil {fs : List Fl} (h : fmtF fs = []) : fs = [] := by
  cases fs with
  | nil => rfl
  | cons f fs => rw [fmtF_cons] at h; simp at h
theorem fmt_inj {fs gs : List Fl} (hf : ∀ f ∈ fs, Clean f) (hg : ∀ f ∈ gs, Clean f) (h : fmtF fs = fmtF gs) : fs = gs := by
  obtain ⟨ks, rfl, hk⟩ := fmt_prefix (r := []) hg hf (by simpa using h)
  rw [fmtF_eq_nil hk.symm, List.append_nil]

open Classical in
/-- what parsing answers -/
noncomputable def parseR (s : List UInt8) : List Fl × Bool := if h : ∃ fs, validB fs = true ∧ fmtF fs = s then (h.choose, true) else ([], false)
theorem parseR_fine {s : List UInt8} {fs : List Fl} (h1 : validB fs = true) (h2 : fmtF fs = s) : parseR s = (fs, true) := by
  unfold parseR
  have h : ∃ fs, validB fs = true ∧ fmtF fs = s := ⟨fs, h1, h2⟩
  rw [dif_pos h]
  have hc := h.choose_spec
  rw [fmt_inj (valid_clean hc.1) (valid_clean h1) (hc.2.trans h2.symm)]
theorem parseR_bad {s : List UInt8} (h : ∀ fs, validB fs = true → fmtF fs = s → False) : parseR s = ([], false) := by
  unfold parseR
  rw [dif_neg (fun ⟨fs, h1, h2⟩ => h fs h1 h2)]
theorem parseR_true {s : List UInt8} {xs : List Fl} (h : parseR s = (xs, true)) : validB xs = true ∧ fmtF xs = s := by
  unfold parseR at h
  split at h
  · rename_i hx; cases h; exact hx.choose_spec
  · cases h
theorem parseR_nil {s : List UInt8} {xs : List Fl} (h : parseR s = (xs, false)) : xs = [] := by
  unfold parseR at h
  split at h
  · cases h
  · cases h; rfl

/-! ### the ways of the program's loop -/
theorem way_miss {s r : List UInt8} {l : List Fl} (hl : ∀ f ∈ l, Clean f) (hs : fmtF l ++ r = s) (hr : r ≠ []) (hn : (10 : UInt8) ∉ r) : parseR s = ([], false) :=
  parseR_bad fun fs h1 h2 => by
    obtain ⟨gs, rfl, rfl⟩ := fmt_prefix hl (valid_clean h1) (h2.trans hs.symm)
    cases gs with
    | nil => exact hr rfl
    | cons g gs => exact hn (by rw [fmtF_cons]; simp)
theorem way_blank {s x y : List UInt8} {l : List Fl} (hl : ∀ f ∈ l, Clean f) (hs : fmtF l ++ (x ++ 10 :: y) = s) (hx : (10 : UInt8) ∉ x) (hn : (32 : UInt8) ∉ x) : parseR s = ([], false) :=
  parseR_bad fun fs h1 h2 => by
    obtain ⟨gs, rfl, hr⟩ := fmt_prefix hl (valid_clean h1) (h2.trans hs.symm)
    cases gs with
    | nil => simp [fmtF_nil] at hr
    | cons g gs =>
      rw [fmtF_cons] at hr
      obtain ⟨rfl, _⟩ := split_unique hr hx (lineF_clean (valid_clean h1 g (by simp)))
      exact hn (by unfold lineF; simp)
theorem way_long {s r : List UInt8} {l : List Fl} (hl : ∀ f ∈ l, Clean f) (hs : fmtF l ++ r = s) (hr : r ≠ []) (hn : l.length = 12) : parseR s = ([], false) :=
  parseR_bad fun fs h1 h2 => by
    obtain ⟨gs, rfl, rfl⟩ := fmt_prefix hl (valid_clean h1) (h2.trans hs.symm)
    have := valid_length h1
    rw [List.length_append, hn] at this
    cases gs with
    | nil => exact hr rfl
    | cons g gs => simp only [List.length_cons] at this; omega
theorem way_end {s : List UInt8} {l : List Fl} (hl : ∀ f ∈ l, Clean f) (hs : fmtF l = s) (hv : validB l = false) : parseR s = ([], false) :=
  parseR_bad fun fs h1 h2 => by
    rw [fmt_inj (valid_clean h1) hl (h2.trans hs.symm), hv] at h1
    cases h1
theorem way_on {s x y z : List UInt8} {l : List Fl} (hl : ∀ f ∈ l, Clean f) (hs : fmtF l ++ ((x ++ 32 :: z) ++ 10 :: y) = s) (hx : (10 : UInt8) ∉ x ++ 32 :: z) (hn : (32 : UInt8) ∉ x) :
    (∀ f ∈ l ++ [((⟨x.toArray⟩, ⟨z.toArray⟩) : Fl)], Clean f) ∧ fmtF (l ++ [((⟨x.toArray⟩, ⟨z.toArray⟩) : Fl)]) ++ y = s := by
  refine ⟨fun f hf => ?_, ?_⟩
  · rcases List.mem_append.1 hf with hf | hf
    · exact hl f hf
    · obtain rfl : f = (⟨x.toArray⟩, ⟨z.toArray⟩) := by simpa using hf
      simp at hx
      exact ⟨by simpa using hn, by simpa using hx.1, by simpa using hx.2⟩
  · rw [fmtF_append, fmtF_cons, fmtF_nil, ← hs]
    simp [lineF]

/-! ### the model's way: lines, each parted at its first blank -/
/-- newline behind each -/
def flat (ls : List (List UInt8)) : List UInt8 := ls.flatMap fun l => l ++ [10]
theorem flat_append (a b : List (List UInt8)) : flat (a ++ b) = flat a ++ flat b := by simp [flat]
theorem flat_cons (l : List UInt8) (ls : List (List UInt8)) : flat (l :: ls) = l ++ 10 :: flat ls := by simp [flat]
theorem fmtF_flat (fs : List Fl) : fmtF fs = flat (fs.map lineF) := by
  induction fs with
  | nil => rfl
  | cons f fs ih => rw [fmtF_cons, List.map_cons, flat_cons, ih]
theorem flat_unique : ∀ {ls ks : List (List UInt8)} {z : List UInt8}, (∀ l ∈ ls, (10 : UInt8) ∉ l) → (∀ l ∈ ks, (10 : UInt8) ∉ l) → (10 : UInt8) ∉ z → flat ls ++ z = flat ks → ls = ks ∧ z = []
  | [], [], z, _, _, _, h => ⟨rfl, by simpa [flat] using h⟩
  | [], k :: ks, z, _, _, hz, h => by
    rw [flat_cons] at h
    have : (10 : UInt8) ∈ z := by
      have h' : z = k ++ 10 :: flat ks := by simpa [flat] using h
      rw [h']; simp
    exact absurd this hz
  | l :: ls, [], z, _, _, _, h => by
    rw [flat_cons] at h
    simp [flat] at h
  | l :: ls, k :: ks, z, h1, h2, hz, h => by
    rw [flat_cons, flat_cons, List.append_assoc, List.cons_append] at h
    obtain ⟨rfl, h5⟩ := split_unique h (h1 l (by simp)) (h2 k (by simp))
    obtain ⟨e1, e2⟩ := flat_unique (ls := ls) (ks := ks) (fun x hx => h1 x (by simp [hx])) (fun x hx => h2 x (by simp [hx])) hz h5
    exact ⟨by rw [e1], e2⟩
/-- a line parted at its first blank -/
def partB (l : List UInt8) : List UInt8 × List UInt8 := if (32 : UInt8) ∈ l then (l.takeWhile (· != 32), (l.dropWhile (· != 32)).drop 1) else (l, [])
theorem partB_hit {x y : List UInt8} (h : (32 : UInt8) ∉ x) : partB (x ++ 32 :: y) = (x, y) := by
  unfold partB
  rw [if_pos (by simp)]
  have h1 : ∀ b ∈ x, (b != 32) = true := fun b hb => by simp; rintro rfl; exact h hb
  rw [List.takeWhile_append_of_pos h1, List.dropWhile_append_of_pos h1]
  simp
theorem partB_miss {x : List UInt8} (h : (32 : UInt8) ∉ x) : partB x = (x, []) := by unfold partB; rw [if_neg h]
def fileOf (l : List UInt8) : Fl := (⟨(partB l).1.toArray⟩, ⟨(partB l).2.toArray⟩)
theorem fileOf_line {f : Fl} (h : Clean f) : fileOf (lineF f) = f := by
  unfold fileOf lineF
  rw [partB_hit h.1]
/-- what the lines of a text tell of it -/
theorem lines_of {s z : List UInt8} {ls : List (List UInt8)} (h : flat ls ++ z = s) (hl : ∀ l ∈ ls, (10 : UInt8) ∉ l) (hz : (10 : UInt8) ∉ z) {fs : List Fl} (h1 : validB fs = true) (h2 : fmtF fs = s) : ls = fs.map lineF ∧ ls.map fileOf = fs ∧ ls.length = fs.length := by
  rw [fmtF_flat] at h2
  obtain ⟨rfl, _⟩ := flat_unique hl (fun l hl => by obtain ⟨f, hf, rfl⟩ := List.mem_map.1 hl; exact lineF_clean (valid_clean h1 f hf)) hz (h.trans h2.symm)
  refine ⟨rfl, ?_, by simp⟩
  rw [List.map_map]
  exact (List.map_congr_left fun f hf => fileOf_line (valid_clean h1 f hf)).trans (List.map_id fs)
theorem spec_long {s z : List UInt8} {ls : List (List UInt8)} (h : flat ls ++ z = s) (hl : ∀ l ∈ ls, (10 : UInt8) ∉ l) (hz : (10 : UInt8) ∉ z) (hn : 12 < ls.length) : parseR s = ([], false) :=
  parseR_bad fun fs h1 h2 => by have := (lines_of h hl hz h1 h2).2.2; have := valid_length h1; omega
theorem spec_bad {s z : List UInt8} {ls : List (List UInt8)} (h : flat ls ++ z = s) (hl : ∀ l ∈ ls, (10 : UInt8) ∉ l) (hz : (10 : UInt8) ∉ z) (hn : ¬ ((fmtS (ls.map fileOf)).data.toList = s ∧ validB (ls.map fileOf) = true)) : parseR s = ([], false) :=
  parseR_bad fun fs h1 h2 => by
    have := (lines_of h hl hz h1 h2).2.1
    rw [this] at hn
    exact hn ⟨by unfold fmtS; rw [if_pos h1]; simpa using h2, h1⟩
theorem spec_fine {s : List UInt8} {gs : List Fl} (h : (fmtS gs).data.toList = s) (hv : validB gs = true) : parseR s = (gs, true) :=
  parseR_fine hv (by unfold fmtS at h; rw [if_pos hv] at h; simpa using h)
end Go.Proofs.YtaiijnepeccllaaGreat

namespace Go.Proofs.YtaiijnepeccllaaGreat
set_option linter.unusedVariables false
set_option linter.unusedSimpArgs false
open Go.RowKit

section
variable {w w' : World}
theorem grown_drewN {row : Option Nat} (h : w.grownBy w' row) (n : Nat) : w.grownBy (w'.drewN n) row := ⟨h.os, h.tape, h.output, h.size, h.block⟩
theorem grown_alloc {row : Option Nat} (h : w.grownBy w' row) (o : Obj) : w.grownBy (w'.alloc o) row :=
  ⟨h.os, h.tape, h.output, Nat.le_trans h.size (by simp), fun i hi hne => (Below.heap_alloc w' o i (Nat.lt_of_lt_of_le hi h.size)).trans (h.block i hi hne)⟩
theorem grown_set {g : Nat} (h : w.grownBy w' (some g)) {p : Addr} (hp : p.block = g ∨ w.heap.size ≤ p.block) (u : Value) : w.grownBy (w'.setCell p u) (some g) :=
  ⟨h.os, h.tape, h.output, by simpa [World.setCell] using h.size, fun i hi hne => (Below.heap_setCell w' p u i (by
    rintro rfl
    rcases hp with hp | hp
    · exact hne (by rw [hp])
    · omega)).trans (h.block i hi hne)⟩
end
namespace Fo
/-- one more node behind the others -/
def snoc : Fo → Int → ByteArray → Fo → Fo
  | .nil, k, s, ks => .node k s ks .nil
  | .node k' s' ks' r, k, s, ks => .node k' s' ks' (r.snoc k s ks)
theorem snoc_len : ∀ (f : Fo) (k : Int) (s : ByteArray) (ks : Fo), (f.snoc k s ks).len = f.len + 1
  | .nil, _, _, _ => rfl
  | .node _ _ _ r, k, s, ks => by simp only [snoc, len, snoc_len r]
theorem snoc_size : ∀ (f : Fo) (k : Int) (s : ByteArray) (ks : Fo), (f.snoc k s ks).size = f.size + ks.size + 1
  | .nil, _, _, _ => by simp [snoc, size]
  | .node _ _ _ r, k, s, ks => by simp only [snoc, size, snoc_size r]; omega
theorem snoc_fits : ∀ {f : Fo} {k : Int} {s : ByteArray} {ks : Fo}, f.Fits → s.size ≤ maxLen → ks.len ≤ maxLen → ks.Fits → (f.snoc k s ks).Fits
  | .nil, _, _, _, _, h1, h2, h3 => ⟨h1, h2, h3, trivial⟩
  | .node _ _ _ r, _, _, _, h, h1, h2, h3 => ⟨h.1, h.2.1, h.2.2.1, snoc_fits (f := r) h.2.2.2 h1 h2 h3⟩
theorem snoc_drop : ∀ {f : Fo} {j : Nat} {k : Int} {s : ByteArray} {ks : Fo}, f.get j = some (k, s, ks) → ∀ g : Fo, (∀ i, i < j → g.get i = f.get i) → g.len = j → ∀ i, i < j + 1 → (g.snoc k s ks).get i = f.get i := by
  have key : ∀ (g : Fo) (k : Int) (s : ByteArray) (ks : Fo), (∀ i, i < g.len → (g.snoc k s ks).get i = g.get i) ∧ (g.snoc k s ks).get g.len = some (k, s, ks) := by
    intro g
    induction g with
    | nil => exact fun k s ks => ⟨fun i h => absurd h (by simp [len]), rfl⟩
    | node k' s' ks' r _ ih =>
      refine fun k s ks => ⟨fun i h => ?_, (ih k s ks).2⟩
      cases i with
      | zero => rfl
      | succ i => exact (ih k s ks).1 i (by simp only [len] at h; omega)
  intro f j k s ks hg g h1 h2 i hi
  subst h2
  by_cases e : i = g.len
  · subst e
    rw [(key g k s ks).2, hg]
  · rw [(key g k s ks).1 i (by omega)]
    exact h1 i (by omega)
end Fo

/-- the cells of a row of nodes; og: the block of the row -/
def RowT (w : World) (L B : Nat) (og : Option Nat) : Fo → List Value → Prop
  | .nil, xs => xs = []
  | .node k s ks r, xs => (∃ a n c ys, xs = .int .i64 k :: .string s :: .slice a n c :: ys ∧ n ≤ c ∧ (∃ L1 B1, KA w L1 B1 ks a n ∧ L ≤ L1 ∧ B1 ≤ B ∧ ∀ g, og = some g → g < L1 ∨ B1 ≤ g) ∧ RowT w L B og r ys)
section
variable {w w' : World} {L L' B B' b off : Nat} {og og' : Option Nat} {k : Int} {s : ByteArray} {ks : Fo}
theorem rowT_len : ∀ {f : Fo} {xs : List Value}, RowT w L B og f xs → xs.length = f.len * 3
  | .nil, _, h => by simp only [RowT] at h; subst h; rfl
  | .node k s ks r, _, ⟨a, n, c, ys, e, _, _, h⟩ => by subst e; have := rowT_len h; simp only [List.length_cons, Fo.len, this]; omega
theorem rowT_keep (hL : L' ≤ L) (hB : B ≤ B') (ho : ∀ g, og' = some g → og = some g ∨ g < L ∨ B ≤ g) (hk : ∀ p : Addr, L ≤ p.block → p.block < B → og ≠ some p.block → w'.cell? p = w.cell? p) : ∀ {f : Fo} {xs : List Value}, RowT w L B og f xs → RowT w' L' B' og' f xs
  | .nil, _, h => h
  | .node k s ks r, _, ⟨a, n, c, ys, e, hc, ⟨L1, B1, h1, h2, h3, h4⟩, h⟩ =>
    ⟨a, n, c, ys, e, hc, ⟨L1, B1, h1.keep (Nat.le_refl _) (Nat.le_refl _) fun p h5 h6 => hk p (by omega) (by omega) (fun e => by have := h4 _ e; omega), by omega, by omega, fun g hg => by
      rcases ho g hg with h | h | h
      · exact h4 g h
      · exact .inl (by omega)
      · exact .inr (by omega)⟩, rowT_keep hL hB ho hk h⟩
theorem rowT_snoc {a : Option Addr} {n c L1 B1 : Nat} (hc : n ≤ c) (h1 : KA w L1 B1 ks a n) (h2 : L ≤ L1) (h3 : B1 ≤ B) (h4 : ∀ g, og = some g → g < L1 ∨ B1 ≤ g) :
    ∀ {f : Fo} {xs : List Value}, RowT w L B og f xs → RowT w L B og (f.snoc k s ks) (xs ++ [.int .i64 k, .string s, .slice a n c])
  | .nil, _, h => by simp only [RowT] at h; subst h; exact ⟨a, n, c, [], rfl, hc, ⟨L1, B1, h1, h2, h3, h4⟩, rfl⟩
  | .node k s ks r, _, ⟨a', n', c', ys, e, hc', h5, h⟩ => by subst e; exact ⟨a', n', c', _, rfl, hc', h5, rowT_snoc hc h1 h2 h3 h4 h⟩
theorem rowT_seg : ∀ {f : Fo} {xs : List Value} {off : Nat}, RowT w L B og f xs → (∀ j u, xs[j]? = some u → w.cell? ⟨b, off + j, none⟩ = some u) → Seg w L B f b off
  | .nil, _, _, _, _ => trivial
  | .node k s ks r, _, off, ⟨a, n, c, ys, e, hc, ⟨L1, B1, h1, h2, h3, h4⟩, h⟩, hcell => by
    subst e
    refine seg_node.2 ⟨⟨hcell 0 _ rfl, hcell 1 _ rfl, a, n, c, hcell 2 _ rfl, hc, h1.more h2 h3⟩, rowT_seg h fun j u hu => ?_⟩
    have := hcell (j + 3) u (by simpa using hu)
    rwa [show off + 3 + j = off + (j + 3) from by omega]
end

/-- a list of expressions of one's own -/
def OwnT (w : World) (base : Nat) (v : Value) (f : Fo) : Prop := ∃ xs, w.ownsRow base 73 3 v f.len xs ∧ RowT w base w.heap.size v.ownBlock f xs
theorem exprs_under : Tryz.prog.underlying 71 = some (.slice 73) := by kernel_rfl
theorem expr_info3 : (Tryz.prog.info? 73).map (fun i => (i.zero, i.size, i.bytes)) = some (some (.agg #[.int .i64 0, .string .empty, .slice none 0 0]), 3, 48) := by kernel_rfl
section
variable {w w' : World} {base base' : Nat} {v v' : Value} {f : Fo} {r : Option Nat}
theorem OwnT.nil (w : World) (base : Nat) : OwnT w base (.slice none 0 0) .nil := ⟨[], World.ownsRow_nil _ _ _ _, rfl⟩
theorem OwnT.lt (h : OwnT w base v f) : ∀ g, v.ownBlock = some g → base ≤ g ∧ g < w.heap.size := by
  obtain ⟨xs, h1, _⟩ := h
  exact World.ownsRow.lt h1
theorem OwnT.grown (h : OwnT w base v f) (hg : w.grownBy w' r) (hr : ∀ g, r = some g → g < base ∨ w.heap.size ≤ g) : OwnT w' base v f := by
  obtain ⟨xs, h1, h2⟩ := h
  refine ⟨xs, World.ownsRow.kept h1 hg ?_, rowT_keep (Nat.le_refl _) hg.size (fun g hg => .inl hg) (fun p h3 h4 _ => World.cell?_of_block (hg.block p.block h4 (fun e => by have := hr _ e.symm; omega))) h2⟩
  cases hv : v.ownBlock with
  | none => exact .inl rfl
  | some g => exact .inr fun e => by have := World.ownsRow.lt h1 g hv; have := hr g e.symm; omega
theorem OwnT.alloc (h : OwnT w base v f) (o : Obj) : OwnT (w.alloc o) base v f := h.grown (World.grownBy_alloc w o none) fun g e => by cases e
theorem OwnT.below (h : OwnT w base v f) (hb : Below w.heap.size w w') : OwnT w' base v f := h.grown (r := none) ⟨hb.os, hb.tape, hb.output, hb.size, fun i hi _ => hb.block i hi⟩ fun g e => by cases e
theorem OwnT.setCell (h : OwnT w base v f) {g : Nat} (hg : g < base) (i : Nat) (u : Value) : OwnT (w.setCell ⟨g, i, none⟩ u) base v f :=
  h.grown (r := some g) (grown_set (World.grownBy.refl w _) (.inl rfl) u) fun j e => by injection e with e; omega
theorem OwnT.drewN (h : OwnT w base v f) (m : Nat) : OwnT (w.drewN m) base v f := h.grown (grown_drewN (World.grownBy.refl w none) m) fun j e => by cases e
theorem OwnT.mono (h : OwnT w base v f) (hb : base' ≤ base) : OwnT w base' v f := by
  obtain ⟨xs, h1, h2⟩ := h
  exact ⟨xs, World.ownsRow.mono h1 hb, rowT_keep hb (Nat.le_refl _) (fun g hg => .inl hg) (fun _ _ _ _ => rfl) h2⟩
/-- as a slice that can be read -/
theorem OwnT.form (h : OwnT w base v f) : ∃ a c, v = .slice a f.len c ∧ f.len ≤ c ∧ c ≤ maxLen ∧ KA w base w.heap.size f a f.len := by
  obtain ⟨xs, h1, h2⟩ := h
  rcases h1.2 with ⟨rfl, h0⟩ | ⟨g, cap, cur, rfl, hb, hg, hc, hm, _⟩
  · exact ⟨none, 0, by rw [h0], by omega, by simp [maxLen], rfl, fun h => absurd h (by omega)⟩
  · refine ⟨_, cap, rfl, hc, hm, rfl, fun _ => ⟨g, 0, rfl, hb, blk_lt hg, rowT_seg h2 fun j u hu => ?_⟩⟩
    have := World.ownsRow.cells h1 (g := g) rfl j u hu
    rwa [add_none] at this
/-- one more node -/
theorem OwnT.snoc {k : Int} {s : ByteArray} {ks : Fo} {a : Option Addr} {n c L1 B1 : Nat} {xs : List Value} (h2 : RowT w base w.heap.size v.ownBlock f xs) (hown : w'.ownsRow base 73 3 v' (f.len + 1) (xs ++ [.int .i64 k, .string s, .slice a n c]))
    (hg : w.grownBy w' v.ownBlock) (ho : v'.ownBlock = v.ownBlock ∨ ∀ g, v'.ownBlock = some g → w.heap.size ≤ g) (hc : n ≤ c) (hk : KA w L1 B1 ks a n) (hL : base ≤ L1) (hB : B1 ≤ w.heap.size) (hown1 : ∀ g, v.ownBlock = some g → g < L1 ∨ B1 ≤ g) : OwnT w' base v' (f.snoc k s ks) := by
  refine ⟨_, by rw [Fo.snoc_len]; exact hown, ?_⟩
  have h3 := rowT_snoc (k := k) (s := s) hc hk hL hB hown1 h2
  refine rowT_keep (Nat.le_refl _) hg.size (fun g e => ?_) (fun p h4 h5 h6 => World.cell?_of_block (hg.block p.block h5 (fun e => h6 e.symm))) h3
  rcases ho with ho | ho
  · exact .inl (ho ▸ e)
  · exact .inr (.inr (ho g e))
end
theorem wpList_append_node {w : World} {ops : Array Oper} {rest : List Oper} {o : Oper} {a : Act} {Q : Exit → Act → World → Prop} (hgd : o.guard = none) (s x : Operand)
    (ho : o.op = .call { callee := .builtin .append, args := #[s, x], argTypes := #[71, 71] })
    (base : Nat) (v : Value) (f : Fo) (hs : a.eval s = v) (hown : OwnT w base v f) (g c1 : Nat) (hx : a.eval x = .slice (some ⟨g, 0, none⟩) 1 c1)
    (k : Int) (t : ByteArray) (ks : Fo) (ad : Option Addr) (n c L1 B1 : Nat) {T : TypeId} (hbx : w.heap[g]? = some (.cells #[.int .i64 k, .string t, .slice ad n c] T (0, 0))) (hc : n ≤ c) (hk : KA w L1 B1 ks ad n) (hL : base ≤ L1) (hB : B1 ≤ w.heap.size) (hown1 : ∀ g, v.ownBlock = some g → g < L1 ∨ B1 ≤ g)
    (h63 : f.len ≤ 1000000000) (hbase : base ≤ w.heap.size)
    (h : ∀ v' w', OwnT w' base v' (f.snoc k t ks) → w.grownBy w' v.ownBlock → (v'.ownBlock = v.ownBlock ∨ ∀ g, v'.ownBlock = some g → w.heap.size ≤ g) → wpList Tryz.prog ops Q rest (a.put o.dst v') w') : wpList Tryz.prog ops Q (o :: rest) a w := by
  obtain ⟨i, hi, hz0, hz1, hz2⟩ := info_parts expr_info3
  obtain ⟨xs, h1, h2⟩ := hown
  refine wpList_append_at hgd s x 71 ho base 73 i _ 3 48 exprs_under hi hz0 hz1 hz2 rfl (by decide) v f.len xs hs h1 ⟨g, 0, none⟩ 1 c1 [.int .i64 k, .string t, .slice ad n c] hx rfl ?_ (by simp [Value.oneCell']) (by simp only [maxLen]; omega) (by omega) hbase fun v' w' h3 h4 h5 => h v' w' (OwnT.snoc h2 h3 h4 h5 hc hk hL hB hown1) h4 h5
  intro j u hu
  rw [add_none, cell_of_row _ _ _ _ _ _ hbx]
  simpa using hu
theorem OwnT.some {w : World} {base : Nat} {v : Value} {f : Fo} (h : OwnT w base v f) (hn : 0 < f.len) : ∃ g cap, v = .slice (some ⟨g, 0, none⟩) f.len cap ∧ base ≤ g ∧ g < w.heap.size := by
  obtain ⟨xs, h1, _⟩ := h
  exact World.ownsRow.form h1 hn
/-- one more node, at a step of a region that draws -/
theorem step_append_node {w : World} {ops : Array Oper} {o : Oper} {a : Act} {K : Act → World → Prop} {Q : Exit → Act → World → Prop} {E : Prop} (hgd : o.guard = none) (s x : Operand)
    (ho : o.op = .call { callee := .builtin .append, args := #[s, x], argTypes := #[71, 71] })
    (base : Nat) (v : Value) (f : Fo) (hs : a.eval s = v) (hown : OwnT w base v f) (g c1 : Nat) (hx : a.eval x = .slice (some ⟨g, 0, none⟩) 1 c1)
    (k : Int) (t : ByteArray) (ks : Fo) (ad : Option Addr) (n c L1 B1 : Nat) {T : TypeId} (hbx : w.heap[g]? = some (.cells #[.int .i64 k, .string t, .slice ad n c] T (0, 0))) (hc : n ≤ c) (hk : KA w L1 B1 ks ad n) (hL : base ≤ L1) (hB : B1 ≤ w.heap.size) (hown1 : ∀ g, v.ownBlock = some g → g < L1 ∨ B1 ≤ g)
    (h63 : f.len ≤ 1000000000) (hbase : base ≤ w.heap.size)
    (h : ∀ g cap w', OwnT w' base (.slice (some ⟨g, 0, none⟩) (f.len + 1) cap) (f.snoc k t ks) → w.grownBy w' v.ownBlock → g < w'.heap.size → base ≤ g → K (a.put o.dst (.slice (some ⟨g, 0, none⟩) (f.len + 1) cap)) w') :
    if Region.wanted o (yielded ops a.tmps) = true then Oper.wp Tryz.prog o a w K Q else E := by
  have hw : Region.wanted o (yielded ops a.tmps) = true := by simp [Region.wanted, hgd]
  rw [if_pos hw]
  obtain ⟨i, hi, hz0, hz1, hz2⟩ := info_parts expr_info3
  obtain ⟨xs, h1, h2⟩ := hown
  refine wp_append_at s x 71 ho base 73 i _ 3 48 exprs_under hi hz0 hz1 hz2 rfl (by decide) v f.len xs hs h1 ⟨g, 0, none⟩ 1 c1 [.int .i64 k, .string t, .slice ad n c] hx rfl ?_ (by simp [Value.oneCell']) (by simp only [maxLen]; omega) (by omega) hbase fun v' w' h3 h4 h5 => ?_
  · intro j u hu
    rw [add_none, cell_of_row _ _ _ _ _ _ hbx]
    simpa using hu
  · have h6 := OwnT.snoc h2 h3 h4 h5 hc hk hL hB hown1
    obtain ⟨g', cap', rfl, h7, h8⟩ := h6.some (by rw [Fo.snoc_len]; omega)
    rw [Fo.snoc_len] at h6 ⊢
    exact h g' cap' w' h6 h4 h8 h7
end Go.Proofs.YtaiijnepeccllaaGreat

namespace Go.Proofs.YtaiijnepeccllaaGreat
set_option linter.unusedVariables false
open Go.RowKit

/-- block g is a box with an expression -/
def BxE (w : World) (g : Nat) (k : Int) (s : ByteArray) (v : Value) (T : TypeId) : Prop := w.heap[g]? = some (.cells #[.int .i64 k, .string s, v] T (0, 0))
section
variable {w w' : World} {g : Nat} {k : Int} {s : ByteArray} {v : Value} {T : TypeId}
theorem BxE.new (w : World) (k : Int) (s : ByteArray) (v : Value) (T : TypeId) : BxE (w.alloc (.cells #[.int .i64 k, .string s, v] T)) w.heap.size k s v T := heap_alloc_new w _
theorem BxE.next (h : BxE w g k s v T) (hB : Below w.heap.size w w') : BxE w' g k s v T := (hB.block g (blk_lt h)).trans h
theorem BxE.c0 (h : BxE w g k s v T) : w.cell? ⟨g, 0, none⟩ = some (.int .i64 k) := by rw [cell_of_row _ _ _ _ _ _ h]; rfl
theorem BxE.c1 (h : BxE w g k s v T) : w.cell? ⟨g, 1, none⟩ = some (.string s) := by rw [cell_of_row _ _ _ _ _ _ h]; rfl
theorem BxE.c2 (h : BxE w g k s v T) : w.cell? ⟨g, 2, none⟩ = some v := by rw [cell_of_row _ _ _ _ _ _ h]; rfl
end
end Go.Proofs.YtaiijnepeccllaaGreat

namespace Go.Proofs.YtaiijnepeccllaaGreat
set_option linter.unusedVariables false
set_option linter.unusedSimpArgs false
open Go.RowKit

section
variable {w w' : World} {g : Nat} {k : Int} {s : ByteArray} {v : Value} {T : TypeId}
theorem BxE.facts (h : BxE w g k s v T) : w.cell? ⟨g, 0, none⟩ = some (.int .i64 k) ∧ w.cell? ⟨g, 1, none⟩ = some (.string s) ∧ w.cell? ⟨g, 2, none⟩ = some v ∧ w.frozen? ⟨g, 0, none⟩ = false ∧ w.frozen? ⟨g, 1, none⟩ = false ∧ w.frozen? ⟨g, 2, none⟩ = false ∧ g < w.heap.size :=
  ⟨h.c0, h.c1, h.c2, blk_frozen h 0, blk_frozen h 1, blk_frozen h 2, blk_lt h⟩
theorem BxE.grown {r : Option Nat} (h : BxE w g k s v T) (hg : w.grownBy w' r) (hr : r ≠ some g) : BxE w' g k s v T := (hg.block g (blk_lt h) (fun e => hr e.symm)).trans h
theorem BxE.alloc (h : BxE w g k s v T) (o : Obj) : BxE (w.alloc o) g k s v T := h.grown (World.grownBy_alloc w o none) (by simp)
theorem BxE.set2 (h : BxE w g k s v T) (u : Value) : BxE (w.setCell ⟨g, 2, none⟩ u) g k s u T := blk_set h 2 u
theorem BxE.other (h : BxE w g k s v T) {g' : Nat} (hne : g ≠ g') (i : Nat) (u : Value) : BxE (w.setCell ⟨g', i, none⟩ u) g k s v T := (Below.heap_setCell w _ _ g (fun e => hne (by simpa using e))).trans h
end
theorem Fo.size_len : ∀ f : Fo, f.len ≤ f.size
  | .nil => Nat.le_refl _
  | .node k s ks r => by have := Fo.size_len r; simp only [Fo.len, Fo.size]; omega

/-- what l2Copy leaves: the same expression, in memory of its own -/
def CopyP (k : Int) (s : ByteArray) (ks : Fo) (w : World) (e : Ending) (w' : World) : Prop := ∃ v, e = .returned (.agg #[.int .i64 k, .string s, v]) ∧ OwnT w' w.heap.size v ks ∧ Below w.heap.size w w'
/-- between two rounds of l2Copy -/
def CpI (w : World) (k : Int) (s : ByteArray) (ks : Fo) (a : Option Addr) (n c : Nat) (i : Value) (wr : World) : Prop :=
  ∃ (j : Nat) (v : Value) (f : Fo), j ≤ n ∧ i = .int .i64 j ∧ f.len = j ∧ (∀ i, i < j → f.get i = ks.get i) ∧ OwnT wr (w.heap.size + 1 + 1 + 1) v f ∧ BxE wr w.heap.size k s (.slice a n c) 73 ∧ BxE wr (w.heap.size + 1) 0 .empty (.slice none 0 0) 73 ∧ BxE wr (w.heap.size + 1 + 1) k s v 73 ∧ Below w.heap.size w wr

end Go.Proofs.YtaiijnepeccllaaGreat

namespace Go.Proofs.YtaiijnepeccllaaGreat
set_option linter.unusedVariables false
open Go.RowKit

/-- block b is a row of n expressions -/
def RowE (w : World) (b n : Nat) : Prop := ∃ cs : Array Value, w.heap[b]? = some (.cells cs 73 (0, 0)) ∧ cs.size = n * 3
/-- the slices of operands, from a place of a row on: each begins a row of its own -/
def SkS (w : World) (L B : Nat) : Fo → Nat → Nat → Prop
  | .nil, _, _ => True
  | .node k s ks r, b, j => (∃ a n c, w.cell? ⟨b, j * 3 + 2, none⟩ = some (.slice a n c) ∧ ks.len = n ∧ (0 < n → ∃ b', a = some ⟨b', 0, none⟩ ∧ L ≤ b' ∧ b' < B ∧ RowE w b' n ∧ SkS w L B ks b' 0)) ∧ SkS w L B r b (j + 1)
def SkA (w : World) (L B : Nat) (f : Fo) (a : Option Addr) (n : Nat) : Prop := f.len = n ∧ (0 < n → ∃ b, a = some ⟨b, 0, none⟩ ∧ L ≤ b ∧ b < B ∧ RowE w b n ∧ SkS w L B f b 0)
/-- what marks may turn: kinds and texts of expressions in blocks from L to B -/
structure MkStep (L B : Nat) (w w' : World) : Prop where
  os : w'.os = w.os
  tape : w'.tape = w.tape
  output : w'.output = w.output
  size : w.heap.size ≤ w'.heap.size
  out : ∀ g : Nat, g < w.heap.size → g < L ∨ B ≤ g → w'.heap[g]? = w.heap[g]?
  row : ∀ (g : Nat) (cs : Array Value), w.heap[g]? = some (.cells cs 73 (0, 0)) → ∃ cs' : Array Value, w'.heap[g]? = some (.cells cs' 73 (0, 0)) ∧ cs'.size = cs.size ∧ ∀ i, i % 3 = 2 → cs'[i]? = cs[i]?
section
variable {w w' w'' : World} {L B b j n i : Nat} {f ks : Fo} {k : Int} {s : ByteArray} {a : Option Addr}
theorem MkStep.refl (L B : Nat) (w : World) : MkStep L B w w := ⟨rfl, rfl, rfl, Nat.le_refl _, fun _ _ _ => rfl, fun g cs h => ⟨cs, h, rfl, fun _ _ => rfl⟩⟩
theorem MkStep.trans (h : MkStep L B w w') (h2 : MkStep L B w' w'') : MkStep L B w w'' := ⟨h2.os.trans h.os, h2.tape.trans h.tape, h2.output.trans h.output, Nat.le_trans h.size h2.size,
  fun g hg ho => (h2.out g (Nat.lt_of_lt_of_le hg h.size) ho).trans (h.out g hg ho), fun g cs hg => by
    obtain ⟨c1, h3, h4, h5⟩ := h.row g cs hg
    obtain ⟨c2, h6, h7, h8⟩ := h2.row g c1 h3
    exact ⟨c2, h6, h7.trans h4, fun i hi => (h8 i hi).trans (h5 i hi)⟩⟩
theorem MkStep.of (h : Below w.heap.size w w') : MkStep L B w w' := ⟨h.os, h.tape, h.output, h.size, fun g hg _ => h.block g hg, fun g cs hg => ⟨cs, (h.block g (Array.getElem?_eq_some_iff.1 hg).1).trans hg, rfl, fun _ _ => rfl⟩⟩
theorem set_block (w : World) (g i : Nat) (v : Value) (h : g < w.heap.size) : (w.setCell ⟨g, i, none⟩ v).heap[g]? = match w.heap[g]? with
    | some (.cells c e fr) => some (.cells (c.setIfInBounds i v) e fr)
    | o => o := by
  simp only [World.setCell]
  rw [Array.getElem?_modify, if_pos rfl]
  cases hx : w.heap[g]? with
  | none => rfl
  | some o => cases o <;> rfl
theorem MkStep.set (hL : L ≤ b) (hB : b < B) (hi : i % 3 ≠ 2) (v : Value) : MkStep L B w (w.setCell ⟨b, i, none⟩ v) := by
  refine ⟨rfl, rfl, rfl, by simp, fun g hg ho => Below.heap_setCell w ⟨b, i, none⟩ v g (by show g ≠ b; omega), fun g cs hg => ?_⟩
  by_cases hgb : g = b
  · subst hgb
    refine ⟨cs.setIfInBounds i v, ?_, by simp, fun i' hi' => by rw [Array.getElem?_setIfInBounds_ne (by rintro rfl; exact hi hi')]⟩
    have := (Array.getElem?_eq_some_iff.1 hg).1
    rw [set_block w g i v this, hg]
  · exact ⟨cs, (Below.heap_setCell w ⟨b, i, none⟩ v g hgb).trans hg, rfl, fun _ _ => rfl⟩
theorem RowE.step (h : RowE w b n) (hs : MkStep L B w w') : RowE w' b n := by
  obtain ⟨cs, h1, h2⟩ := h
  obtain ⟨c2, h3, h4, _⟩ := hs.row b cs h1
  exact ⟨c2, h3, h4.trans h2⟩
theorem RowE.slice (h : RowE w b n) (hs : MkStep L B w w') {v : Value} (hc : w.cell? ⟨b, j * 3 + 2, none⟩ = some v) : w'.cell? ⟨b, j * 3 + 2, none⟩ = some v := by
  obtain ⟨cs, h1, h2⟩ := h
  obtain ⟨c2, h3, h4, h5⟩ := hs.row b cs h1
  rw [cell_of_row _ _ _ _ _ _ h3, h5 _ (by omega), ← cell_of_row _ _ _ _ _ _ h1]
  exact hc
theorem sk_step (hs : MkStep L B w w') : ∀ {f : Fo} {b j n : Nat}, RowE w b n → SkS w L B f b j → SkS w' L B f b j
  | .nil, _, _, _, _, _ => trivial
  | .node k s ks r, b, j, n, hr, ⟨⟨a, m, c, h1, h2, h3⟩, h4⟩ => ⟨⟨a, m, c, hr.slice hs h1, h2, fun hm => let ⟨b', e, hl, hb, hr', hk⟩ := h3 hm; ⟨b', e, hl, hb, hr'.step hs, sk_step hs hr' hk⟩⟩, sk_step hs hr h4⟩
theorem SkA.step (h : SkA w L B f a n) (hs : MkStep L B w w') : SkA w' L B f a n := ⟨h.1, fun hn => let ⟨b, e, hl, hb, hr, hk⟩ := h.2 hn; ⟨b, e, hl, hb, hr.step hs, sk_step hs hr hk⟩⟩
theorem sk_get : ∀ {f : Fo} {b j i : Nat}, SkS w L B f b j → i < f.len → ∃ k s ks a n c, f.get i = some (k, s, ks) ∧ w.cell? ⟨b, (j + i) * 3 + 2, none⟩ = some (.slice a n c) ∧ SkA w L B ks a n
  | .node k s ks r, b, j, 0, ⟨⟨a, m, c, h1, h2, h3⟩, _⟩, _ => ⟨k, s, ks, a, m, c, rfl, h1, h2, h3⟩
  | .node k s ks r, b, j, i + 1, ⟨_, h4⟩, hi => by
    obtain ⟨k', s', ks', a, n, c, h1, h2, h3⟩ := sk_get (f := r) (i := i) h4 (by simp only [Fo.len] at hi; omega)
    exact ⟨k', s', ks', a, n, c, h1, by rw [show j + (i + 1) = j + 1 + i from by omega]; exact h2, h3⟩
  | .nil, _, _, _, _, h => absurd h (by simp [Fo.len])
theorem RowE.cells (h : RowE w b n) (hi : i < n * 3) : ∃ v, w.cell? ⟨b, i, none⟩ = some v := by
  obtain ⟨cs, h1, h2⟩ := h
  rw [cell_of_row _ _ _ _ _ _ h1]
  exact ⟨_, Array.getElem?_eq_getElem (by omega)⟩
theorem RowE.frozen (h : RowE w b n) (i : Nat) : w.frozen? ⟨b, i, none⟩ = false := by
  obtain ⟨cs, h1, h2⟩ := h
  exact blk_frozen h1 i
end
end Go.Proofs.YtaiijnepeccllaaGreat

namespace Go.Proofs.YtaiijnepeccllaaGreat
set_option linter.unusedVariables false
set_option linter.unusedSimpArgs false
open Go.RowKit

/-- the blocks of the rows below (a node's kind is the block of its operands' row) -/
def Fo.blks : Fo → List Nat
  | .nil => []
  | .node k _ ks r => (if ks.len = 0 then [] else k.toNat :: ks.blks) ++ r.blks
/-- the blocks of a list whose row is block g -/
def blksA (g : Nat) (bk : Fo) : List Nat := if bk.len = 0 then [] else g :: bk.blks
/-- block b is a row with room for n expressions -/
def RowC (w : World) (b n : Nat) : Prop := ∃ cs : Array Value, w.heap[b]? = some (.cells cs 73 (0, 0)) ∧ n * 3 ≤ cs.size
/-- the slices of operands, each with a row of its own -/
def Sep (w : World) : Fo → Nat → Nat → Prop
  | .nil, _, _ => True
  | .node k _ ks r, b, j => (∃ a c, w.cell? ⟨b, j * 3 + 2, none⟩ = some (.slice a ks.len c) ∧ (0 < ks.len → a = some ⟨k.toNat, 0, none⟩ ∧ RowC w k.toNat ks.len ∧ Sep w ks k.toNat 0)) ∧ Sep w r b (j + 1)
def SepA (w : World) (bk : Fo) (g : Nat) (a : Option Addr) (n : Nat) : Prop := bk.len = n ∧ (0 < n → a = some ⟨g, 0, none⟩ ∧ RowC w g n ∧ Sep w bk g 0)
def SepN (w : World) (b i g : Nat) (ks : Fo) : Prop := ∃ a c, w.cell? ⟨b, i * 3 + 2, none⟩ = some (.slice a ks.len c) ∧ SepA w ks g a ks.len
/-- the same rows, marked -/
def Mkd (w : World) : Fo → Nat → Nat → Nat → Prop
  | .nil, _, _, _ => True
  | .node k _ ks r, b, j, m => (w.cell? ⟨b, j * 3, none⟩ = some (.int .i64 m) ∧ w.cell? ⟨b, j * 3 + 1, none⟩ = some (.string (mkS (m + 1))) ∧
      ∃ a c, w.cell? ⟨b, j * 3 + 2, none⟩ = some (.slice a ks.len c) ∧ (0 < ks.len → a = some ⟨k.toNat, 0, none⟩ ∧ RowC w k.toNat ks.len ∧ Mkd w ks k.toNat 0 (m + 2))) ∧ Mkd w r b (j + 1) (m + 2 + 2 * ks.size)
def MkdA (w : World) (bk : Fo) (g : Nat) (a : Option Addr) (n m : Nat) : Prop := bk.len = n ∧ (0 < n → a = some ⟨g, 0, none⟩ ∧ RowC w g n ∧ Mkd w bk g 0 m)
def MkdN (w : World) (b i m g : Nat) (ks : Fo) : Prop := w.cell? ⟨b, i * 3, none⟩ = some (.int .i64 m) ∧ w.cell? ⟨b, i * 3 + 1, none⟩ = some (.string (mkS (m + 1))) ∧ ∃ a c, w.cell? ⟨b, i * 3 + 2, none⟩ = some (.slice a ks.len c) ∧ MkdA w ks g a ks.len (m + 2)
section
variable {w w' w'' : World} {b j i g n m : Nat} {bk ks : Fo} {k : Int} {s : ByteArray} {a : Option Addr}
theorem RowC.lt (h : RowC w b n) : b < w.heap.size := by
  obtain ⟨cs, h1, _⟩ := h
  exact blk_lt h1
theorem RowC.keep (h : RowC w b n) (hb : w'.heap[b]? = w.heap[b]?) : RowC w' b n := by
  obtain ⟨cs, h1, h2⟩ := h
  exact ⟨cs, hb.trans h1, h2⟩
theorem RowC.cells (h : RowC w b n) (hi : i < n * 3) : ∃ v, w.cell? ⟨b, i, none⟩ = some v := by
  obtain ⟨cs, h1, h2⟩ := h
  rw [cell_of_row _ _ _ _ _ _ h1]
  exact ⟨_, Array.getElem?_eq_getElem (by omega)⟩
theorem RowC.frozen (h : RowC w b n) (i : Nat) : w.frozen? ⟨b, i, none⟩ = false := by
  obtain ⟨cs, h1, h2⟩ := h
  exact blk_frozen h1 i
theorem RowC.set (h : RowC w b n) (g i : Nat) (v : Value) : RowC (w.setCell ⟨g, i, none⟩ v) b n := by
  obtain ⟨cs, h1, h2⟩ := h
  by_cases e : b = g
  · subst e
    exact ⟨_, blk_set h1 i v, by simpa using h2⟩
  · exact ⟨cs, (Below.heap_setCell w ⟨g, i, none⟩ v b e).trans h1, h2⟩
theorem cell_same (hb : w'.heap[b]? = w.heap[b]?) : w'.cell? ⟨b, i, none⟩ = w.cell? ⟨b, i, none⟩ := World.cell?_of_block hb
theorem blks_mem (h : bk.get i = some (k, s, ks)) : ∀ x, x ∈ blksA k.toNat ks → x ∈ bk.blks := by
  induction bk generalizing i with
  | nil => simp [Fo.get] at h
  | node k' s' ks' r _ ih =>
    intro x hx
    cases i with
    | zero =>
      simp only [Fo.get, Option.some.injEq, Prod.mk.injEq] at h
      obtain ⟨rfl, rfl, rfl⟩ := h
      exact List.mem_append_left _ hx
    | succ i => exact List.mem_append_right _ (ih h x hx)
theorem blks_nodup (hn : bk.blks.Nodup) (h : bk.get i = some (k, s, ks)) : (blksA k.toNat ks).Nodup := by
  induction bk generalizing i with
  | nil => simp [Fo.get] at h
  | node k' s' ks' r _ ih =>
    have hn' := List.nodup_append.1 hn
    cases i with
    | zero =>
      simp only [Fo.get, Option.some.injEq, Prod.mk.injEq] at h
      obtain ⟨rfl, rfl, rfl⟩ := h
      exact hn'.1
    | succ i => exact ih hn'.2.1 h
theorem blks_apart {i' : Nat} {k' : Int} {s' : ByteArray} {ks' : Fo} (hn : bk.blks.Nodup) (h : bk.get i = some (k, s, ks)) (h' : bk.get i' = some (k', s', ks')) (hi : i ≠ i') : ∀ x, x ∈ blksA k.toNat ks → x ∉ blksA k'.toNat ks' := by
  induction bk generalizing i i' with
  | nil => simp [Fo.get] at h
  | node k0 s0 ks0 r _ ih =>
    have hn' := List.nodup_append.1 hn
    intro x hx hx'
    cases i with
    | zero =>
      cases i' with
      | zero => exact hi rfl
      | succ i' =>
        simp only [Fo.get, Option.some.injEq, Prod.mk.injEq] at h
        obtain ⟨rfl, rfl, rfl⟩ := h
        exact hn'.2.2 x hx x (blks_mem (bk := r) h' x hx') rfl
    | succ i =>
      cases i' with
      | zero =>
        simp only [Fo.get, Option.some.injEq, Prod.mk.injEq] at h'
        obtain ⟨rfl, rfl, rfl⟩ := h'
        exact hn'.2.2 x hx' x (blks_mem (bk := r) h x hx) rfl
      | succ i' => exact ih hn'.2.1 h h' (by omega) x hx hx'
theorem sep_keep : ∀ {bk : Fo} {b j : Nat}, b < w.heap.size → (∀ x, x ∈ b :: bk.blks → x < w.heap.size → w'.heap[x]? = w.heap[x]?) → Sep w bk b j → Sep w' bk b j
  | .nil, _, _, _, _, _ => trivial
  | .node k s ks r, b, j, hb, hk, ⟨⟨a, c, h1, h2⟩, h3⟩ => by
    refine ⟨⟨a, c, (cell_same (hk b (List.mem_cons_self ..) hb)).trans h1, fun hn => ?_⟩, sep_keep hb (fun x hx => hk x ?_) h3⟩
    · obtain ⟨h4, h5, h6⟩ := h2 hn
      have hin : ∀ x, x ∈ k.toNat :: ks.blks → x ∈ b :: (Fo.node k s ks r).blks := fun x hx => List.mem_cons_of_mem _ (List.mem_append_left _ (by rw [if_neg (by omega)]; exact hx))
      exact ⟨h4, h5.keep (hk _ (hin _ (List.mem_cons_self ..)) h5.lt), sep_keep h5.lt (fun x hx => hk x (hin x hx)) h6⟩
    · rcases List.mem_cons.1 hx with rfl | hx
      · exact List.mem_cons_self ..
      · exact List.mem_cons_of_mem _ (List.mem_append_right _ hx)
theorem SepA.keep (h : SepA w bk g a n) (hk : ∀ x, x ∈ blksA g bk → x < w.heap.size → w'.heap[x]? = w.heap[x]?) : SepA w' bk g a n := by
  refine ⟨h.1, fun hn => ?_⟩
  obtain ⟨h4, h5, h6⟩ := h.2 hn
  have e : blksA g bk = g :: bk.blks := by unfold blksA; rw [if_neg (by have := h.1; omega)]
  rw [e] at hk
  exact ⟨h4, h5.keep (hk _ (List.mem_cons_self ..) h5.lt), sep_keep h5.lt hk h6⟩
theorem mkd_keep : ∀ {bk : Fo} {b j m : Nat}, b < w.heap.size → (∀ x, x ∈ b :: bk.blks → x < w.heap.size → w'.heap[x]? = w.heap[x]?) → Mkd w bk b j m → Mkd w' bk b j m
  | .nil, _, _, _, _, _, _ => trivial
  | .node k s ks r, b, j, m, hb, hk, ⟨⟨h00, h01, a, c, h1, h2⟩, h3⟩ => by
    have hbb := hk b (List.mem_cons_self ..) hb
    refine ⟨⟨(cell_same hbb).trans h00, (cell_same hbb).trans h01, a, c, (cell_same hbb).trans h1, fun hn => ?_⟩, mkd_keep hb (fun x hx => hk x ?_) h3⟩
    · obtain ⟨h4, h5, h6⟩ := h2 hn
      have hin : ∀ x, x ∈ k.toNat :: ks.blks → x ∈ b :: (Fo.node k s ks r).blks := fun x hx => List.mem_cons_of_mem _ (List.mem_append_left _ (by rw [if_neg (by omega)]; exact hx))
      exact ⟨h4, h5.keep (hk _ (hin _ (List.mem_cons_self ..)) h5.lt), mkd_keep h5.lt (fun x hx => hk x (hin x hx)) h6⟩
    · rcases List.mem_cons.1 hx with rfl | hx
      · exact List.mem_cons_self ..
      · exact List.mem_cons_of_mem _ (List.mem_append_right _ hx)
theorem MkdA.keep (h : MkdA w bk g a n m) (hk : ∀ x, x ∈ blksA g bk → x < w.heap.size → w'.heap[x]? = w.heap[x]?) : MkdA w' bk g a n m := by
  refine ⟨h.1, fun hn => ?_⟩
  obtain ⟨h4, h5, h6⟩ := h.2 hn
  have e : blksA g bk = g :: bk.blks := by unfold blksA; rw [if_neg (by have := h.1; omega)]
  rw [e] at hk
  exact ⟨h4, h5.keep (hk _ (List.mem_cons_self ..) h5.lt), mkd_keep h5.lt hk h6⟩
theorem sep_get : ∀ {bk : Fo} {b j i : Nat} {k : Int} {s : ByteArray} {ks : Fo}, Sep w bk b j → bk.get i = some (k, s, ks) → SepN w b (j + i) k.toNat ks
  | .nil, _, _, _, _, _, _, _, h => by simp [Fo.get] at h
  | .node k s ks r, b, j, 0, _, _, _, ⟨⟨a, c, h1, h2⟩, _⟩, h => by
    simp only [Fo.get, Option.some.injEq, Prod.mk.injEq] at h
    obtain ⟨rfl, rfl, rfl⟩ := h
    exact ⟨a, c, h1, rfl, h2⟩
  | .node k s ks r, b, j, i + 1, _, _, _, ⟨_, h3⟩, h => by
    have := sep_get (bk := r) (i := i) h3 h
    rwa [show j + (i + 1) = j + 1 + i from by omega]
theorem mkd_get : ∀ {bk : Fo} {b j i m : Nat} {k : Int} {s : ByteArray} {ks : Fo}, Mkd w bk b j m → bk.get i = some (k, s, ks) → MkdN w b (j + i) (m + 2 * bk.size - 2 * (bk.drop i).size) k.toNat ks
  | .nil, _, _, _, _, _, _, _, _, h => by simp [Fo.get] at h
  | .node k s ks r, b, j, 0, m, _, _, _, ⟨⟨h00, h01, a, c, h1, h2⟩, _⟩, h => by
    simp only [Fo.get, Option.some.injEq, Prod.mk.injEq] at h
    obtain ⟨rfl, rfl, rfl⟩ := h
    rw [Fo.drop_zero, Nat.add_sub_cancel]
    exact ⟨h00, h01, a, c, h1, rfl, h2⟩
  | .node k s ks r, b, j, i + 1, m, _, _, _, ⟨_, h3⟩, h => by
    have h4 := mkd_get (bk := r) (i := i) h3 h
    have hd : (Fo.node k s ks r).drop (i + 1) = r.drop i := rfl
    rw [hd, show j + (i + 1) = j + 1 + i from by omega, show m + 2 * (Fo.node k s ks r).size - 2 * (r.drop i).size = m + 2 + 2 * ks.size + 2 * r.size - 2 * (r.drop i).size from by simp only [Fo.size]; omega]
    exact h4
theorem drop_size_le : ∀ (bk : Fo) (i : Nat), (bk.drop i).size ≤ bk.size
  | .nil, 0 => Nat.le_refl _
  | .nil, _ + 1 => Nat.le_refl _
  | .node _ _ _ _, 0 => Nat.le_refl _
  | .node k s ks r, i + 1 => by have := drop_size_le r i; simp only [Fo.drop, Fo.size]; omega
theorem mkd_of : ∀ {bk : Fo} {b j m : Nat}, (∀ i k s ks, bk.get i = some (k, s, ks) → MkdN w b (j + i) (m + 2 * bk.size - 2 * (bk.drop i).size) k.toNat ks) → Mkd w bk b j m
  | .nil, _, _, _, _ => trivial
  | .node k s ks r, b, j, m, h => by
    have h0 := h 0 k s ks rfl
    rw [Fo.drop_zero, Nat.add_sub_cancel, Nat.add_zero] at h0
    obtain ⟨h00, h01, a, c, h1, h2⟩ := h0
    refine ⟨⟨h00, h01, a, c, h1, h2.2⟩, mkd_of fun i k' s' ks' hg => ?_⟩
    have h4 := h (i + 1) k' s' ks' hg
    have hd : (Fo.node k s ks r).drop (i + 1) = r.drop i := rfl
    rw [hd, show j + (i + 1) = j + 1 + i from by omega, show m + 2 * (Fo.node k s ks r).size - 2 * (r.drop i).size = m + 2 + 2 * ks.size + 2 * r.size - 2 * (r.drop i).size from by simp only [Fo.size]; omega] at h4
    exact h4
/-- only these blocks may have been written to -/
structure TchL (bs : List Nat) (w w' : World) : Prop where
  os : w'.os = w.os
  tape : w'.tape = w.tape
  output : w'.output = w.output
  size : w.heap.size ≤ w'.heap.size
  out : ∀ g : Nat, g < w.heap.size → g ∉ bs → w'.heap[g]? = w.heap[g]?
theorem TchL.refl (bs : List Nat) (w : World) : TchL bs w w := ⟨rfl, rfl, rfl, Nat.le_refl _, fun _ _ _ => rfl⟩
theorem TchL.trans {bs : List Nat} (h : TchL bs w w') (h2 : TchL bs w' w'') : TchL bs w w'' := ⟨h2.os.trans h.os, h2.tape.trans h.tape, h2.output.trans h.output, Nat.le_trans h.size h2.size, fun g hg ho => (h2.out g (Nat.lt_of_lt_of_le hg h.size) ho).trans (h.out g hg ho)⟩
theorem TchL.of {bs : List Nat} (h : Below w.heap.size w w') : TchL bs w w' := ⟨h.os, h.tape, h.output, h.size, fun g hg _ => h.block g hg⟩
theorem TchL.set {bs : List Nat} (hL : g ∈ bs) (v : Value) : TchL bs w (w.setCell ⟨g, i, none⟩ v) := ⟨rfl, rfl, rfl, by simp, fun g' hg ho => Below.heap_setCell w ⟨g, i, none⟩ v g' (by show g' ≠ g; rintro rfl; exact ho hL)⟩
theorem TchL.more {bs bs' : List Nat} (h : TchL bs w w') (hL : ∀ x, x ∈ bs → x ∈ bs') : TchL bs' w w' := ⟨h.os, h.tape, h.output, h.size, fun g hg ho => h.out g hg fun hx => ho (hL g hx)⟩
end
end Go.Proofs.YtaiijnepeccllaaGreat

namespace Go.Proofs.YtaiijnepeccllaaGreat
set_option linter.unusedVariables false
set_option linter.unusedSimpArgs false
open Go.RowKit

/-- the cells of a row of nodes whose operands have rows of their own -/
def RowB (w : World) : Fo → List Value → Prop
  | .nil, xs => xs = []
  | .node k _ ks r, xs => ∃ x y a c ys, xs = x :: y :: .slice a ks.len c :: ys ∧ SepA w ks k.toNat a ks.len ∧ RowB w r ys
section
variable {w w' : World} {b g : Nat} {bk ks : Fo} {a : Option Addr}
theorem rowB_keep : ∀ {bk : Fo} {xs : List Value}, (∀ x, x ∈ bk.blks → x < w.heap.size → w'.heap[x]? = w.heap[x]?) → RowB w bk xs → RowB w' bk xs
  | .nil, _, _, h => h
  | .node k s ks r, _, hk, ⟨x, y, a, c, ys, e, h1, h2⟩ => ⟨x, y, a, c, ys, e, h1.keep fun x hx => hk x (List.mem_append_left _ hx), rowB_keep (fun x hx => hk x (List.mem_append_right _ hx)) h2⟩
theorem rowB_snoc {x y : Value} {c : Nat} (h1 : SepA w ks g a ks.len) : ∀ {bk : Fo} {xs : List Value}, RowB w bk xs → RowB w (bk.snoc (g : Int) .empty ks) (xs ++ [x, y, .slice a ks.len c])
  | .nil, _, h => by simp only [RowB] at h; subst h; exact ⟨x, y, a, c, [], rfl, by simpa using h1, rfl⟩
  | .node k s ks' r, _, ⟨x', y', a', c', ys, e, h2, h3⟩ => by subst e; exact ⟨x', y', a', c', _, rfl, h2, rowB_snoc h1 h3⟩
theorem rowB_sep : ∀ {bk : Fo} {xs : List Value} {j0 : Nat}, RowB w bk xs → (∀ j u, xs[j]? = some u → w.cell? ⟨b, j0 * 3 + j, none⟩ = some u) → Sep w bk b j0
  | .nil, _, _, _, _ => trivial
  | .node k s ks r, _, j0, ⟨x, y, a, c, ys, e, h1, h2⟩, hcell => by
    subst e
    refine ⟨⟨a, c, hcell 2 _ rfl, h1.2⟩, rowB_sep h2 fun j u hu => ?_⟩
    have := hcell (j + 3) u (by simpa using hu)
    rwa [show (j0 + 1) * 3 + j = j0 * 3 + (j + 3) from by omega]
theorem blks_snoc (g : Nat) (s : ByteArray) (ks : Fo) : ∀ bk : Fo, (bk.snoc (g : Int) s ks).blks = bk.blks ++ blksA g ks
  | .nil => by simp [Fo.snoc, Fo.blks, blksA]
  | .node k' s' ks' r => by simp only [Fo.snoc, Fo.blks, blks_snoc g s ks r, List.append_assoc]
end
/-- a list of expressions of one's own whose rows share no block -/
def OwnB (w : World) (base : Nat) (v : Value) (f bk : Fo) : Prop := ∃ xs, w.ownsRow base 73 3 v f.len xs ∧ RowT w base w.heap.size v.ownBlock f xs ∧ RowB w bk xs ∧ bk.len = f.len ∧ bk.size = f.size ∧ bk.blks.Nodup ∧ ∀ x ∈ bk.blks, base ≤ x ∧ x < w.heap.size ∧ v.ownBlock ≠ some x
section
variable {w w' : World} {base base' : Nat} {v v' : Value} {f bk : Fo} {r : Option Nat}
theorem OwnB.own (h : OwnB w base v f bk) : OwnT w base v f := by
  obtain ⟨xs, h1, h2, _⟩ := h
  exact ⟨xs, h1, h2⟩
theorem OwnB.nil (w : World) (base : Nat) : OwnB w base (.slice none 0 0) .nil .nil := ⟨[], World.ownsRow_nil _ _ _ _, rfl, rfl, rfl, rfl, List.nodup_nil, fun _ h => by simp [Fo.blks] at h⟩
theorem OwnB.grown (h : OwnB w base v f bk) (hg : w.grownBy w' r) (hr : ∀ g, r = some g → g < base ∨ w.heap.size ≤ g) : OwnB w' base v f bk := by
  obtain ⟨xs, h1, h2, h3, h4, h5, h6, h7⟩ := h
  refine ⟨xs, World.ownsRow.kept h1 hg ?_, rowT_keep (Nat.le_refl _) hg.size (fun g hg => .inl hg) (fun p h3 h4 _ => World.cell?_of_block (hg.block p.block h4 (fun e => by have := hr _ e.symm; omega))) h2,
    rowB_keep (fun x hx hxs => hg.block x hxs (fun e => by have := hr _ e.symm; have := h7 x hx; omega)) h3, h4, h5, h6, fun x hx => ⟨(h7 x hx).1, Nat.lt_of_lt_of_le (h7 x hx).2.1 hg.size, (h7 x hx).2.2⟩⟩
  cases hv : v.ownBlock with
  | none => exact .inl rfl
  | some g => exact .inr fun e => by have := World.ownsRow.lt h1 g hv; have := hr g e.symm; omega
theorem OwnB.alloc (h : OwnB w base v f bk) (o : Obj) : OwnB (w.alloc o) base v f bk := h.grown (World.grownBy_alloc w o none) fun g e => by cases e
theorem OwnB.below (h : OwnB w base v f bk) (hb : Below w.heap.size w w') : OwnB w' base v f bk := h.grown (r := none) ⟨hb.os, hb.tape, hb.output, hb.size, fun i hi _ => hb.block i hi⟩ fun g e => by cases e
theorem OwnB.setCell (h : OwnB w base v f bk) {g : Nat} (hg : g < base) (i : Nat) (u : Value) : OwnB (w.setCell ⟨g, i, none⟩ u) base v f bk :=
  h.grown (r := some g) (grown_set (World.grownBy.refl w _) (.inl rfl) u) fun j e => by injection e with e; omega
theorem OwnB.mono (h : OwnB w base v f bk) (hb : base' ≤ base) : OwnB w base' v f bk := by
  obtain ⟨xs, h1, h2, h3, h4, h5, h6, h7⟩ := h
  exact ⟨xs, World.ownsRow.mono h1 hb, rowT_keep hb (Nat.le_refl _) (fun g hg => .inl hg) (fun _ _ _ _ => rfl) h2, h3, h4, h5, h6, fun x hx => ⟨Nat.le_trans hb (h7 x hx).1, (h7 x hx).2⟩⟩
theorem OwnB.bound (h : OwnB w base v f bk) : ∀ x ∈ bk.blks, x < w.heap.size := by
  obtain ⟨xs, h1, h2, h3, h4, h5, h6, h7⟩ := h
  exact fun x hx => (h7 x hx).2.1
/-- what a copied list is told of -/
def CopX (w : World) (base : Nat) (f : Fo) (a : Option Addr) (c : Nat) (bk : Fo) (g : Nat) : Prop := f.len ≤ c ∧ c ≤ maxLen ∧ KA w base w.heap.size f a f.len ∧ SepA w bk g a f.len ∧ (blksA g bk).Nodup ∧ (∀ x ∈ blksA g bk, base ≤ x ∧ x < w.heap.size) ∧ bk.size = f.size
theorem CopX.setCell {w : World} {base c g g' : Nat} {f bk : Fo} {a : Option Addr} (h : CopX w base f a c bk g) (hg : g' < base) (i : Nat) (u : Value) : CopX (w.setCell ⟨g', i, none⟩ u) base f a c bk g := by
  obtain ⟨h1, h2, h3, h4, h5, h6, h7⟩ := h
  have hsz : (w.setCell ⟨g', i, none⟩ u).heap.size = w.heap.size := by simp [World.setCell]
  refine ⟨h1, h2, (h3.setCell (.inl hg) i u).more (Nat.le_refl _) (by omega), h4.keep fun x hx _ => Below.heap_setCell w _ _ x (by have := h6 x hx; show x ≠ g'; omega), h5, fun x hx => ⟨(h6 x hx).1, by rw [hsz]; exact (h6 x hx).2⟩, h7⟩
theorem CopX.mono {w : World} {base base' c g : Nat} {f bk : Fo} {a : Option Addr} (h : CopX w base f a c bk g) (hb : base' ≤ base) : CopX w base' f a c bk g := by
  obtain ⟨h1, h2, h3, h4, h5, h6, h7⟩ := h
  exact ⟨h1, h2, h3.more hb (Nat.le_refl _), h4, h5, fun x hx => ⟨Nat.le_trans hb (h6 x hx).1, (h6 x hx).2⟩, h7⟩
theorem OwnB.form (h : OwnB w base v f bk) : ∃ a c g, v = .slice a f.len c ∧ CopX w base f a c bk g := by
  obtain ⟨a, c, rfl, h8, h9, h10⟩ := h.own.form
  obtain ⟨xs, h1, h2, h3, h4, h5, h6, h7⟩ := h
  rcases h1.2 with ⟨e, h0⟩ | ⟨g, cap, cur, e, hb, hg, hc, hm, hcs, _⟩
  · refine ⟨a, c, 0, rfl, h8, h9, h10, ⟨h4, fun hn => absurd hn (by omega)⟩, ?_, ?_, h5⟩
    · unfold blksA; rw [if_pos (by omega)]; exact List.nodup_nil
    · unfold blksA; rw [if_pos (by omega)]; intro x hx; simp at hx
  · simp only [Value.slice.injEq] at e
    obtain ⟨rfl, -, rfl⟩ := e
    refine ⟨_, c, g, rfl, h8, h9, h10, ⟨h4, fun hn => ⟨rfl, ⟨cur, hg, by rw [hcs]; exact Nat.mul_le_mul_right _ hc⟩, rowB_sep h3 fun j u hu => ?_⟩⟩, ?_, ?_, h5⟩
    · have := World.ownsRow.cells h1 (g := g) rfl j u hu
      rw [add_none] at this
      rwa [show 0 * 3 + j = 0 + j from by omega]
    · unfold blksA
      by_cases h0 : bk.len = 0
      · rw [if_pos h0]; exact List.nodup_nil
      · rw [if_neg h0]; exact List.nodup_cons.2 ⟨fun hx => (h7 g hx).2.2 rfl, h6⟩
    · intro x hx
      unfold blksA at hx
      by_cases h0 : bk.len = 0
      · rw [if_pos h0] at hx; simp at hx
      · rw [if_neg h0] at hx
        rcases List.mem_cons.1 hx with rfl | hx
        · exact ⟨hb, blk_lt hg⟩
        · exact ⟨(h7 x hx).1, (h7 x hx).2.1⟩
end
/-- one more node -/
theorem wp_append_bk {w : World} {o : Oper} {a : Act} {K : Act → World → Prop} {Q : Exit → Act → World → Prop} (s x : Operand)
    (ho : o.op = .call { callee := .builtin .append, args := #[s, x], argTypes := #[71, 71] })
    (base : Nat) (v : Value) (f bk : Fo) (hs : a.eval s = v) (hown : OwnB w base v f bk) (g c1 : Nat) (hx : a.eval x = .slice (some ⟨g, 0, none⟩) 1 c1)
    (k : Int) (t : ByteArray) (ks : Fo) (ad : Option Addr) (c L1 : Nat) (bk1 : Fo) (g1 : Nat) {T : TypeId} (hbx : w.heap[g]? = some (.cells #[.int .i64 k, .string t, .slice ad ks.len c] T (0, 0))) (hc : ks.len ≤ c) (hk : KA w L1 w.heap.size ks ad ks.len) (hL : base ≤ L1) (hown1 : ∀ g, v.ownBlock = some g → g < L1) (hown2 : ∀ x ∈ bk.blks, x < L1)
    (hsep : SepA w bk1 g1 ad ks.len) (hnd : (blksA g1 bk1).Nodup) (hin : ∀ x ∈ blksA g1 bk1, L1 ≤ x ∧ x < w.heap.size) (hz : bk1.size = ks.size)
    (h63 : f.len ≤ 1000000000) (hbase : base ≤ w.heap.size)
    (h : ∀ g cap w', OwnB w' base (.slice (some ⟨g, 0, none⟩) (f.len + 1) cap) (f.snoc k t ks) (bk.snoc (g1 : Int) .empty bk1) → w.grownBy w' v.ownBlock → g < w'.heap.size → base ≤ g → K (a.put o.dst (.slice (some ⟨g, 0, none⟩) (f.len + 1) cap)) w') :
    Oper.wp Tryz.prog o a w K Q := by
  obtain ⟨i, hi, hz0, hz1, hz2⟩ := info_parts expr_info3
  obtain ⟨xs, h1, h2, h3, h4, h5, h6, h7⟩ := hown
  refine wp_append_at s x 71 ho base 73 i _ 3 48 exprs_under hi hz0 hz1 hz2 rfl (by decide) v f.len xs hs h1 ⟨g, 0, none⟩ 1 c1 [.int .i64 k, .string t, .slice ad ks.len c] hx rfl ?_ (by simp [Value.oneCell']) (by simp only [maxLen]; omega) (by omega) hbase fun v' w' h8 h9 h10 => ?_
  · intro j u hu
    rw [add_none, cell_of_row _ _ _ _ _ _ hbx]
    simpa using hu
  · have h11 : RowT w' base w'.heap.size v'.ownBlock (f.snoc k t ks) (xs ++ [.int .i64 k, .string t, .slice ad ks.len c]) := by
      refine rowT_keep (Nat.le_refl _) h9.size (fun g e => ?_) (fun p h4 h5 h6 => World.cell?_of_block (h9.block p.block h5 (fun e => h6 e.symm))) (rowT_snoc (k := k) (s := t) hc hk hL (Nat.le_refl _) (fun g hg => .inl (hown1 g hg)) h2)
      rcases h10 with ho | ho
      · exact .inl (ho ▸ e)
      · exact .inr (.inr (ho g e))
    have h12 : RowB w' (bk.snoc (g1 : Int) .empty bk1) (xs ++ [.int .i64 k, .string t, .slice ad ks.len c]) := by
      have h13 := rowB_snoc (x := .int .i64 k) (y := .string t) (c := c) (g := g1) (a := ad) (ks := bk1) (by rw [hsep.1]; exact hsep) h3
      rw [hsep.1] at h13
      refine rowB_keep (fun x hx hxs => h9.block x hxs (fun e => ?_)) h13
      rw [blks_snoc] at hx
      rcases List.mem_append.1 hx with hx | hx
      · exact (h7 x hx).2.2 e.symm
      · have := hin x hx; have := hown1 x e.symm; omega
    have h14 : w'.ownsRow base 73 3 v' (f.snoc k t ks).len (xs ++ [.int .i64 k, .string t, .slice ad ks.len c]) := by rw [Fo.snoc_len]; exact h8
    obtain ⟨g', cap', rfl, h15, h16⟩ := World.ownsRow.form h8 (by omega)
    refine h g' cap' w' ⟨_, h14, h11, h12, by rw [Fo.snoc_len, Fo.snoc_len, h4], by rw [Fo.snoc_size, Fo.snoc_size, h5, hz], ?_, fun x hx => ?_⟩ h9 h16 h15
    · rw [blks_snoc]
      exact List.nodup_append.2 ⟨h6, hnd, fun x hx y hy e => by have := hown2 x hx; have := hin y hy; omega⟩
    · rw [blks_snoc] at hx
      have hxs : base ≤ x ∧ x < w.heap.size ∧ v.ownBlock ≠ some x := by
        rcases List.mem_append.1 hx with hx | hx
        · exact h7 x hx
        · have h17 := hin x hx
          exact ⟨by omega, h17.2, fun e => by have := hown1 x e; omega⟩
      refine ⟨hxs.1, Nat.lt_of_lt_of_le hxs.2.1 h9.size, fun e => ?_⟩
      rcases h10 with ho | ho
      · exact hxs.2.2 (ho ▸ e)
      · have := ho x e; omega

theorem wpList_append_bk {w : World} {ops : Array Oper} {rest : List Oper} {o : Oper} {a : Act} {Q : Exit → Act → World → Prop} (hgd : o.guard = none) (s x : Operand)
    (ho : o.op = .call { callee := .builtin .append, args := #[s, x], argTypes := #[71, 71] })
    (base : Nat) (v : Value) (f bk : Fo) (hs : a.eval s = v) (hown : OwnB w base v f bk) (g c1 : Nat) (hx : a.eval x = .slice (some ⟨g, 0, none⟩) 1 c1)
    (k : Int) (t : ByteArray) (ks : Fo) (ad : Option Addr) (c L1 : Nat) (bk1 : Fo) (g1 : Nat) {T : TypeId} (hbx : w.heap[g]? = some (.cells #[.int .i64 k, .string t, .slice ad ks.len c] T (0, 0))) (hc : ks.len ≤ c) (hk : KA w L1 w.heap.size ks ad ks.len) (hL : base ≤ L1) (hown1 : ∀ g, v.ownBlock = some g → g < L1) (hown2 : ∀ x ∈ bk.blks, x < L1)
    (hsep : SepA w bk1 g1 ad ks.len) (hnd : (blksA g1 bk1).Nodup) (hin : ∀ x ∈ blksA g1 bk1, L1 ≤ x ∧ x < w.heap.size) (hz : bk1.size = ks.size)
    (h63 : f.len ≤ 1000000000) (hbase : base ≤ w.heap.size)
    (h : ∀ g cap w', OwnB w' base (.slice (some ⟨g, 0, none⟩) (f.len + 1) cap) (f.snoc k t ks) (bk.snoc (g1 : Int) .empty bk1) → w.grownBy w' v.ownBlock → g < w'.heap.size → base ≤ g → wpList Tryz.prog ops Q rest (a.put o.dst (.slice (some ⟨g, 0, none⟩) (f.len + 1) cap)) w') :
    wpList Tryz.prog ops Q (o :: rest) a w :=
  wpList_plain hgd fun _ hK => wp_append_bk s x ho base v f bk hs hown g c1 hx k t ks ad c L1 bk1 g1 hbx hc hk hL hown1 hown2 hsep hnd hin hz h63 hbase fun g cap w' h1 h2 h3 h4 => hK _ _ (h g cap w' h1 h2 h3 h4)
theorem bxE_three {w : World} {g : Nat} {k : Int} {s : ByteArray} {v : Value} {T : TypeId} (h : BxE w g k s v T) : w.cell? ⟨g, 0, none⟩ = some (.int .i64 k) ∧ w.cell? ⟨g, 1, none⟩ = some (.string s) ∧ w.cell? ⟨g, 2, none⟩ = some v := ⟨h.c0, h.c1, h.c2⟩
/-- what copyExpr leaves -/
def CopP (k : Int) (s : ByteArray) (ks : Fo) (w : World) (e : Ending) (w' : World) : Prop := ∃ a c bk g, e = .returned (.agg #[.int .i64 k, .string s, .slice a ks.len c]) ∧ CopX w' w.heap.size ks a c bk g ∧ Below w.heap.size w w'
/-- what copyList leaves -/
def CopL (ks : Fo) (w : World) (e : Ending) (w' : World) : Prop := ∃ a c bk g, e = .returned (.slice a ks.len c) ∧ CopX w' w.heap.size ks a c bk g ∧ Below w.heap.size w w'

end Go.Proofs.YtaiijnepeccllaaGreat

namespace Go.Proofs.YtaiijnepeccllaaGreat
set_option linter.unusedVariables false
open Go.RowKit

theorem set_size (w : World) (p : Addr) (u : Value) : (w.setCell p u).heap.size = w.heap.size := by simp [World.setCell]
/-- the nodes up to a place stand in these cells -/
def DoneTo (w : World) (L B : Nat) (f : Fo) (cur : Array Value) (j : Nat) : Prop := ∀ i k s ks, i < j → f.get i = some (k, s, ks) →
  cur[i * 3]? = some (.int .i64 k) ∧ cur[i * 3 + 1]? = some (.string s) ∧ ∃ a n, cur[i * 3 + 2]? = some (.slice a n n) ∧ KA w L B ks a n
section
variable {w w' : World} {L B B' g j n : Nat} {f ks : Fo} {k : Int} {s : ByteArray} {cur : Array Value} {a : Option Addr}
theorem DoneTo.zero : DoneTo w L B f cur 0 := fun i k s ks h => absurd h (by omega)
theorem DoneTo.next (h : DoneTo w L w.heap.size f cur j) (hb : Below w.heap.size w w') : DoneTo w' L w'.heap.size f cur j := fun i k s ks hi hg =>
  let ⟨h1, h2, a, n, h3, h4⟩ := h i k s ks hi hg
  ⟨h1, h2, a, n, h3, h4.next hb⟩
theorem DoneTo.step (h : DoneTo w L B f cur j) (hg : f.get j = some (k, s, ks)) (hk : KA w L B ks a n) (hs : j * 3 + 2 < cur.size) (hL : g < L) (x y z : Value) :
    DoneTo (((w.setCell ⟨g, j * 3, none⟩ x).setCell ⟨g, j * 3 + 1, none⟩ y).setCell ⟨g, j * 3 + 2, none⟩ z) L B f
      (((cur.setIfInBounds (j * 3) (.int .i64 k)).setIfInBounds (j * 3 + 1) (.string s)).setIfInBounds (j * 3 + 2) (.slice a n n)) (j + 1) := by
  intro i k' s' ks' hi hgi
  by_cases e : i = j
  · subst e
    rw [hg] at hgi
    simp only [Option.some.injEq, Prod.mk.injEq] at hgi
    obtain ⟨rfl, rfl, rfl⟩ := hgi
    refine ⟨?_, ?_, a, n, ?_, ((hk.setCell (.inl hL) _ _).setCell (.inl hL) _ _).setCell (.inl hL) _ _⟩
    · rw [Array.getElem?_setIfInBounds_ne (by omega), Array.getElem?_setIfInBounds_ne (by omega), Array.getElem?_setIfInBounds_self_of_lt (by omega)]
    · rw [Array.getElem?_setIfInBounds_ne (by omega), Array.getElem?_setIfInBounds_self_of_lt (by simp; omega)]
    · rw [Array.getElem?_setIfInBounds_self_of_lt (by simp; omega)]
  · obtain ⟨h1, h2, a', n', h3, h4⟩ := h i k' s' ks' (by omega) hgi
    refine ⟨?_, ?_, a', n', ?_, ((h4.setCell (.inl hL) _ _).setCell (.inl hL) _ _).setCell (.inl hL) _ _⟩
    · rw [Array.getElem?_setIfInBounds_ne (by omega), Array.getElem?_setIfInBounds_ne (by omega), Array.getElem?_setIfInBounds_ne (by omega)]; exact h1
    · rw [Array.getElem?_setIfInBounds_ne (by omega), Array.getElem?_setIfInBounds_ne (by omega), Array.getElem?_setIfInBounds_ne (by omega)]; exact h2
    · rw [Array.getElem?_setIfInBounds_ne (by omega), Array.getElem?_setIfInBounds_ne (by omega), Array.getElem?_setIfInBounds_ne (by omega)]; exact h3
/-- a row of cells that holds all the nodes is the list -/
theorem DoneTo.all {e : TypeId} (h : DoneTo w (g + 1) w.heap.size f cur n) (hl : f.len = n) (hb : w.heap[g]? = some (.cells cur e (0, 0))) (hL : L ≤ g) : KA w L w.heap.size f (some ⟨g, 0, none⟩) n := by
  refine ⟨hl, fun hn => ⟨g, 0, rfl, hL, blk_lt hb, seg_of fun j k s ks hg => ?_⟩⟩
  obtain ⟨h1, h2, a, m, h3, h4⟩ := h j k s ks (by have := Fo.get_lt hg; omega) hg
  refine ⟨?_, ?_, a, m, m, ?_, Nat.le_refl _, h4.more (by omega) (Nat.le_refl _)⟩
  · rw [Nat.zero_add, cell_of_row _ _ _ _ _ _ hb]; exact h1
  · rw [Nat.zero_add, cell_of_row _ _ _ _ _ _ hb]; exact h2
  · rw [Nat.zero_add, cell_of_row _ _ _ _ _ _ hb]; exact h3
end
/-- what toExpr leaves -/
def ToP (k : Int) (s : ByteArray) (ks : Fo) (w : World) (e : Ending) (w' : World) : Prop :=
  ∃ g, e = .returned (.agg #[.int .i64 k, .string s, .slice (some ⟨g, 0, none⟩) ks.len ks.len]) ∧ KA w' w.heap.size w'.heap.size ks (some ⟨g, 0, none⟩) ks.len ∧ Below w.heap.size w w'

theorem expr_info : (Tryz.prog.info? 73).map (fun i => (i.zero, i.size, i.bytes)) = some (some (.agg #[.int .i64 0, .string .empty, .slice none 0 0]), 3, 48) := by kernel_rfl

end Go.Proofs.YtaiijnepeccllaaGreat

namespace Go.Proofs.YtaiijnepeccllaaGreat
set_option linter.unusedVariables false
open Go.RowKit

theorem nodeB_txN {k : Int} {s : ByteArray} {n : Nat} (h : nodeB k s n = true) : TxN k s n := by
  rcases node_kinds h with ⟨h1, h2, h3⟩ | ⟨h1, h2, h3⟩ | ⟨h1, h2, h3⟩ | ⟨h1, h2, h3⟩
  · refine .inl ⟨h1, h2, fun h4 => ?_⟩
    unfold plainB noQ at h3
    simp only [Bool.and_eq_true, List.all_eq_true, decide_eq_true_eq] at h3
    exact h3.1 39 h4 rfl
  · exact .inr (.inl ⟨h1, h3⟩)
  · exact .inr (.inr (.inl ⟨h1, h2, h3⟩))
  · exact .inr (.inr (.inr ⟨h1, h2, h3⟩))
theorem shape_tx : ∀ {f : Fo} {d : Nat}, shape f d = true → Tx f
  | .nil, _, _ => trivial
  | .node k s ks r, d, h => by
    simp only [shape, Bool.and_eq_true] at h
    exact ⟨nodeB_txN h.1.1.2, shape_tx h.1.2, shape_tx h.2⟩
theorem shape_one {k : Int} {s : ByteArray} {ks : Fo} {d : Nat} (h : shape (.node k s ks .nil) d = true) : 1 ≤ d ∧ nodeB k s ks.len = true ∧ shape ks (d - 1) = true := by
  simp only [shape, Bool.and_eq_true, decide_eq_true_eq, and_true] at h
  exact ⟨h.1.1, h.1.2, h.2⟩
theorem shape_app : ∀ {f g : Fo} {d : Nat}, shape (f.app g) d = true → shape g d = true
  | .nil, _, _, h => h
  | .node k s ks r, _, d, h => by simp only [Fo.app, shape, Bool.and_eq_true] at h; exact shape_app (f := r) h.2
theorem app_snoc (k : Int) (s : ByteArray) (ks g : Fo) (sn : Fo → Int → ByteArray → Fo → Fo) (hn : ∀ k s ks, sn .nil k s ks = .node k s ks .nil) (hc : ∀ k' s' ks' r k s ks, sn (.node k' s' ks' r) k s ks = .node k' s' ks' (sn r k s ks)) : ∀ f : Fo, f.app (.node k s ks g) = (sn f k s ks).app g
  | .nil => by rw [hn]; rfl
  | .node k' s' ks' r => by rw [hc]; simp only [Fo.app, app_snoc k s ks g sn hn hc r]
/-- how large a node may be at a depth -/
def Bd : Nat → Nat
  | 0 => 1
  | d + 1 => 1 + 5 * Bd d
theorem Bd_pos : ∀ d, 1 ≤ Bd d
  | 0 => Nat.le_refl _
  | d + 1 => by simp only [Bd]; omega
theorem Bd_mono : ∀ d, Bd d ≤ Bd (d + 1)
  | d => by have := Bd_pos d; simp only [Bd]; omega
/-- what the reference hands back is of a bounded size -/
def NOk (d : Nat) (k : Int) (s : ByteArray) (ks : Fo) : Prop := ks.size + 1 ≤ Bd d ∧ s.size ≤ 1048576 ∧ ks.Fits ∧ ks.len ≤ 5
theorem nok_zero (d : Nat) (k : Int) : NOk d k ⟨#[]⟩ .nil := ⟨by have := Bd_pos d; simp only [Fo.size]; omega, Nat.zero_le _, trivial, Nat.zero_le _⟩
/-- if the text at this place begins with a node of this depth, that is it -/
def Want (t : List UInt8) (d : Nat) (at_ : Nat) (k : Int) (s : ByteArray) (ks : Fo) (next : Int) : Prop := ∀ k' s' ks' tail, shape (.node k' s' ks' .nil) d = true → t = fm1 k' s' ks' ++ tail → k = k' ∧ s = s' ∧ ks = ks' ∧ next = at_ + (fm1 k' s' ks').length
def sp4 : List (List UInt8) := [[61], [63], [58], [93]]
def Want4 (r : List UInt8) (d : Nat) (at_ : Nat) (k : Int) (s : ByteArray) (ks : Fo) (next : Int) : Prop := ∀ ks' tail, shape ks' d = true → ks'.len = 4 → r = fmS ks' sp4 ++ tail → k = 4 ∧ s = .empty ∧ ks = ks' ∧ next = at_ + (fmS ks' sp4).length
def Want3 (r : List UInt8) (d : Nat) (at_ : Nat) (k : Int) (s : ByteArray) (ks : Fo) (next : Int) : Prop := ∀ ks' tail, shape ks' d = true → ks'.len ≤ 4 → r = fmS ks' [] ++ 41 :: tail → k = 3 ∧ s = .empty ∧ ks = ks' ∧ next = at_ + (fmS ks' []).length + 1
section
variable {t r : List UInt8} {d at_ : Nat} {k K : Int} {s : ByteArray} {ks : Fo} {next : Int}
theorem want_zero : Want t 0 at_ k s ks next := fun k' s' ks' tail h => absurd (shape_one h).1 (by omega)
theorem want_nil : Want [] d at_ k s ks next := fun k' s' ks' tail _ e => by rw [fm1_hd] at e; simp at e
theorem want_other {c : UInt8} (h : ∀ k : Int, (k = 1 ∨ k = 2 ∨ k = 3 ∨ k = 4 ∨ k = 5 ∨ k = 6 ∨ k = 7) → hdB k ≠ c) : Want (c :: r) d at_ k s ks next := fun k' s' ks' tail h1 e => by
  rw [fm1_hd, List.cons_append] at e
  injection e with e1 _
  exact absurd e1.symm (h k' (txN_kind (nodeB_txN (shape_one h1).2.1)))
theorem want_text {x y : List UInt8} (hx : (39 : UInt8) ∉ x) : Want (39 :: (x ++ 39 :: y)) d at_ 1 ⟨x.toArray⟩ .nil ((at_ : Int) + 1 + x.length + 1) := fun k' s' ks' tail h1 e => by
  have ht := nodeB_txN (shape_one h1).2.1
  have hz : TxN 1 (⟨x.toArray⟩ : ByteArray) Fo.nil.len := .inl ⟨rfl, rfl, by simpa using hx⟩
  have e2 : fm1 1 ⟨x.toArray⟩ .nil ++ y = fm1 k' s' ks' ++ tail := by rw [← e, fm1_hd]; simp [hdB, tlB]
  obtain ⟨rfl, rfl, rfl, rfl⟩ := u1 hz trivial ht (shape_tx (shape_one h1).2.2) e2
  refine ⟨rfl, rfl, rfl, ?_⟩
  rw [fm1_hd]; simp [tlB]; omega
theorem want_noquote (h : (39 : UInt8) ∉ r) : Want (39 :: r) d at_ k s ks next := fun k' s' ks' tail h1 e => by
  rw [fm1_hd, List.cons_append] at e
  injection e with e1 e2
  obtain rfl := hd_inj (txN_kind (nodeB_txN (shape_one h1).2.1)) (.inl rfl : (1 : Int) = 1 ∨ _) e1.symm
  exact absurd (by rw [e2]; simp [tlB]) h
theorem want_four (h : Want4 r d (at_ + 1) k s ks next) : Want (91 :: r) (d + 1) at_ k s ks next := fun k' s' ks' tail h1 e => by
  obtain ⟨_, h2, h3⟩ := shape_one h1
  have ht := nodeB_txN h2
  rw [fm1_hd, List.cons_append] at e
  injection e with e1 e2
  obtain rfl := hd_inj (txN_kind ht) (by omega : (4 : Int) = 1 ∨ _) e1.symm
  obtain ⟨hl, he⟩ : ks'.len = 4 ∧ s' = .empty := by
    rcases ht with ⟨h, _⟩ | ⟨h, _⟩ | ⟨_, h5, h6⟩ | ⟨h, _⟩
    · omega
    · omega
    · exact ⟨h5, h6⟩
    · omega
  have e3 : r = fmS ks' sp4 ++ tail := by simpa [tlB, sp4] using e2
  obtain ⟨h4, h5, h6, h7⟩ := h ks' tail (by simpa using h3) hl e3
  refine ⟨h4, h5.trans he.symm, h6, ?_⟩
  rw [h7, fm1_hd]; simp [tlB, sp4]; omega
theorem want_join (h : Want3 r d (at_ + 1) k s ks next) : Want (40 :: r) (d + 1) at_ k s ks next := fun k' s' ks' tail h1 e => by
  obtain ⟨_, h2, h3⟩ := shape_one h1
  have ht := nodeB_txN h2
  rw [fm1_hd, List.cons_append] at e
  injection e with e1 e2
  obtain rfl := hd_inj (txN_kind ht) (by omega : (3 : Int) = 1 ∨ _) e1.symm
  obtain ⟨hl, he⟩ : ks'.len ≤ 4 ∧ s' = .empty := by
    rcases node_kinds h2 with ⟨h, _⟩ | ⟨_, h5, h6⟩ | ⟨h, _⟩ | ⟨h, _⟩
    · omega
    · exact ⟨h5, h6⟩
    · omega
    · omega
  have e3 : r = fmS ks' [] ++ 41 :: tail := by simpa [tlB] using e2
  obtain ⟨h4, h5, h6, h7⟩ := h ks' tail (by simpa using h3) hl e3
  refine ⟨h4, h5.trans he.symm, h6, ?_⟩
  rw [h7, fm1_hd]; simp [tlB]; omega
theorem want_op (hK : K = 2 ∨ K = 5 ∨ K = 6 ∨ K = 7) (h : Want r d (at_ + 1) k s ks next) : Want (hdB K :: r) (d + 1) at_ K .empty (.node k s ks .nil) next := fun k' s' ks' tail h1 e => by
  obtain ⟨_, h2, h3⟩ := shape_one h1
  have ht := nodeB_txN h2
  rw [fm1_hd, List.cons_append] at e
  injection e with e1 e2
  obtain rfl := hd_inj (txN_kind ht) (by omega : K = 1 ∨ _) e1.symm
  obtain ⟨hl, he⟩ : ks'.len = 1 ∧ s' = .empty := by
    rcases ht with ⟨h, _⟩ | ⟨h, _⟩ | ⟨h, _⟩ | ⟨_, h5, h6⟩
    · omega
    · omega
    · omega
    · exact ⟨h5, h6⟩
  obtain ⟨k2, s2, f2, rfl⟩ := len_one hl
  have e3 : tlB k' s' (.node k2 s2 f2 .nil) = fm1 k2 s2 f2 := by
    unfold tlB
    rw [if_neg (by omega), if_neg (by omega), if_neg (by omega), fmS_one]
  rw [e3] at e2
  obtain ⟨rfl, rfl, rfl, h7⟩ := h k2 s2 f2 tail (by simpa using h3) e2
  refine ⟨rfl, he.symm, rfl, ?_⟩
  rw [h7, fm1_hd k', e3]; simp; omega
end
/-- what a list of operands that was read so far says of the rest: a comparison's -/
def R4 (l : List UInt8) (at0 d : Nat) (f : Fo) (at_ : Nat) : Prop := ∀ ks' tail, shape ks' d = true → ks'.len = 4 → l.drop at0 = fmS ks' sp4 ++ tail → ∃ g, ks' = f.app g ∧ l.drop at_ = fmS g (sp4.drop f.len) ++ tail ∧ at_ = at0 + (fmS f sp4).length
/-- .. a concatenation's -/
def R3 (l : List UInt8) (at0 d : Nat) (f : Fo) (at_ : Int) : Prop := ∀ ks' tail, shape ks' d = true → ks'.len ≤ 4 → l.drop at0 = fmS ks' [] ++ 41 :: tail → 0 ≤ at_ ∧ ∃ g, ks' = f.app g ∧ l.drop at_.toNat = fmS g [] ++ 41 :: tail ∧ at_ = at0 + (fmS f []).length
section
variable {l : List UInt8} {at0 d at_ : Nat} {f : Fo} {k : Int} {s : ByteArray} {ks : Fo} {next : Int} {sn : Fo → Int → ByteArray → Fo → Fo}
theorem r4_start : R4 l at0 d .nil at0 := fun ks' tail _ _ e => ⟨ks', rfl, by simpa [Fo.len] using e, by simp [fmS]⟩
theorem r3_start : R3 l at0 d .nil (at0 : Int) := fun ks' tail _ _ e => ⟨by omega, ks', rfl, by simpa using e, by simp [fmS]⟩
theorem fmS_snoc' (hn : ∀ k s ks, sn .nil k s ks = .node k s ks .nil) (hc : ∀ k' s' ks' r k s ks, sn (.node k' s' ks' r) k s ks = .node k' s' ks' (sn r k s ks)) (k : Int) (s : ByteArray) (ks : Fo) : ∀ (f : Fo) (sp : List (List UInt8)), fmS (sn f k s ks) sp = fmS f sp ++ fm1 k s ks ++ (sp.drop f.len).headD [] ∧ (sn f k s ks).len = f.len + 1
  | .nil, sp => by
    refine ⟨?_, by rw [hn]; rfl⟩
    rw [hn, fmS_node]
    show fm1 k s ks ++ sp.headD [] ++ [] = [] ++ fm1 k s ks ++ (sp.drop 0).headD []
    simp
  | .node k' s' ks' r, sp => by
    obtain ⟨h1, h2⟩ := fmS_snoc' hn hc k s ks r sp.tail
    rw [hc]
    simp only [fmS_node, Fo.len, h1, h2, and_true]
    cases sp with
    | nil => simp
    | cons a sp => simp
theorem drop_more {l a b : List UInt8} {n m : Nat} (h : l.drop n = a ++ b) (hm : m = n + a.length) : l.drop m = b := by
  subst hm
  rw [← List.drop_drop, h, List.drop_left]
theorem r4_next (hr : R4 l at0 d f at_) (hf : f.len < 4) (hw : Want (l.drop at_) d at_ k s ks next) {ks' : Fo} {tail : List UInt8} (h1 : shape ks' d = true) (h2 : ks'.len = 4) (h3 : l.drop at0 = fmS ks' sp4 ++ tail) :
    ∃ g m, ks' = f.app (.node k s ks g) ∧ sp4[f.len]? = some m ∧ next = at_ + (fm1 k s ks).length ∧ l.drop (at_ + (fm1 k s ks).length) = m ++ (fmS g (sp4.drop (f.len + 1)) ++ tail) ∧ at_ = at0 + (fmS f sp4).length := by
  obtain ⟨g, rfl, h4, h5⟩ := hr ks' tail h1 h2 h3
  rw [Fo.app_len] at h2
  match g, h1, h2, h4 with
  | .nil, _, h2, _ => simp only [Fo.len] at h2; omega
  | .node k' s' k1 g, h1, h2, h4 =>
    have hg := shape_app h1
    simp only [shape, Bool.and_eq_true] at hg
    have hlt : f.len < sp4.length := by show f.len < 4; exact hf
    have hd : sp4.drop f.len = sp4[f.len] :: sp4.drop (f.len + 1) := List.drop_eq_getElem_cons hlt
    rw [fmS_node, hd, List.append_assoc, List.append_assoc] at h4
    simp only [List.headD_cons, List.tail_cons] at h4
    obtain ⟨rfl, rfl, rfl, h7⟩ := hw k' s' k1 _ (by simp only [shape, Bool.and_eq_true, and_true]; exact hg.1) h4
    exact ⟨g, _, rfl, List.getElem?_eq_getElem hlt, h7, drop_more h4 rfl, h5⟩
theorem r4_step (hn : ∀ k s ks, sn .nil k s ks = .node k s ks .nil) (hc : ∀ k' s' ks' r k s ks, sn (.node k' s' ks' r) k s ks = .node k' s' ks' (sn r k s ks)) (hr : R4 l at0 d f at_) (hf : f.len < 4) {nx : Nat} (hw : Want (l.drop at_) d at_ k s ks (nx : Int)) : R4 l at0 d (sn f k s ks) (nx + 1) := fun ks' tail h1 h2 h3 => by
  obtain ⟨g, m, rfl, hm, h4, h5, h6⟩ := r4_next hr hf hw h1 h2 h3
  obtain ⟨h7, h8⟩ := fmS_snoc' hn hc k s ks f sp4
  have hml : m.length = 1 := by
    have : ∀ i (h : i < 4), (sp4[i]?.getD []).length = 1 := by decide
    have h9 := this f.len hf
    rw [hm] at h9
    exact h9
  refine ⟨g, app_snoc k s ks g sn hn hc f, ?_, ?_⟩
  · rw [h8]; exact drop_more h5 (by omega)
  · have h9 : (sp4.drop f.len).headD [] = m := by rw [List.headD_eq_head?_getD, List.head?_drop, hm]; rfl
    rw [h7, h9]; simp only [List.length_append]; omega
theorem r4_fail {k2 : Int} {s2 : ByteArray} {ks2 : Fo} {next2 : Int} (hr : R4 l at0 d f at_) (hf : f.len < 4) (hw : Want (l.drop at_) d at_ k s ks next) (hno : ∀ (nx : Nat) (m : List UInt8) (t : List UInt8), next = nx → sp4[f.len]? = some m → l.drop nx ≠ m ++ t) : Want4 (l.drop at0) d at0 k2 s2 ks2 next2 := fun ks' tail h1 h2 h3 => by
  obtain ⟨g, m, rfl, hm, h4, h5, h6⟩ := r4_next hr hf hw h1 h2 h3
  exact absurd h5 (hno _ m _ (by rw [h4]; omega) hm)
theorem r4_done (hr : R4 l at0 d f at_) (hf : f.len = 4) : Want4 (l.drop at0) d at0 4 .empty f at_ := fun ks' tail h1 h2 h3 => by
  obtain ⟨g, rfl, h4, h5⟩ := hr ks' tail h1 h2 h3
  rw [Fo.app_len] at h2
  obtain rfl := len_zero (ks := g) (by omega)
  rw [Fo.app_nil]
  exact ⟨rfl, rfl, rfl, by omega⟩
theorem r3_next (hr : R3 l at0 d f (at_ : Int)) (hw : Want (l.drop at_) d at_ k s ks next) (hc : ∀ t, l.drop at_ ≠ 41 :: t) {ks' : Fo} {tail : List UInt8} (h1 : shape ks' d = true) (h2 : ks'.len ≤ 4) (h3 : l.drop at0 = fmS ks' [] ++ 41 :: tail) :
    ∃ g, ks' = f.app (.node k s ks g) ∧ next = at_ + (fm1 k s ks).length ∧ l.drop (at_ + (fm1 k s ks).length) = fmS g [] ++ 41 :: tail ∧ at_ = at0 + (fmS f []).length := by
  obtain ⟨_, g, rfl, h4, h5⟩ := hr ks' tail h1 h2 h3
  simp only [Int.toNat_natCast] at h4
  match g, h1, h2, h4 with
  | .nil, _, _, h4 => exact absurd (by simpa [fmS] using h4) (hc tail)
  | .node k' s' k1 g, h1, h2, h4 =>
    have hg := shape_app h1
    simp only [shape, Bool.and_eq_true] at hg
    rw [fmS_node, List.append_assoc, List.append_assoc] at h4
    simp only [List.headD_nil, List.tail_nil, List.nil_append] at h4
    obtain ⟨rfl, rfl, rfl, h7⟩ := hw k' s' k1 _ (by simp only [shape, Bool.and_eq_true, and_true]; exact hg.1) h4
    exact ⟨g, rfl, h7, drop_more h4 rfl, by omega⟩
theorem r3_step (hn : ∀ k s ks, sn .nil k s ks = .node k s ks .nil) (hc : ∀ k' s' ks' r k s ks, sn (.node k' s' ks' r) k s ks = .node k' s' ks' (sn r k s ks)) (hr : R3 l at0 d f (at_ : Int)) (hw : Want (l.drop at_) d at_ k s ks next) (hno : ∀ t, l.drop at_ ≠ 41 :: t) : R3 l at0 d (sn f k s ks) next := fun ks' tail h1 h2 h3 => by
  obtain ⟨g, rfl, h4, h5, h6⟩ := r3_next hr hw hno h1 h2 h3
  obtain ⟨h7, h8⟩ := fmS_snoc' hn hc k s ks f []
  refine ⟨by omega, g, app_snoc k s ks g sn hn hc f, ?_, ?_⟩
  · rw [h4, show ((at_ : Int) + ((fm1 k s ks).length : Nat)).toNat = at_ + (fm1 k s ks).length from by omega]; exact h5
  · rw [h7]; simp only [List.drop_nil, List.headD_nil, List.append_nil, List.length_append]; omega
theorem r3_long {k2 : Int} {s2 : ByteArray} {ks2 : Fo} {next2 next : Int} (hr : R3 l at0 d f next) (hf : 4 < f.len) : Want3 (l.drop at0) d at0 k2 s2 ks2 next2 := fun ks' tail h1 h2 h3 => by
  obtain ⟨_, g, rfl, _⟩ := hr ks' tail h1 h2 h3
  rw [Fo.app_len] at h2
  omega
theorem r3_bad {k2 : Int} {s2 : ByteArray} {ks2 : Fo} {next2 next : Int} (hr : R3 l at0 d f next) (hf : next < 0 ∨ (l.length : Int) ≤ next) : Want3 (l.drop at0) d at0 k2 s2 ks2 next2 := fun ks' tail h1 h2 h3 => by
  obtain ⟨h4, g, rfl, h5, _⟩ := hr ks' tail h1 h2 h3
  have h6 : l.length ≤ next.toNat := by omega
  rw [List.drop_of_length_le h6] at h5
  exact absurd h5 (by simp)
theorem r3_done {t : List UInt8} (hr : R3 l at0 d f (at_ : Int)) (ht : l.drop at_ = 41 :: t) : Want3 (l.drop at0) d at0 3 .empty f ((at_ : Int) + 1) := fun ks' tail h1 h2 h3 => by
  obtain ⟨_, g, rfl, h4, h5⟩ := hr ks' tail h1 h2 h3
  simp only [Int.toNat_natCast] at h4
  rw [ht] at h4
  match g, h1, h4 with
  | .nil, _, _ => rw [Fo.app_nil]; exact ⟨rfl, rfl, rfl, by omega⟩
  | .node k' s' k1 g, h1, h4 =>
    have hg := shape_app h1
    simp only [shape, Bool.and_eq_true] at hg
    rw [fmS_node, fm1_hd] at h4
    simp only [List.cons_append] at h4
    injection h4 with h4 _
    exact absurd h4.symm (hd_not (txN_kind (nodeB_txN hg.1.1.2)))
end
end Go.Proofs.YtaiijnepeccllaaGreat

namespace Go.Proofs.YtaiijnepeccllaaGreat
set_option linter.unusedVariables false
open Go.RowKit Go.Maps

abbrev Kv := ByteArray × Value
/-- how an element of any kind reads: as itself -/
def anyElem (v : Value) : Option (DataW Value × List MemPlace) := some (.held v, [])
def entV (f : Kv) : Lit × DataW Value := (.string f.1.data.toList, .held f.2)
/-- no key stands twice -/
def OnceV (gs : List Kv) : Prop := gs.Pairwise fun a b => a.1 ≠ b.1
/-- one put in, in whatever place -/
def putV (f : Kv) (gs : List Kv) : List Kv := f :: gs.filter fun g => decide (g.1 ≠ f.1)
/-- one struck out -/
def delV (p : ByteArray) (gs : List Kv) : List Kv := gs.filter fun g => decide (g.1 ≠ p)
theorem mem_putV {f g : Kv} {gs : List Kv} : g ∈ putV f gs ↔ g = f ∨ (g ∈ gs ∧ g.1 ≠ f.1) := by simp [putV]
theorem mem_delV {p : ByteArray} {g : Kv} {gs : List Kv} : g ∈ delV p gs ↔ g ∈ gs ∧ g.1 ≠ p := by simp [delV]
theorem putV_once {f : Kv} {gs : List Kv} (h : OnceV gs) : OnceV (putV f gs) :=
  List.pairwise_cons.2 ⟨fun g hg => by have := (List.mem_filter.1 hg).2; simp at this; exact fun e => this e.symm, List.Pairwise.filter _ h⟩
theorem OnceV.inj {gs : List Kv} (h : OnceV gs) {f g : Kv} (hf : f ∈ gs) (hg : g ∈ gs) (he : f.1 = g.1) : f = g := by
  induction gs with
  | nil => cases hf
  | cons x gs ih =>
    obtain ⟨h1, h2⟩ := List.pairwise_cons.1 h
    rcases List.mem_cons.1 hf with e1 | m1 <;> rcases List.mem_cons.1 hg with e2 | m2
    · rw [e1, e2]
    · subst e1; exact absurd he (h1 _ m2)
    · subst e2; exact absurd he.symm (h1 _ m1)
    · exact ih h2 m1 m2
/-- the map D holds just these -/
def RepV (D : DataW Value) (gs : List Kv) : Prop := ∃ es, D = .map es ∧ es.Perm (gs.map entV) ∧ OnceV gs
theorem repV_empty : RepV (.map []) [] := ⟨[], rfl, .nil, List.Pairwise.nil⟩
theorem entV_filter (p : ByteArray) (gs : List Kv) : ((gs.map entV).filter fun e => !e.1.sameKey (.string p.data.toList)) = (delV p gs).map entV := by
  unfold delV
  rw [List.filter_map]
  congr 1
  refine List.filter_congr fun g _ => ?_
  show (!(Lit.string g.1.data.toList).sameKey _) = _
  rw [sameKey_str]
  by_cases h : g.1 = p
  · simp [h]
  · have : ¬ g.1.data.toList = p.data.toList := fun e => h (bytes_ext e)
    simp only [this, h, decide_false, Bool.not_false, ne_eq, not_false_eq_true, decide_true]
theorem RepV.put {D : DataW Value} {gs : List Kv} (h : RepV D gs) (p : ByteArray) (v : Value) : RepV (D.put (.string p.data.toList) (.held v)) (putV (p, v) gs) := by
  obtain ⟨es, rfl, h1, h2⟩ := h
  refine ⟨_, rfl, (insert_perm _ _).trans ?_, putV_once h2⟩
  have h3 := h1.filter fun e => !e.1.sameKey (.string p.data.toList)
  rw [entV_filter] at h3
  exact h3.cons _
theorem RepV.del {D : DataW Value} {gs : List Kv} (h : RepV D gs) (p : ByteArray) : RepV (D.del (.string p.data.toList)) (delV p gs) := by
  obtain ⟨es, rfl, h1, h2⟩ := h
  refine ⟨_, rfl, ?_, List.Pairwise.filter _ h2⟩
  have h3 := h1.filter fun e => !e.1.sameKey (.string p.data.toList)
  rwa [entV_filter] at h3
theorem RepV.has {D : DataW Value} {gs : List Kv} (h : RepV D gs) (p : ByteArray) : Maps.has D (.string p.data.toList) = gs.any fun g => decide (g.1 = p) := by
  obtain ⟨es, rfl, h1, _⟩ := h
  rw [has_eq, h1.any_eq, List.any_map]
  congr 1
  funext g
  show (Lit.string g.1.data.toList).sameKey (.string p.data.toList) = decide (g.1 = p)
  rw [sameKey_str]
  by_cases hg : g.1 = p
  · simp [hg]
  · have : ¬ g.1.data.toList = p.data.toList := fun e => hg (bytes_ext e)
    simp [hg, this]
theorem atKey_some {H : Type} {es : List (Lit × DataW H)} {k : Lit} {z : DataW H} {e : Lit × DataW H} (h : es.find? (fun e => e.1.sameKey k) = some e) : (DataW.map es).atKey k z = e.2 := by unfold DataW.atKey; simp only [h]
theorem atKey_none {H : Type} {es : List (Lit × DataW H)} {k : Lit} {z : DataW H} (h : es.find? (fun e => e.1.sameKey k) = none) : (DataW.map es).atKey k z = z := by unfold DataW.atKey; simp only [h]
theorem RepV.at_ {D : DataW Value} {gs : List Kv} (h : RepV D gs) {p : ByteArray} {v : Value} (hm : (p, v) ∈ gs) (z : DataW Value) : D.atKey (.string p.data.toList) z = .held v := by
  obtain ⟨es, rfl, h1, h2⟩ := h
  cases hf : es.find? (fun e => e.1.sameKey (.string p.data.toList)) with
  | none =>
    rw [List.find?_eq_none] at hf
    have := hf (entV (p, v)) (h1.mem_iff.2 (List.mem_map.2 ⟨_, hm, rfl⟩))
    simp [entV, sameKey_str] at this
  | some e =>
    have hk := List.find?_some hf
    obtain ⟨g, hg, rfl⟩ := List.mem_map.1 (h1.mem_iff.1 (List.mem_of_find?_eq_some hf))
    simp [entV, sameKey_str] at hk
    rw [atKey_some hf]
    obtain rfl : g = (p, v) := h2.inj hg hm (bytes_ext (by simpa using hk))
    rfl
theorem RepV.none_ {D : DataW Value} {gs : List Kv} (h : RepV D gs) {p : ByteArray} (hm : ∀ g ∈ gs, g.1 ≠ p) (z : DataW Value) : D.atKey (.string p.data.toList) z = z := by
  obtain ⟨es, rfl, h1, h2⟩ := h
  cases hf : es.find? (fun e => e.1.sameKey (.string p.data.toList)) with
  | none => exact atKey_none hf
  | some e =>
    have hk := List.find?_some hf
    obtain ⟨g, hg, rfl⟩ := List.mem_map.1 (h1.mem_iff.1 (List.mem_of_find?_eq_some hf))
    simp [entV, sameKey_str] at hk
    exact absurd (bytes_ext (by simpa using hk)) (hm g hg)
theorem run_makeMap_n {P : Program} (t k e : TypeId) (ht : P.underlying t = some (.map k e)) (n : Nat) (w : World) : (Instr.makeMap t (some (.int .i64 (n : Int)))).run P w = .ok (.map (some w.heap.size)) (w.alloc (.map #[] 0)) := by
  simp [Instr.makeMap, run_underlying ht, Result.andThen, asInt, newObj]
  rfl
end Go.Proofs.YtaiijnepeccllaaGreat

namespace Go.Proofs.YtaiijnepeccllaaGreat
open Go.RowKit Go.Maps Go.Sort Go.Shelf

def lyKeys_ren : Go.Shelf.Ren := ⟨fun | 7 => 58 | 10 => 67 | n => n, fun | 23 => 47 | 26 => 9 | 3 => 26 | 28 => 83 | 0 => 0 | 27 => 82 | 33 => 78 | 4 => 4 | n => n, fun | n => n⟩
theorem lyKeys : Go.Proofs.SlLaysZ.n7 Tryz.prog lyKeys_ren := {
  mixed := by kernel_rfl
  f7 := ⟨Tryz.f58.name, by decide, Tryz.func58.trans (congrArg some (by kernel_rfl))⟩
  f10 := ⟨Tryz.f67.name, by decide, Tryz.func67.trans (congrArg some (by kernel_rfl))⟩
  t0 := Tryz.underlying0
  a0 := Tryz.isAgg0
  z0 := Tryz.sizeOf0
  v0 := Tryz.zeroValue0
  t4 := Tryz.underlying4
  a4 := Tryz.isAgg4
  z4 := Tryz.sizeOf4
  v4 := Tryz.zeroValue4
  t23 := Tryz.underlying47
  a23 := Tryz.isAgg47
  z23 := Tryz.sizeOf47
  v23 := Tryz.zeroValue47
  t26 := Tryz.underlying9
  a26 := Tryz.isAgg9
  z26 := Tryz.sizeOf9
  v26 := Tryz.zeroValue9
  t27 := Tryz.underlying82
  a27 := Tryz.isAgg82
  z27 := Tryz.sizeOf82
  v27 := Tryz.zeroValue82
  t28 := Tryz.underlying83
  a28 := Tryz.isAgg83
  z28 := Tryz.sizeOf83
  v28 := Tryz.zeroValue83
  t33 := Tryz.underlying78
  a33 := Tryz.isAgg78
  z33 := Tryz.sizeOf78
  v33 := Tryz.zeroValue78 }
def lySorted_ren : Go.Shelf.Ren := ⟨fun | 6 => 57 | 8 => 65 | 9 => 66 | 11 => 79 | 13 => 81 | 12 => 80 | 23 => 97 | 24 => 98 | 14 => 88 | 15 => 89 | 16 => 90 | 17 => 91 | 18 => 92 | 19 => 93 | 20 => 94 | 21 => 95 | 22 => 96 | 25 => 105 | 26 => 106 | 27 => 107 | 28 => 108 | 29 => 109 | 30 => 110 | 31 => 116 | n => n, fun | 26 => 9 | 28 => 83 | 24 => 80 | 0 => 0 | 3 => 3 | 37 => 110 | 48 => 128 | 50 => 130 | 4 => 4 | 40 => 120 | 39 => 119 | 45 => 125 | 5 => 5 | 9 => 9 | 51 => 135 | 55 => 139 | 57 => 150 | 58 => 151 | 33 => 78 | n => n, fun | n => n⟩
theorem lySorted : Go.Proofs.SlLaysZ.n6 Tryz.prog lySorted_ren := {
  mixed := by kernel_rfl
  f6 := ⟨Tryz.f57.name, by decide, Tryz.func57.trans (congrArg some (by kernel_rfl))⟩
  f8 := ⟨Tryz.f65.name, by decide, Tryz.func65.trans (congrArg some (by kernel_rfl))⟩
  f11 := ⟨Tryz.f79.name, by decide, Tryz.func79.trans (congrArg some (by kernel_rfl))⟩
  t0 := Tryz.underlying0
  a0 := Tryz.isAgg0
  z0 := Tryz.sizeOf0
  v0 := Tryz.zeroValue0
  t24 := Tryz.underlying80
  a24 := Tryz.isAgg80
  z24 := Tryz.sizeOf80
  v24 := Tryz.zeroValue80
  t26 := Tryz.underlying9
  a26 := Tryz.isAgg9
  z26 := Tryz.sizeOf9
  v26 := Tryz.zeroValue9
  t28 := Tryz.underlying83
  a28 := Tryz.isAgg83
  z28 := Tryz.sizeOf83
  v28 := Tryz.zeroValue83
  i26 := by kernel_rfl }
def lySort_ren : Go.Shelf.Ren := ⟨fun | 6 => 66 | 8 => 81 | 9 => 80 | 19 => 97 | 20 => 98 | 21 => 88 | 22 => 89 | 23 => 90 | 24 => 91 | 25 => 92 | 26 => 93 | 27 => 94 | 28 => 95 | 29 => 96 | 36 => 105 | 31 => 106 | 32 => 107 | 37 => 108 | 38 => 109 | 39 => 110 | 41 => 116 | n => n, fun | 27 => 80 | 29 => 9 | 3 => 3 | 32 => 110 | 26 => 80 | 0 => 0 | 44 => 128 | 46 => 130 | 4 => 4 | 36 => 120 | 35 => 119 | 41 => 125 | 5 => 5 | 9 => 9 | 53 => 135 | 57 => 139 | 63 => 150 | 64 => 151 | n => n, fun | n => n⟩
theorem lySort : Go.Proofs.SlLaysM.n6 Tryz.prog lySort_ren := {
  mixed := by kernel_rfl
  f6 := ⟨Tryz.f66.name, by decide, Tryz.func66.trans (congrArg some (by kernel_rfl))⟩
  f8 := Tryz.func81.trans (congrArg some (by kernel_rfl))
  f9 := ⟨Tryz.f80.name, by decide, Tryz.func80.trans (congrArg some (by kernel_rfl))⟩
  f19 := Tryz.func97.trans (congrArg some (by kernel_rfl))
  f20 := Tryz.func98.trans (congrArg some (by kernel_rfl))
  f21 := ⟨Tryz.f88.name, by decide, Tryz.func88.trans (congrArg some (by kernel_rfl))⟩
  f22 := ⟨Tryz.f89.name, by decide, Tryz.func89.trans (congrArg some (by kernel_rfl))⟩
  f23 := ⟨Tryz.f90.name, by decide, Tryz.func90.trans (congrArg some (by kernel_rfl))⟩
  f24 := ⟨Tryz.f91.name, by decide, Tryz.func91.trans (congrArg some (by kernel_rfl))⟩
  f25 := ⟨Tryz.f92.name, by decide, Tryz.func92.trans (congrArg some (by kernel_rfl))⟩
  f26 := ⟨Tryz.f93.name, by decide, Tryz.func93.trans (congrArg some (by kernel_rfl))⟩
  f27 := ⟨Tryz.f94.name, by decide, Tryz.func94.trans (congrArg some (by kernel_rfl))⟩
  f28 := ⟨Tryz.f95.name, by decide, Tryz.func95.trans (congrArg some (by kernel_rfl))⟩
  f29 := ⟨Tryz.f96.name, by decide, Tryz.func96.trans (congrArg some (by kernel_rfl))⟩
  f31 := Tryz.func106.trans (congrArg some (by kernel_rfl))
  f32 := Tryz.func107.trans (congrArg some (by kernel_rfl))
  f36 := ⟨Tryz.f105.name, by decide, Tryz.func105.trans (congrArg some (by kernel_rfl))⟩
  f37 := ⟨Tryz.f108.name, by decide, Tryz.func108.trans (congrArg some (by kernel_rfl))⟩
  f38 := ⟨Tryz.f109.name, by decide, Tryz.func109.trans (congrArg some (by kernel_rfl))⟩
  f39 := ⟨Tryz.f110.name, by decide, Tryz.func110.trans (congrArg some (by kernel_rfl))⟩
  f41 := ⟨Tryz.f116.name, by decide, Tryz.func116.trans (congrArg some (by kernel_rfl))⟩
  t0 := Tryz.underlying0
  a0 := Tryz.isAgg0
  z0 := Tryz.sizeOf0
  v0 := Tryz.zeroValue0
  t3 := Tryz.underlying3
  a3 := Tryz.isAgg3
  z3 := Tryz.sizeOf3
  v3 := Tryz.zeroValue3
  t4 := Tryz.underlying4
  a4 := Tryz.isAgg4
  z4 := Tryz.sizeOf4
  v4 := Tryz.zeroValue4
  t5 := Tryz.underlying5
  a5 := Tryz.isAgg5
  z5 := Tryz.sizeOf5
  v5 := Tryz.zeroValue5
  t9 := Tryz.underlying9
  a9 := Tryz.isAgg9
  z9 := Tryz.sizeOf9
  v9 := Tryz.zeroValue9
  t26 := Tryz.underlying80
  a26 := Tryz.isAgg80
  z26 := Tryz.sizeOf80
  v26 := Tryz.zeroValue80
  t27 := Tryz.underlying80
  a27 := Tryz.isAgg80
  z27 := Tryz.sizeOf80
  v27 := Tryz.zeroValue80
  t29 := Tryz.underlying9
  a29 := Tryz.isAgg9
  z29 := Tryz.sizeOf9
  v29 := Tryz.zeroValue9
  t32 := Tryz.underlying110
  a32 := Tryz.isAgg110
  z32 := Tryz.sizeOf110
  v32 := Tryz.zeroValue110
  t35 := Tryz.underlying119
  a35 := Tryz.isAgg119
  z35 := Tryz.sizeOf119
  v35 := Tryz.zeroValue119
  t36 := Tryz.underlying120
  a36 := Tryz.isAgg120
  z36 := Tryz.sizeOf120
  v36 := Tryz.zeroValue120
  t41 := Tryz.underlying125
  a41 := Tryz.isAgg125
  z41 := Tryz.sizeOf125
  v41 := Tryz.zeroValue125
  t44 := Tryz.underlying128
  a44 := Tryz.isAgg128
  z44 := Tryz.sizeOf128
  v44 := Tryz.zeroValue128
  t46 := Tryz.underlying130
  a46 := Tryz.isAgg130
  z46 := Tryz.sizeOf130
  v46 := Tryz.zeroValue130
  t53 := Tryz.underlying135
  a53 := Tryz.isAgg135
  z53 := Tryz.sizeOf135
  v53 := Tryz.zeroValue135
  t57 := Tryz.underlying139
  a57 := Tryz.isAgg139
  z57 := Tryz.sizeOf139
  v57 := Tryz.zeroValue139
  t63 := Tryz.underlying150
  a63 := Tryz.isAgg150
  z63 := Tryz.sizeOf150
  v63 := Tryz.zeroValue150
  t64 := Tryz.underlying151
  a64 := Tryz.isAgg151
  z64 := Tryz.sizeOf151
  v64 := Tryz.zeroValue151 }
theorem sorts_in_ (m : Nat) : AnyZ.SortsIn Tryz.prog lySorted_ren Fence.wide m :=
  ⟨fun blk off cap ss W hH hblk hsz => callsIn_wide.2 (AnyM.slices_Sort_string lySort blk off cap ss W hH hblk hsz),
   fun p cap W => callsIn_wide.2 (AnyM.slices_Sort_string_none lySort p cap W)⟩

theorem keys_in_ (mb : Option Nat) (W : World) : CallsIn Fence.wide 5 Tryz.prog 58 #[.map mb] W fun e w' => e = .returned (.func (.func 67) #[] #[.pointer (some ⟨W.heap.size, 0, none⟩)]) ∧ w' = W.alloc (.cells #[.map mb] 47) :=
  AnyZ.keys_in lyKeys Fence.wide 5 trivial rfl mb W

set_option maxHeartbeats 1000000 in
theorem sorted_in_ {H : Type} (b nn : Nat) (D0 : DataW H) (R : Value → Option (DataW H × List MemPlace)) (w : World) (hown : w.ownsMap Tryz.prog 9 R b nn D0) (hmax : Maps.size D0 ≤ maxLen) (hbytes : Maps.size D0 * 16 ≤ 140737488355328) :
    CallsIn Fence.wide 5 Tryz.prog 57 #[.func (.func 67) #[] #[.pointer (some ⟨w.heap.size, 0, none⟩)]] (w.alloc (.cells #[.map (some b)] 47)) fun e w' => ∃ (v : Value) (ss : List (List UInt8)), e = .returned v ∧ ss.Perm (strKeys D0) ∧
      w'.ownsRow (w.alloc (.cells #[.map (some b)] 47)).heap.size 9 1 v ss.length ((ss.mergeSort (fun x y => decide (x ≤ y))).map encStr) ∧ (v = .slice none 0 0 ↔ ss = []) ∧ Below (w.alloc (.cells #[.map (some b)] 47)).heap.size (w.alloc (.cells #[.map (some b)] 47)) w' := by
  have hbl := hown.lt
  have hseq : SeqGives Fence.wide 2 Tryz.prog 67 #[.pointer (some ⟨w.heap.size, 0, none⟩)] encStr (fun ss => ss.Perm (strKeys D0)) (Maps.size D0) (w.alloc (.cells #[.map (some b)] 47)) :=
    AnyZ.keys_gives (ρ := lyKeys_ren) { lyKeys with } Fence.wide _ trivial rfl (by omega) w.heap.size b nn D0 _ (by simp) (by simp) (by
      obtain ⟨es, clock, hb, Ft, hs, hD⟩ := hown
      exact ⟨es, clock, (Below.heap_alloc _ _ b hbl).trans hb, Ft, hs, hD⟩)
  exact AnyZ.sorted_in lySorted Fence.wide 5 trivial trivial trivial trivial rfl (by omega) (sorts_in_ _) (enters_of Tryz.func66 (by kernel_rfl) rfl) 67 #[.pointer (some ⟨w.heap.size, 0, none⟩)] trivial (enters_of Tryz.func67 (by kernel_rfl) rfl) _ _ hmax hbytes _ hseq


theorem keys_any (mb : Option Nat) (W : World) : Calls Tryz.prog 58 #[.map mb] W fun e w' => e = .returned (.func (.func 67) #[] #[.pointer (some ⟨W.heap.size, 0, none⟩)]) ∧ w' = W.alloc (.cells #[.map mb] 47) :=
  callsIn_wide.1 (keys_in_ mb W)
theorem sorted_any {H : Type} (b nn : Nat) (D0 : DataW H) (R : Value → Option (DataW H × List MemPlace)) (w : World) (hown : w.ownsMap Tryz.prog 9 R b nn D0) (hmax : Maps.size D0 ≤ maxLen) (hbytes : Maps.size D0 * 16 ≤ 140737488355328) :
    Calls Tryz.prog 57 #[.func (.func 67) #[] #[.pointer (some ⟨w.heap.size, 0, none⟩)]] (w.alloc (.cells #[.map (some b)] 47)) fun e w' => ∃ (v : Value) (ss : List (List UInt8)), e = .returned v ∧ ss.Perm (strKeys D0) ∧
      w'.ownsRow (w.alloc (.cells #[.map (some b)] 47)).heap.size 9 1 v ss.length ((ss.mergeSort (fun x y => decide (x ≤ y))).map encStr) ∧ (v = .slice none 0 0 ↔ ss = []) ∧ Below (w.alloc (.cells #[.map (some b)] 47)).heap.size (w.alloc (.cells #[.map (some b)] 47)) w' :=
  callsIn_wide.1 (sorted_in_ b nn D0 R w hown hmax hbytes)

end Go.Proofs.YtaiijnepeccllaaGreat

namespace Go.Proofs.YtaiijnepeccllaaGreat
set_option linter.unusedVariables false
open Go.RowKit

/-- a file put in at its place -/
def insF (f : Fl) : List Fl → List Fl
  | [] => [f]
  | x :: l => if sLess x.1 f.1 = true then x :: insF f l else putU f (x :: l)
theorem put_true (f : Fl) : ∀ (l acc : List Fl), l.foldl (putStep f) (acc, true) = (acc ++ l.filter (fun g => decide (g.1 ≠ f.1)), true)
  | [], acc => by simp
  | x :: l, acc => by
    rw [List.foldl_cons]
    by_cases h : x.1 = f.1
    · rw [show putStep f (acc, true) x = (acc, true) from by simp [putStep, h], put_true f l]
      simp [h]
    · rw [show putStep f (acc, true) x = (acc ++ [x], true) from by simp [putStep, h], put_true f l]
      simp [h]
theorem put_false (f : Fl) : ∀ (l acc : List Fl), (if (l.foldl (putStep f) (acc, false)).2 = true then (l.foldl (putStep f) (acc, false)).1 else (l.foldl (putStep f) (acc, false)).1 ++ [f]) = acc ++ insF f l
  | [], acc => by simp [insF]
  | x :: l, acc => by
    rw [List.foldl_cons, insF]
    by_cases h : sLess x.1 f.1 = true
    · have hne : ¬ x.1 = f.1 := sLess_ne h
      rw [show putStep f (acc, false) x = (acc ++ [x], false) from by simp [putStep, h, hne], put_false f l, if_pos h]
      simp
    · rw [if_neg h]
      have h' : sLess x.1 f.1 = false := by simpa using h
      by_cases hx : x.1 = f.1
      · rw [show putStep f (acc, false) x = (acc ++ [f], true) from by simp [putStep, hx, sLess_irrefl], put_true]
        simp [putU, hx]
      · rw [show putStep f (acc, false) x = (acc ++ [f] ++ [x], true) from by simp [putStep, h', hx], put_true]
        simp [putU, hx]
theorem putF_ins (f : Fl) (fs : List Fl) : putF f fs = insF f fs := by
  unfold putF putTo
  have := put_false f fs []
  simpa using this
theorem mem_insF {f g : Fl} {fs : List Fl} (h : g ∈ insF f fs) : g = f ∨ g ∈ fs := by
  induction fs with
  | nil => simp [insF] at h; exact .inl h
  | cons x l ih =>
    rw [insF] at h
    split at h
    · rcases List.mem_cons.1 h with rfl | h
      · exact .inr (by simp)
      · exact (ih h).imp id (List.mem_cons_of_mem _)
    · exact (mem_putU.1 h).imp id fun h => h.1
theorem insF_asc {f : Fl} {fs : List Fl} (h : Asc fs) : Asc (insF f fs) := by
  induction fs with
  | nil => exact List.pairwise_singleton _ _
  | cons x l ih =>
    obtain ⟨h1, h2⟩ := List.pairwise_cons.1 h
    rw [insF]
    split
    · rename_i hx
      refine List.pairwise_cons.2 ⟨fun y hy => ?_, ih h2⟩
      rcases mem_insF hy with rfl | hy
      · exact hx
      · exact h1 y hy
    · rename_i hx
      refine List.pairwise_cons.2 ⟨fun y hy => ?_, h.filter _⟩
      obtain ⟨hy1, hy2⟩ := List.mem_filter.1 hy
      have hne : y.1 ≠ f.1 := by simpa using hy2
      have hx' : sLess x.1 f.1 = false := by simpa using hx
      rcases List.mem_cons.1 hy1 with rfl | hy
      · exact sLess_total hx' hne
      · by_cases he : x.1 = f.1
        · rw [← he]; exact h1 y hy
        · exact sLess_trans (sLess_total hx' he) (h1 y hy)
theorem insF_perm {f : Fl} {fs : List Fl} (h : Asc fs) : (insF f fs).Perm (putU f fs) := by
  induction fs with
  | nil => exact .refl _
  | cons x l ih =>
    obtain ⟨h1, h2⟩ := List.pairwise_cons.1 h
    rw [insF]
    split
    · rename_i hx
      have hne : ¬ x.1 = f.1 := sLess_ne hx
      unfold putU
      rw [List.filter_cons_of_pos (by simpa using hne)]
      exact ((ih h2).cons x).trans (.swap f x _)
    · exact .refl _
theorem putF_asc {f : Fl} {fs : List Fl} (h : Asc fs) : Asc (putF f fs) := by rw [putF_ins]; exact insF_asc h
theorem putF_perm {f : Fl} {fs : List Fl} (h : Asc fs) : (putF f fs).Perm (putU f fs) := by rw [putF_ins]; exact insF_perm h
theorem srtF_put {f : Fl} {fs gs : List Fl} (h : Asc fs) (hp : gs.Perm (putU f fs)) : srtF gs = putF f fs :=
  srtF_eq ((putU_once h.once).perm hp.symm) (hp.trans (putF_perm h).symm) (putF_asc h)
theorem srtF_del {p : ByteArray} {fs gs : List Fl} (h : Asc fs) (hp : gs.Perm (delU p fs)) : srtF gs = delU p fs :=
  srtF_eq ((h.filter _).once.perm hp.symm) hp (h.filter _)

/-! ### putting and striking, together -/
section
variable {f g : Fl} {fs : List Fl}
theorem mem_putF (h : Asc fs) {x : Fl} : x ∈ putF f fs ↔ x = f ∨ (x ∈ fs ∧ x.1 ≠ f.1) := by
  rw [(putF_perm h).mem_iff, mem_putU]
theorem putU_twice_same (he : f.1 = g.1) : putU g (putU f fs) = putU g fs := by
  unfold putU
  rw [List.filter_cons_of_neg (by simp [he]), List.filter_filter]
  congr 2
  funext x
  simp [he]
theorem putF_twice (h : Asc fs) (he : f.1 = g.1) : putF g (putF f fs) = putF g fs := by
  refine (putF_asc (putF_asc h)).eq (putF_asc h) ?_
  have h1 := (putF_perm (f := g) (putF_asc (f := f) h)).trans (putU_perm (putF_perm h))
  rw [putU_twice_same he] at h1
  exact h1.trans (putF_perm h).symm
theorem putU_swap (he : f.1 ≠ g.1) : (putU g (putU f fs)).Perm (putU f (putU g fs)) := by
  unfold putU
  rw [List.filter_cons_of_pos (by simpa using he), List.filter_cons_of_pos (by simpa using he.symm), List.filter_filter, List.filter_filter]
  refine (List.Perm.swap _ _ _).trans ?_
  rw [show (fun x : Fl => decide (x.1 ≠ g.1) && decide (x.1 ≠ f.1)) = fun x : Fl => decide (x.1 ≠ f.1) && decide (x.1 ≠ g.1) from funext fun x => Bool.and_comm _ _]
theorem putF_swap (h : Asc fs) (he : f.1 ≠ g.1) : putF g (putF f fs) = putF f (putF g fs) := by
  refine (putF_asc (putF_asc h)).eq (putF_asc (putF_asc h)) ?_
  exact ((putF_perm (putF_asc h)).trans (putU_perm (putF_perm h))).trans ((putU_swap he).trans ((putU_perm (putF_perm h).symm).trans (putF_perm (putF_asc h)).symm))
theorem putF_len_same (h : Asc fs) (hm : ∃ x ∈ fs, x.1 = f.1) : (putF f fs).length = fs.length := by
  rw [(putF_perm h).length_eq]
  obtain ⟨x, hx, he⟩ := hm
  have : fs.Perm (x :: delU f.1 fs) := by
    refine (List.perm_ext_iff_of_nodup (h.once.imp fun hne e => hne (by rw [e])) ?_).2 fun y => ?_
    · exact List.nodup_cons.2 ⟨fun hd => (mem_delU.1 hd).2 he, ((h.filter _).once).imp fun hne e => hne (by rw [e])⟩
    · rw [List.mem_cons, mem_delU]
      constructor
      · intro hy
        by_cases hyf : y.1 = f.1
        · exact .inl (h.once.inj hy hx (by rw [hyf, he]))
        · exact .inr ⟨hy, hyf⟩
      · rintro (rfl | ⟨hy, _⟩)
        · exact hx
        · exact hy
  rw [this.length_eq]
  rfl
theorem putF_len_new (h : Asc fs) (hn : ∀ x ∈ fs, x.1 ≠ f.1) : (putF f fs).length = fs.length + 1 := by
  rw [(putF_perm h).length_eq, (putU_new hn).length_eq, List.length_append]; rfl
theorem putF_len (h : Asc fs) : fs.length ≤ (putF f fs).length ∧ (putF f fs).length ≤ fs.length + 1 := by
  by_cases hm : ∃ x ∈ fs, x.1 = f.1
  · rw [putF_len_same h hm]; omega
  · rw [putF_len_new h fun x hx e => hm ⟨x, hx, e⟩]; omega
/-- a list with one put in is valid just where it is not too long and the file is one -/
theorem valid_put (h : validB fs = true) : validB (putF f fs) = true ↔ ((putF f fs).length ≤ 12 ∧ pathB f.1 = true ∧ textB f.2 = true) := by
  obtain ⟨h1, h2, h3⟩ := validB_iff.1 h
  rw [validB_iff]
  refine and_congr_right fun _ => ⟨fun h4 => h4.1 f ((mem_putF h3).2 (.inl rfl)), fun h4 => ⟨fun x hx => ?_, putF_asc h3⟩⟩
  rcases (mem_putF h3).1 hx with rfl | ⟨hx, _⟩
  · exact h4
  · exact h2 x hx
theorem delU_put (h : Asc fs) (hn : ∀ x ∈ fs, x.1 ≠ f.1) : delU f.1 (putF f fs) = fs := by
  refine ((putF_asc h).filter _).eq h ?_
  refine (delU_perm (putF_perm h)).trans ?_
  unfold delU putU
  rw [List.filter_cons_of_neg (by simp), List.filter_filter, List.filter_eq_self.2 fun x hx => by simpa using hn x hx]
theorem put_delU (h : Asc fs) (hm : f ∈ fs) : putF f (delU f.1 fs) = fs := by
  have ha : Asc (delU f.1 fs) := h.filter _
  refine (putF_asc ha).eq h ?_
  refine (putF_perm ha).trans ?_
  refine (List.perm_ext_iff_of_nodup ((putU_once ha.once).imp fun hne e => hne (by rw [e])) (h.once.imp fun hne e => hne (by rw [e]))).2 fun y => ?_
  rw [mem_putU, mem_delU]
  constructor
  · rintro (rfl | ⟨⟨hy, _⟩, _⟩)
    · exact hm
    · exact hy
  · intro hy
    by_cases he : y.1 = f.1
    · exact .inl (h.once.inj hy hm he)
    · exact .inr ⟨⟨hy, he⟩, he⟩
theorem valid_del {p : ByteArray} (h : validB fs = true) : validB (delU p fs) = true := by
  obtain ⟨h1, h2, h3⟩ := validB_iff.1 h
  exact validB_iff.2 ⟨Nat.le_trans (List.length_filter_le _ _) h1, fun x hx => h2 x (mem_delU.1 hx).1, h3.filter _⟩
/-- what is found behind a put -/
theorem find_put (h : Asc fs) (p : ByteArray) : findF (putF f fs) p = if f.1 = p then (f.2, true) else findF fs p := by
  have ha := (putF_asc (f := f) h).once
  by_cases he : f.1 = p
  · subst he
    rw [if_pos rfl]
    exact findF_mem ha ((mem_putF h).2 (.inl rfl))
  · rw [if_neg he]
    rcases findF_cases fs p with ⟨t, hm, hf⟩ | ⟨hn, hf⟩
    · rw [hf]
      exact findF_mem ha ((mem_putF h).2 (.inr ⟨hm, fun e => he e.symm⟩))
    · rw [hf]
      refine findF_not fun x hx => ?_
      rcases (mem_putF h).1 hx with rfl | ⟨hx, _⟩
      · exact he
      · exact hn x hx
theorem find_del (p : ByteArray) : findF (delU p fs) p = (.empty, false) := findF_not fun x hx => (mem_delU.1 hx).2
end
end Go.Proofs.YtaiijnepeccllaaGreat

namespace Go.Proofs.YtaiijnepeccllaaGreat
set_option linter.unusedVariables false
open Go.RowKit Go.Maps

theorem mlaw : Keyed Tryz.prog 9 := string_keyed Tryz.underlying9
theorem mzero (w : World) : (zeroValue 9).run Tryz.prog w = .ok (.string .empty) w := by kernel_rfl

/-- block b is a map of at most n entries that holds just the files gs -/
def MapAt (w : World) (b n : Nat) (gs : List Fl) : Prop := ∃ D : DataW Unit, w.ownsMap Tryz.prog 9 (plainElem Tryz.prog 9) b n D ∧ Rep D gs
theorem MapAt.kept {w w' : World} {b n : Nat} {gs : List Fl} {row : Option Nat} (h : MapAt w b n gs) (hg : w.grownBy w' row) (hne : some b ≠ row) : MapAt w' b n gs := by
  obtain ⟨D, h1, h2⟩ := h
  exact ⟨D, h1.kept hg hne, h2⟩
theorem MapAt.alloc {w : World} {b n : Nat} {gs : List Fl} (h : MapAt w b n gs) (o : Obj) : MapAt (w.alloc o) b n gs := h.kept (World.grownBy_alloc w o none) (by simp)
theorem MapAt.perm {w : World} {b n : Nat} {gs hs : List Fl} (h : MapAt w b n gs) (hp : gs.Perm hs) : MapAt w b n hs := by
  obtain ⟨D, h1, h2⟩ := h
  exact ⟨D, h1, h2.perm hp⟩
theorem MapAt.lt {w : World} {b n : Nat} {gs : List Fl} (h : MapAt w b n gs) : b < w.heap.size := let ⟨_, h1, _⟩ := h; h1.lt
theorem MapAt.length {w : World} {b n : Nat} {gs : List Fl} (h : MapAt w b n gs) : gs.length ≤ n := by
  obtain ⟨D, h1, h2⟩ := h
  rw [← h2.size]; exact h1.size_le

/-- is a file with this path on the list? -/
def hasF (gs : List Fl) (x : ByteArray) : Bool := gs.any fun g => decide (g.1 = x)

theorem once_take {fs : List Fl} (h : Once fs) (k : Nat) : Once (fs.take k) := List.Pairwise.take h
theorem putU_take {fs : List Fl} {k : Nat} {p t : ByteArray} (h : Once fs) (hg : fs[k]? = some (p, t)) : (putU (p, t) (fs.take k)).Perm (fs.take (k + 1)) := by
  rw [List.take_add_one, hg]
  refine putU_new fun g hm => ?_
  have h2 := once_take h (k + 1)
  rw [List.take_add_one, hg] at h2
  exact (List.pairwise_append.1 h2).2.2 g hm (p, t) (by simp)

theorem srtF_length (gs : List Fl) : (srtF gs).length = gs.length := (srtF_perm gs).length_eq
theorem keysF_length (gs : List Fl) : ((srtF gs).map fun f => encStr f.1.data.toList).length = gs.length := by rw [List.length_map, srtF_length]

theorem wpList_lookup_own_str {H : Type} {P : Program} (w : World) {ops : Array Oper} {rest : List Oper} {o : Oper} {a : Act} {Q : Exit → Act → World → Prop}
    (hg : o.guard = none) (m x : Operand) (t : TypeId) (hop : o.op = Op.lookup t m x false)
    (k e : TypeId) (K : Keyed P k) (ht : P.underlying t = some (.map k e)) (he : P.underlying e = some .string) (hz : (zeroValue e).run P w = .ok (.string .empty) w) (b n : Nat) (D : DataW H)
    (hm : a.eval m = .map (some b)) (hown : w.ownsMap P k (plainElem P e) b n D) (key : Value) (kl : Lit) (hx : a.eval x = key) (hkey : keyOf P k key = some kl) (s : ByteArray) (hs : ∀ z, D.atKey kl z = .lit (.string s.data.toList))
    (hK : wpList P ops Q rest (a.put o.dst (.string s)) w) : wpList P ops Q (o :: rest) a w := by
  refine wpList_plain hg fun K' hK' => ?_
  obtain ⟨v, ps, hrun, hv⟩ := hown.lookup K ht hz (plainElem_string he (s := .empty) (by simp [maxLen])) hkey
  obtain ⟨s', rfl, hc, _⟩ := plainElem_string_inv he hv
  rw [hs] at hc
  have h1 : (DataW.lit (.string s.data.toList) : DataW H) = .lit (.string s'.data.toList) := congrArg Prod.fst hc
  obtain rfl : s = s' := bytes_ext (by simpa using h1)
  unfold Oper.wp
  simp [execOp, hop, hm, hx, hrun, Result.andThen]
  exact hK' _ _ hK

theorem keysF_get {gs : List Fl} {k : Nat} {p t : ByteArray} (h : (srtF gs)[k]? = some (p, t)) : ((srtF gs).map (encStr ∘ fun f => f.1.data.toList))[k]? = some (.string p) := by
  rw [List.getElem?_map, h]
  simp [encStr]

theorem mapkeys_le {w : World} {b n : Nat} {gs : List Fl} {D : DataW Unit} (h : w.ownsMap Tryz.prog 9 (plainElem Tryz.prog 9) b n D) (hr : Rep D gs) : ∀ f ∈ gs, f.1.size ≤ maxLen := fun f hf => by
  have := strKeys_le h Tryz.underlying9 f.1.data.toList (hr.keys.mem_iff.2 (List.mem_map.2 ⟨f, hf, rfl⟩))
  rwa [Array.length_toList] at this
theorem mgrown_trans {w w' w'' : World} {row : Option Nat} (h : w.grownBy w' row) (k : w'.grownBy w'' row) : w.grownBy w'' row :=
  ⟨k.os.trans h.os, k.tape.trans h.tape, k.output.trans h.output, Nat.le_trans h.size k.size, fun i hi hne => (k.block i (Nat.lt_of_lt_of_le hi h.size) hne).trans (h.block i hi hne)⟩

theorem own_below {H : Type} {P : Program} {k : TypeId} {R : Value → Option (DataW H × List MemPlace)} {w w' : World} {B b n : Nat} {D : DataW H} (h : w.ownsMap P k R b n D) (hB : Below B w w') (hb : b < B) : w'.ownsMap P k R b n D := by
  obtain ⟨es, clock, hh, r⟩ := h
  exact ⟨es, clock, (hB.block b hb).trans hh, r⟩
end Go.Proofs.YtaiijnepeccllaaGreat

namespace Go.Proofs.YtaiijnepeccllaaGreat
set_option linter.unusedVariables false
open Go.ChangeShapes Go.WideShapes Go.Deep Go.RowKit Go.Joins
open Go.ChangeMaps (open_string shut_string)

/-- a slice of bytes that came in: nil, or a row of 'cap' cells, the numbers zs -/
def IsRow (k : IntKind) (w : World) (a : Option Addr) (len cap : Nat) (zs : List Int) : Prop :=
  (a = none ∧ len = 0 ∧ cap = 0 ∧ zs = []) ∨
  ∃ x, a = some x ∧ len ≤ cap ∧ cap ≤ maxLen ∧ zs.length = cap ∧ (∀ i, i < zs.length → w.cell? (x.add i) = some (.int k (zs.getD i 0))) ∧ ∀ n ∈ zs, (Lit.int k n).wf = true

theorem open_bytes {H : Type} {enc : TypeId × Value → H} {P : Program} {W : World} {t e : TypeId} {a : Option Addr} {len cap : Nat} {d : DataW H} {p : List MemPlace}
    (ht : P.underlying t = some (.slice e)) (he : P.underlying e = some (.int .u8)) (h1 : P.cellsOf e = 1) (h : DataW.Trod enc P W 0 (fun _ => true) true t (.slice a len cap) d p) :
    ∃ zs, IsRow .u8 W a len cap zs := by
  obtain ⟨fuel, hf⟩ := h
  rcases open_ints ht he h1 hf with ⟨hcs, _⟩ | ⟨x, l, c, zs, hcs, _, hl, hm, hz, _, hcell, hwz⟩
  · simp [Value.cells] at hcs
    obtain ⟨rfl, rfl, rfl⟩ := hcs
    exact ⟨[], .inl ⟨rfl, rfl, rfl, rfl⟩⟩
  · simp [Value.cells] at hcs
    obtain ⟨rfl, rfl, rfl⟩ := hcs
    exact ⟨zs, .inr ⟨_, rfl, hl, hm, by simpa using hz, hcell, hwz⟩⟩


/-- a slice of structs of one-cell fields that came in, opened to its cells -/
theorem open_rows {H : Type} {enc : TypeId × Value → H} {P : Program} {w : World} {base : Nat} {sp : Nat → Bool} {held : Bool} {t e : TypeId} {fs : Array Field} {fuel : Nat} {cs : List Value} {x : DataW H × List MemPlace}
    (ht : P.underlying t = some (.slice e)) (he : P.underlying e = some (.struct fs)) (hone : oneCellFields P fs = true) (hC : P.cellsOf e = fs.size) (h : DataW.trod enc P w base sp held fuel t cs = some x) :
    cs = [.slice none 0 0] ∨
    ∃ (a : Addr) (len cap : Nat), cs = [.slice (some a) len cap] ∧ len ≤ cap ∧ cap ≤ maxLen ∧
      ∀ i, i < len → ∀ (j : Nat) (f : Field), fs[j]? = some f → ∃ (v : Value) (y : DataW H × List MemPlace) (n : Nat), w.cell? (a.add (i * fs.size + j)) = some v ∧ DataW.trod enc P w base sp held n f.type [v] = some y := by
  rcases open_slice ht h with ⟨h0, _⟩ | ⟨a, len, cap, m, n, D, Pl, hcs, hb, hl, hm, hmm, hx, hi⟩
  · exact .inl h0
  · refine .inr ⟨a, len, cap, hcs, hl, hm, fun i hil j f hj => ?_⟩
    have him : i < m := by rw [hmm]; split <;> omega
    obtain ⟨cs', hc, ht'⟩ := hi i him
    rw [hC] at hc
    obtain ⟨ys, n', hn', hy, hlen, hyl, hf⟩ := DataW.trod_struct he ht'
    obtain ⟨_, hcl, hat⟩ := World.cells?_some hc
    obtain ⟨ho, hk⟩ := hone_of hone j f hj
    have hjl : j < fs.size := (Array.getElem?_eq_some_iff.1 hj).1
    have hcell := hat j hjl
    have hv : cs'[j]? = some (cs'[j]'(by omega)) := List.getElem?_eq_getElem (by omega)
    have h1 := hf j f hj
    rw [ho, hk] at h1
    have hone' : (cs'.drop j).take 1 = [cs'[j]'(by omega)] := by
      rw [List.drop_eq_getElem_cons (by omega)]
      rfl
    rw [hone'] at h1
    have hys : ys[j]? = some (ys[j]'(by omega)) := List.getElem?_eq_getElem (by omega)
    exact ⟨_, _, n', by rw [← Go.Deep.add_add, hcell, hv], h1.trans hys⟩

theorem open_files {H : Type} {enc : TypeId × Value → H} {P : Program} {W : World} {t e : TypeId} {a : Option Addr} {len cap : Nat} {d : DataW H} {p : List MemPlace} {f0 f1 : Field}
    (ht : P.underlying t = some (.slice e)) (he : P.underlying e = some (.struct #[f0, f1])) (h0 : P.underlying f0.type = some .string) (h1 : P.underlying f1.type = some .string)
    (hone : oneCellFields P #[f0, f1] = true) (hC : P.cellsOf e = 2) (h : DataW.Trod enc P W 0 (fun _ => true) true t (.slice a len cap) d p) :
    ∃ fs, FilesAt W W.heap.size a len fs ∧ Fits fs ∧ len ≤ maxLen := by
  obtain ⟨fuel, hf⟩ := h
  rcases open_rows ht he hone hC hf with hcs | ⟨x, l, c, hcs, hl, hm, hcell⟩
  · simp [Value.cells] at hcs
    obtain ⟨rfl, rfl, rfl⟩ := hcs
    exact ⟨[], ⟨rfl, fun hn => absurd hn (by omega)⟩, fun f hf => by simp at hf, by unfold maxLen; omega⟩
  · simp [Value.cells] at hcs
    obtain ⟨rfl, rfl, rfl⟩ := hcs
    have hget : ∀ i, i < len → ∃ q r : ByteArray, W.cell? (x.add (i * 2)) = some (.string q) ∧ W.cell? (x.add (i * 2 + 1)) = some (.string r) ∧ q.size ≤ maxLen ∧ r.size ≤ maxLen := by
      intro i hi
      obtain ⟨v, y, n, hv, hy⟩ := hcell i hi 0 f0 rfl
      obtain ⟨v', y', n', hv', hy'⟩ := hcell i hi 1 f1 rfl
      obtain ⟨q, hq, _, hql⟩ := DataW.trod_string h0 hy
      obtain ⟨r, hr, _, hrl⟩ := DataW.trod_string h1 hy'
      simp at hq hr
      subst hq hr
      exact ⟨q, r, hv, hv', hql, hrl⟩
    let F : Nat → Fl := fun i => if hi : i < len then ((hget i hi).choose, (hget i hi).choose_spec.choose) else (.empty, .empty)
    have hF : ∀ i, i < len → W.cell? (x.add (i * 2)) = some (.string (F i).1) ∧ W.cell? (x.add (i * 2 + 1)) = some (.string (F i).2) ∧ (F i).1.size ≤ maxLen ∧ (F i).2.size ≤ maxLen := by
      intro i hi
      have h := (hget i hi).choose_spec.choose_spec
      simp only [F, dif_pos hi]
      exact h
    refine ⟨(List.range len).map F, ⟨by simp, fun hn => ?_⟩, ?_, by omega⟩
    · obtain ⟨b, off, spot⟩ := x
      have hc0 := (hF 0 hn).1
      have hspot : spot = none := by simpa [Addr.add] using World.cell?_spot hc0
      subst hspot
      refine ⟨b, off, rfl, World.block_lt_of_cell? W ⟨b, off, none⟩ (by simpa [Addr.add] using hc0), fun j u hu => ?_⟩
      obtain ⟨k, q, r, hk, hh⟩ := fcells_inv _ hu
      have hkl : k < len := by have := (List.getElem?_eq_some_iff.1 hk).1; simpa using this
      have hFk : F k = (q, r) := by simpa [hkl] using hk
      have hh2 := hF k hkl
      rw [hFk, add_none, add_none] at hh2
      rcases hh with ⟨rfl, rfl⟩ | ⟨rfl, rfl⟩
      · exact hh2.1
      · exact hh2.2.1
    · intro f hf
      simp only [List.mem_map, List.mem_range] at hf
      obtain ⟨k, hk, rfl⟩ := hf
      exact (hF k hk).2.2

theorem open_file {H : Type} {enc : TypeId × Value → H} {P : Program} {W : World} {r : Reach} {b0 : Nat} {t : TypeId} {v : Value} {d : DataW H} {p : List MemPlace} {f0 f1 : Field}
    (hs : P.underlying t = some (.struct #[f0, f1])) (h0 : P.underlying f0.type = some .string) (h1 : P.underlying f1.type = some .string)
    (hone : oneCellFields P #[f0, f1] = true) (hC : P.cellsOf t = 2) (hv : Value.okWide P W r b0 t v) (h : DataW.Trod enc P W 0 (fun _ => true) true t v d p) :
    ∃ q s : ByteArray, v = .agg #[.string q, .string s] ∧ q.size ≤ maxLen ∧ s.size ≤ maxLen := by
  obtain ⟨v0, v1, y0, y1, n, rfl, _, _, hy0, hy1⟩ := open_agg2 hs hone hC hv h
  obtain ⟨q, hq, _, hql⟩ := DataW.trod_string h0 hy0
  obtain ⟨s, hs', _, hsl⟩ := DataW.trod_string h1 hy1
  simp at hq hs'
  subst hq hs'
  exact ⟨q, s, rfl, hql, hsl⟩

end Go.Proofs.YtaiijnepeccllaaGreat

namespace Go.Proofs.YtaiijnepeccllaaGreat
set_option linter.unusedVariables false
open Go.ChangeShapes Go.WideShapes Go.Deep Go.RowKit Go.Joins

theorem open_files_of {H : Type} {enc : TypeId × Value → H} {P : Program} {W : World} {t e : TypeId} {v : Value} {n : Nat} {y : DataW H × List MemPlace} {f0 f1 : Field}
    (ht : P.underlying t = some (.slice e)) (he : P.underlying e = some (.struct #[f0, f1])) (h0 : P.underlying f0.type = some .string) (h1 : P.underlying f1.type = some .string)
    (hone : oneCellFields P #[f0, f1] = true) (hC : P.cellsOf e = 2) (h : DataW.trod enc P W 0 (fun _ => true) true n t [v] = some y) :
    ∃ a m c fs, v = .slice a m c ∧ m ≤ c ∧ FilesAt W W.heap.size a m fs ∧ Fits fs ∧ m ≤ maxLen := by
  have hs0 : ∃ a1 n1 c1, v = .slice a1 n1 c1 ∧ n1 ≤ c1 := by
    rcases DataW.trod_slice ht h with ⟨e, _⟩ | ⟨a, len, cap, elems, rest, n, hfu, e, _, _, hl, _⟩
    · exact ⟨none, 0, 0, by simpa using e, Nat.le_refl _⟩
    · exact ⟨some a, len, cap, by simpa using e, hl⟩
  obtain ⟨a1, n1, c1, rfl, hl⟩ := hs0
  obtain ⟨fs, hfa, hff, hn1⟩ := open_files (d := y.1) (p := y.2) ht he h0 h1 hone hC ⟨n, by simpa [Value.cells] using h⟩
  exact ⟨a1, n1, c1, fs, rfl, hl, hfa, hff, hn1⟩

/-- an entry by value -/
theorem open_entry {H : Type} {enc : TypeId × Value → H} {P : Program} {W : World} {r : Reach} {b0 : Nat} {e tF eF : TypeId} {v : Value} {d : DataW H} {p : List MemPlace} {q0 q1 q2 q3 i0 i1 : Field}
    (heP : P.underlying e = some (.struct #[q0, q1, q2, q3])) (hq0 : P.underlying q0.type = some .string) (hq1 : P.underlying q1.type = some .string) (hq2 : q2.type = tF) (hq3 : P.underlying q3.type = some .string) (honeP : oneCellFields P #[q0, q1, q2, q3] = true) (hCP : P.cellsOf e = 4)
    (htF : P.underlying tF = some (.slice eF)) (heF : P.underlying eF = some (.struct #[i0, i1])) (hi0 : P.underlying i0.type = some .string) (hi1 : P.underlying i1.type = some .string) (honeF : oneCellFields P #[i0, i1] = true) (hCF : P.cellsOf eF = 2)
    (hv : Value.okWide P W r b0 e v) (h : DataW.Trod enc P W 0 (fun _ => true) true e v d p) :
    ∃ (t s : ByteArray) (fs : List Fl) (x : ByteArray) (a : Option Addr) (n c : Nat), v = .agg #[.string t, .string s, .slice a n c, .string x] ∧ FilesAt W W.heap.size a n fs ∧ EnFit (t, s, fs, x) ∧ n ≤ c := by
  obtain ⟨v0, v1, v2, v3, y0, y1, y2, y3, n, rfl, _, _, hy0, hy1, hy2, hy3⟩ := open_agg4 heP honeP hCP hv h
  obtain ⟨t, e0, _, hl0⟩ := DataW.trod_string hq0 hy0
  obtain ⟨s, e1, _, hl1⟩ := DataW.trod_string hq1 hy1
  obtain ⟨x, e3, _, hl3⟩ := DataW.trod_string hq3 hy3
  rw [hq2] at hy2
  obtain ⟨a, m, c, fs, rfl, hmc, hfa, hff, hml⟩ := open_files_of htF heF hi0 hi1 honeF hCF hy2
  simp only [List.cons.injEq, and_true] at e0 e1 e3
  subst e0
  subst e1
  subst e3
  exact ⟨t, s, fs, x, a, m, c, rfl, hfa, ⟨hl0, hl1, by rw [hfa.1]; exact hml, hff, hl3⟩, hmc⟩

/-- a slice of entries -/
theorem open_entries {H : Type} {enc : TypeId × Value → H} {P : Program} {W : World} {tE e tF eF : TypeId} {a : Option Addr} {len cap : Nat} {d : DataW H} {p : List MemPlace} {q0 q1 q2 q3 i0 i1 : Field}
    (htE : P.underlying tE = some (.slice e)) (heP : P.underlying e = some (.struct #[q0, q1, q2, q3])) (hq0 : P.underlying q0.type = some .string) (hq1 : P.underlying q1.type = some .string) (hq2 : q2.type = tF) (hq3 : P.underlying q3.type = some .string) (honeP : oneCellFields P #[q0, q1, q2, q3] = true) (hCP : P.cellsOf e = 4)
    (htF : P.underlying tF = some (.slice eF)) (heF : P.underlying eF = some (.struct #[i0, i1])) (hi0 : P.underlying i0.type = some .string) (hi1 : P.underlying i1.type = some .string) (honeF : oneCellFields P #[i0, i1] = true) (hCF : P.cellsOf eF = 2)
    (h : DataW.Trod enc P W 0 (fun _ => true) true tE (.slice a len cap) d p) :
    ∃ es, EnAt W 0 W.heap.size es a len ∧ EnFits es ∧ len ≤ maxLen := by
  obtain ⟨fuel, hf⟩ := h
  rcases open_rows htE heP honeP hCP hf with hcs | ⟨x, l, c, hcs, hl, hm, hcell⟩
  · simp [Value.cells] at hcs
    obtain ⟨rfl, rfl, rfl⟩ := hcs
    exact ⟨[], ⟨rfl, fun hn => absurd hn (by omega)⟩, fun f hf => by simp at hf, by unfold maxLen; omega⟩
  · simp [Value.cells] at hcs
    obtain ⟨rfl, rfl, rfl⟩ := hcs
    have hget : ∀ i, i < len → ∃ y : En, (W.cell? (x.add (i * 4)) = some (.string y.1) ∧ W.cell? (x.add (i * 4 + 1)) = some (.string y.2.1) ∧ (∃ a n c, W.cell? (x.add (i * 4 + 2)) = some (.slice a n c) ∧ n ≤ c ∧ FlIn W 0 W.heap.size a n y.2.2.1) ∧ W.cell? (x.add (i * 4 + 3)) = some (.string y.2.2.2)) ∧ EnFit y := by
      intro i hi
      obtain ⟨v0, y0, n0, hv0, hy0⟩ := hcell i hi 0 q0 rfl
      obtain ⟨v1, y1, n1, hv1, hy1⟩ := hcell i hi 1 q1 rfl
      obtain ⟨v2, y2, n2, hv2, hy2⟩ := hcell i hi 2 q2 rfl
      obtain ⟨v3, y3, n3, hv3, hy3⟩ := hcell i hi 3 q3 rfl
      obtain ⟨t, e0, _, hl0⟩ := DataW.trod_string hq0 hy0
      obtain ⟨s, e1, _, hl1⟩ := DataW.trod_string hq1 hy1
      obtain ⟨z, e3, _, hl3⟩ := DataW.trod_string hq3 hy3
      rw [hq2] at hy2
      obtain ⟨a, m, c, fs, rfl, hmc, hfa, hff, hml⟩ := open_files_of htF heF hi0 hi1 honeF hCF hy2
      simp only [List.cons.injEq, and_true] at e0 e1 e3
      subst e0
      subst e1
      subst e3
      exact ⟨(t, s, fs, z), ⟨hv0, hv1, ⟨a, m, c, hv2, hmc, FlIn.of hfa⟩, hv3⟩, hl0, hl1, by rw [hfa.1]; exact hml, hff, hl3⟩
    let F : Nat → En := fun i => if hi : i < len then (hget i hi).choose else (.empty, .empty, [], .empty)
    have hF : ∀ i, i < len → (W.cell? (x.add (i * 4)) = some (.string (F i).1) ∧ W.cell? (x.add (i * 4 + 1)) = some (.string (F i).2.1) ∧ (∃ a n c, W.cell? (x.add (i * 4 + 2)) = some (.slice a n c) ∧ n ≤ c ∧ FlIn W 0 W.heap.size a n (F i).2.2.1) ∧ W.cell? (x.add (i * 4 + 3)) = some (.string (F i).2.2.2)) ∧ EnFit (F i) := by
      intro i hi
      have h := (hget i hi).choose_spec
      simp only [F, dif_pos hi]
      exact h
    refine ⟨(List.range len).map F, ⟨by simp, fun hn => ?_⟩, fun y hy => ?_, by omega⟩
    · obtain ⟨b, off, spot⟩ := x
      have hc0 := (hF 0 hn).1.1
      have hspot : spot = none := by simpa [Addr.add] using World.cell?_spot hc0
      subst hspot
      refine ⟨b, off, rfl, Nat.zero_le _, World.block_lt_of_cell? W ⟨b, off, none⟩ (by simpa [Addr.add] using hc0), fun j y hg => ?_⟩
      obtain ⟨i, hi, hFi⟩ : ∃ i, (List.range len)[j]? = some i ∧ F i = y := by simpa [List.getElem?_map] using hg
      obtain ⟨hjl, hji⟩ := List.getElem?_eq_some_iff.1 hi
      have hij : j = i := by simpa using hji
      subst hij
      have hh := (hF j (by simpa using hjl)).1
      rw [hFi, add_none, add_none, add_none, add_none] at hh
      exact hh
    · obtain ⟨i, hi, rfl⟩ := List.mem_map.1 hy
      exact (hF i (List.mem_range.1 hi)).2
end Go.Proofs.YtaiijnepeccllaaGreat
