/-
  The early texts of this proof in one: plain words, lists in memory, and the contracts of the small functions.
-/
import Derived.WalkKit
import Derived.WalkLawsBesides
import Derived.WalkSpells
import Derived.Lib.Hide
import Derived.Lib.IndexBytes
import Derived.WideShapes
import Derived.Below
import Derived.Laws.OwnMore
import Derived.Deep.AppendLies
import Derived.Deep.Draws
import Derived.Laws.Rows
import Derived.Laws.MakeOwn
import Derived.Laws.Entries
import Derived.Test.YtecekkmagldpoaaProg
import Derived.LaidEqlPtr
import Derived.WideKeyRuns
import Derived.Maps.OwnSet
import Derived.Laws.StructEq
import Derived.Laws.AppendOwn
import Derived.OwnWalk
import Derived.Deep.LoopGhost
import Derived.BigQuiet
import Derived.Deep.Onto
import Derived.WideMake
import Derived.Deep.RegionLaw
import Derived.StillTailTactics
import Derived.Shelf.Strings.BuilderK
import Derived.KernelRfl
import Derived.LoopNIn
import Derived.Deep.RegionHeld3
import Derived.Sort.KeysCollected
import Derived.Outline
import Derived.Deep.Slices
import Derived.Deep.Fields
import Derived.ChangeSame
import Derived.OpenShut
import Derived.Lib.SmallJoins

namespace Go.Proofs.Ytecekkmagldpoaa
set_option linter.unusedVariables false
open Go.RowKit

theorem ret_bool {a b : Bool} (h : a = b) : Ending.returned (.bool a) = .returned (.bool b) := by rw [h]
theorem ret_int {k : IntKind} {a b : Int} (h : a = b) : Ending.returned (.int k a) = .returned (.int k b) := by rw [h]
theorem ret_str {a b : ByteArray} (h : a = b) : Ending.returned (.string a) = .returned (.string b) := by rw [h]

/-- every byte of s lies between lo and hi -/
def btw (lo hi : Nat) (l : List UInt8) : Bool := l.all fun c => decide (lo ≤ c.toNat ∧ c.toNat ≤ hi)

theorem btw_take_succ (lo hi : Nat) (s : ByteArray) (k : Nat) (h : k < s.size) :
    btw lo hi (s.data.toList.take (k + 1)) = (btw lo hi (s.data.toList.take k) && decide (lo ≤ s[k].toNat ∧ s[k].toNat ≤ hi)) := by
  unfold btw
  rw [List.take_succ_eq_append_getElem (by simpa using h)]
  simp [List.all_append]
  rfl

theorem btw_false_of (lo hi : Nat) (s : ByteArray) (k : Nat) (h : k < s.size) (hb : ¬ (lo ≤ s[k].toNat ∧ s[k].toNat ≤ hi)) :
    btw lo hi s.data.toList = false := by
  unfold btw
  rw [List.all_eq_false]
  refine ⟨s.data.toList[k]'(by simpa using h), List.getElem_mem _, ?_⟩
  have hb' : ¬ (lo ≤ (s.data[k]'h).toNat ∧ (s.data[k]'h).toNat ≤ hi) := hb
  simpa using hb'

theorem sEq (a b : ByteArray) : (a.toList == b.toList) = decide (a = b) := by
  rw [Lib.toList_data, Lib.toList_data]
  by_cases h : a = b
  · subst h; simp
  · have h2 : ¬ a.data = b.data := fun e => h (WideShapes.bytes_inj (by rw [e]))
    simp [h, h2]
/-- the order of strings -/
def sLess (a b : ByteArray) : Bool := Op.bytesLess a.toList b.toList

def pathB (s : ByteArray) : Bool := decide (1 ≤ s.size) && decide (s.size ≤ 8) && btw 97 122 s.data.toList
def textB (s : ByteArray) : Bool := decide (s.size ≤ 60) && btw 32 126 s.data.toList


theorem btw_iff (lo hi : Nat) (l : List UInt8) : btw lo hi l = true ↔ ∀ c ∈ l, lo ≤ c.toNat ∧ c.toNat ≤ hi := by
  unfold btw; simp
theorem btw_append (lo hi : Nat) (a b : ByteArray) : btw lo hi (a ++ b).data.toList = (btw lo hi a.data.toList && btw lo hi b.data.toList) := by
  unfold btw; simp
theorem btw_extract {lo hi : Nat} {s : ByteArray} (h : btw lo hi s.data.toList = true) (i j : Nat) : btw lo hi (s.extract i j).data.toList = true := by
  rw [btw_iff] at h ⊢
  intro c hc
  refine h c ?_
  rw [ByteArray.data_extract, Array.toList_extract] at hc
  exact List.mem_of_mem_drop (List.mem_of_mem_take hc)
theorem pathB_iff (s : ByteArray) : pathB s = true ↔ 1 ≤ s.size ∧ s.size ≤ 8 ∧ btw 97 122 s.data.toList = true := by
  unfold pathB; simp [and_assoc]
theorem textB_iff (s : ByteArray) : textB s = true ↔ s.size ≤ 60 ∧ btw 32 126 s.data.toList = true := by
  unfold textB; simp
theorem path_q {s : ByteArray} (h : pathB s = true) : pathB (s ++ { data := #[113] }) = decide ((s.size : Int) < 8) := by
  obtain ⟨h1, h2, h3⟩ := (pathB_iff s).1 h
  unfold pathB
  rw [btw_append, h3, ByteArray.size_append, show ({ data := #[113] } : ByteArray).size = 1 from rfl, show btw 97 122 ({ data := #[113] } : ByteArray).data.toList = true from rfl]
  rw [decide_eq_true (show 1 ≤ s.size + 1 by omega)]
  simp
  omega
theorem path_tail {s : ByteArray} (h : pathB s = true) : pathB (s.extract 1 s.size) = decide ((1 : Int) < s.size) := by
  obtain ⟨h1, h2, h3⟩ := (pathB_iff s).1 h
  unfold pathB
  rw [btw_extract h3, ByteArray.size_extract, decide_eq_true (show min s.size s.size - 1 ≤ 8 by omega)]
  simp
  omega
theorem path_text {s : ByteArray} (h : pathB s = true) : textB s = true := by
  obtain ⟨h1, h2, h3⟩ := (pathB_iff s).1 h
  refine (textB_iff s).2 ⟨by omega, ?_⟩
  rw [btw_iff] at h3 ⊢
  intro c hc
  have := h3 c hc
  omega
theorem path_blank (s : ByteArray) : pathB (s ++ { data := #[32] }) = false := by
  unfold pathB
  rw [btw_append, show btw 97 122 ({ data := #[32] } : ByteArray).data.toList = false from rfl]
  simp
theorem text_tail {s : ByteArray} (h : textB s = true) (i : Nat) : textB (s.extract i s.size) = true := by
  obtain ⟨h1, h2⟩ := (textB_iff s).1 h
  exact (textB_iff _).2 ⟨by rw [ByteArray.size_extract]; omega, btw_extract h2 _ _⟩
theorem text_append {a b : ByteArray} (ha : textB a = true) (hb : textB b = true) : textB (a ++ b) = decide ((a.size : Int) + b.size ≤ 60) := by
  obtain ⟨h1, h2⟩ := (textB_iff a).1 ha
  obtain ⟨h3, h4⟩ := (textB_iff b).1 hb
  unfold textB
  rw [btw_append, h2, h4, ByteArray.size_append]
  simp
  omega
end Go.Proofs.Ytecekkmagldpoaa

namespace Go.Proofs.Ytecekkmagldpoaa
set_option linter.unusedVariables false
open Go.RowKit

theorem below_drewN {B : Nat} {a w : World} (h : Below B a w) (n : Nat) : Below B a (w.drewN n) := ⟨h.os, h.tape, h.output, h.size, h.block⟩

/-- a file: its path and its text -/
abbrev Fl := ByteArray × ByteArray

def fcells (fs : List Fl) : List Value := fs.flatMap fun f => [.string f.1, .string f.2]
theorem fcells_nil : fcells [] = [] := rfl
theorem fcells_cons (f : Fl) (fs : List Fl) : fcells (f :: fs) = .string f.1 :: .string f.2 :: fcells fs := rfl
theorem fcells_append (a b : List Fl) : fcells (a ++ b) = fcells a ++ fcells b := by simp [fcells]
theorem fcells_length (fs : List Fl) : (fcells fs).length = fs.length * 2 := by
  induction fs with
  | nil => rfl
  | cons f fs ih => rw [fcells_cons]; simp [ih]; omega
theorem fcells_get (fs : List Fl) : ∀ {k : Nat} {p t : ByteArray}, fs[k]? = some (p, t) → (fcells fs)[k * 2]? = some (.string p) ∧ (fcells fs)[k * 2 + 1]? = some (.string t) := by
  induction fs with
  | nil => intro k p t h; simp at h
  | cons f fs ih =>
    intro k p t h
    cases k with
    | zero => simp at h; subst h; exact ⟨rfl, rfl⟩
    | succ k =>
      have := ih (k := k) (p := p) (t := t) (by simpa using h)
      rw [fcells_cons, show (k + 1) * 2 = k * 2 + 1 + 1 from by omega]
      simpa using this
theorem fcells_inv (fs : List Fl) : ∀ {j : Nat} {u : Value}, (fcells fs)[j]? = some u → ∃ (k : Nat) (p t : ByteArray), fs[k]? = some (p, t) ∧ ((j = k * 2 ∧ u = .string p) ∨ (j = k * 2 + 1 ∧ u = .string t)) := by
  induction fs with
  | nil => intro j u h; simp [fcells] at h
  | cons f fs ih =>
    intro j u h
    rw [fcells_cons] at h
    match j with
    | 0 => simp at h; exact ⟨0, f.1, f.2, rfl, .inl ⟨rfl, h.symm⟩⟩
    | 1 => simp at h; exact ⟨0, f.1, f.2, rfl, .inr ⟨rfl, h.symm⟩⟩
    | j + 2 =>
      simp at h
      obtain ⟨k, p, t, hk, hh⟩ := ih h
      refine ⟨k + 1, p, t, by simpa using hk, ?_⟩
      rcases hh with ⟨rfl, hu⟩ | ⟨rfl, hu⟩
      · exact .inl ⟨by omega, hu⟩
      · exact .inr ⟨by omega, hu⟩
theorem fcells_oneCell (fs : List Fl) : ∀ u ∈ fcells fs, u.oneCell' = true := by
  intro u hu
  simp [fcells] at hu
  obtain ⟨a, b, _, rfl | rfl⟩ := hu <;> rfl

/-- each string of the list fits -/
def Fits (fs : List Fl) : Prop := ∀ f ∈ fs, f.1.size ≤ maxLen ∧ f.2.size ≤ maxLen
theorem Fits.get {fs : List Fl} (h : Fits fs) {k : Nat} {p t : ByteArray} (hk : fs[k]? = some (p, t)) : p.size ≤ maxLen ∧ t.size ≤ maxLen := h _ (List.mem_of_getElem? hk)

/-- the bytes of a list of files -/
def tot : List Fl → Nat
  | [] => 0
  | f :: fs => f.1.size + f.2.size + tot fs
theorem tot_append (a b : List Fl) : tot (a ++ b) = tot a + tot b := by
  induction a with
  | nil => simp [tot]
  | cons f a ih => simp only [List.cons_append, tot, ih]; omega
theorem tot_take_succ {fs : List Fl} {k : Nat} {p t : ByteArray} (h : fs[k]? = some (p, t)) : tot (fs.take (k + 1)) = tot (fs.take k) + (p.size + t.size) := by
  rw [List.take_add_one, h, tot_append]
  simp [tot]
theorem tot_take_le (fs : List Fl) (k : Nat) : tot (fs.take k) ≤ tot fs := by
  have h := tot_append (fs.take k) (fs.drop k)
  rw [List.take_append_drop] at h
  omega

/-- is the file at place k as a valid list has it? -/
def okAt (fs : List Fl) (k : Nat) : Bool :=
  match fs[k]? with
  | none => true
  | some (p, t) => pathB p && textB t && (match k with
    | 0 => true
    | j + 1 => match fs[j]? with
      | none => true
      | some (q, _) => sLess q p)
def okTo (fs : List Fl) (k : Nat) : Bool := (List.range k).all (okAt fs)
theorem okTo_succ (fs : List Fl) (k : Nat) : okTo fs (k + 1) = (okTo fs k && okAt fs k) := by
  simp [okTo, List.range_succ]
theorem okTo_step {fs : List Fl} {k : Nat} (h1 : okTo fs k = true) (h2 : okAt fs k = true) : okTo fs (k + 1) = true := by rw [okTo_succ, h1, h2]; rfl
theorem okTo_false {fs : List Fl} {k n : Nat} (hk : k < n) (h : okAt fs k = false) : okTo fs n = false := by
  unfold okTo
  rw [List.all_eq_false]
  exact ⟨k, by simpa using hk, by simp [h]⟩
theorem okAt_path {fs : List Fl} {k : Nat} {p t : ByteArray} (hg : fs[k]? = some (p, t)) (h : pathB p = false) : okAt fs k = false := by
  unfold okAt; rw [hg]; simp [h]
theorem okAt_text {fs : List Fl} {k : Nat} {p t : ByteArray} (hg : fs[k]? = some (p, t)) (h : textB t = false) : okAt fs k = false := by
  unfold okAt; rw [hg]; simp [h]
theorem okAt_zero {fs : List Fl} {p t : ByteArray} (hg : fs[0]? = some (p, t)) (h1 : pathB p = true) (h2 : textB t = true) : okAt fs 0 = true := by
  unfold okAt; rw [hg]; simp [h1, h2]
theorem okAt_succ {fs : List Fl} {k : Nat} {p t q r : ByteArray} (hg : fs[k + 1]? = some (p, t)) (hq : fs[k]? = some (q, r)) (h1 : pathB p = true) (h2 : textB t = true) : okAt fs (k + 1) = sLess q p := by
  unfold okAt; rw [hg]; simp [h1, h2, hq]
def validB (fs : List Fl) : Bool := decide (fs.length ≤ 12) && okTo fs fs.length

theorem validB_false {fs : List Fl} {n k : Nat} {p t : ByteArray} (hl : fs.length = n) (hk : k < n) (_hg : fs[k]? = some (p, t)) (h : okAt fs k = false) : validB fs = false := by
  unfold validB
  rw [okTo_false (n := fs.length) (by omega) h, Bool.and_false]
theorem validB_all {fs : List Fl} {n : Nat} (hl : fs.length = n) (h : okTo fs n = true) : validB fs = decide ((n : Int) ≤ 12) := by
  unfold validB
  rw [hl, h, Bool.and_true]
  congr 1
  exact propext (by omega)

/-- the text of the first file with this path -/
def findF : List Fl → ByteArray → ByteArray × Bool
  | [], _ => (.empty, false)
  | f :: fs, x => if f.1 = x then (f.2, true) else findF fs x
theorem findF_none {fs : List Fl} {x : ByteArray} (h : ∀ (j : Nat) (p t : ByteArray), fs[j]? = some (p, t) → p ≠ x) : findF fs x = (.empty, false) := by
  induction fs with
  | nil => rfl
  | cons f fs ih =>
    rw [findF, if_neg (h 0 f.1 f.2 rfl)]
    exact ih fun j p t hj => h (j + 1) p t (by simpa using hj)
theorem findF_at {fs : List Fl} {x t : ByteArray} : ∀ {k : Nat}, (∀ (j : Nat) (p t : ByteArray), j < k → fs[j]? = some (p, t) → p ≠ x) → fs[k]? = some (x, t) → findF fs x = (t, true) := by
  induction fs with
  | nil => intro k _ h; simp at h
  | cons f fs ih =>
    intro k h hk
    cases k with
    | zero => simp at hk; subst hk; simp [findF]
    | succ k =>
      rw [findF, if_neg (h 0 f.1 f.2 (by omega) rfl)]
      exact ih (k := k) (fun j p t hj hjj => h (j + 1) p t (by omega) (by simpa using hjj)) (by simpa using hk)

/-- none of the first k files has this path -/
def notTo (fs : List Fl) (x : ByteArray) (k : Nat) : Prop := ∀ (j : Nat) (p t : ByteArray), j < k → fs[j]? = some (p, t) → p ≠ x
theorem notTo_zero (fs : List Fl) (x : ByteArray) : notTo fs x 0 := fun j p t h => absurd h (by omega)
theorem notTo_step {fs : List Fl} {x p t : ByteArray} {k : Nat} (h : notTo fs x k) (hg : fs[k]? = some (p, t)) (hp : ¬ p = x) : notTo fs x (k + 1) := by
  intro j p' t' hj hg'
  by_cases e : j = k
  · subst e; rw [hg] at hg'; cases hg'; exact hp
  · exact h j p' t' (by omega) hg'
theorem notTo_all {fs : List Fl} {x : ByteArray} {n : Nat} (hl : fs.length = n) (h : notTo fs x n) : findF fs x = (.empty, false) :=
  findF_none fun j p t hj => h j p t (by have := (List.getElem?_eq_some_iff.1 hj).1; omega) hj

/-- the bytes of the text of a list of files -/
def fmtF (fs : List Fl) : List UInt8 := fs.flatMap fun f => f.1.data.toList ++ [32] ++ f.2.data.toList ++ [10]
def fmtS (fs : List Fl) : ByteArray := if validB fs = true then ⟨(fmtF fs).toArray⟩ else .empty
theorem fmtF_take_succ {fs : List Fl} {k : Nat} {p t : ByteArray} (h : fs[k]? = some (p, t)) : fmtF (fs.take (k + 1)) = fmtF (fs.take k) ++ p.data.toList ++ [32] ++ t.data.toList ++ [10] := by
  unfold fmtF
  rw [List.take_add_one, h]
  simp
theorem okTo_le {fs : List Fl} {k n : Nat} (h : okTo fs n = true) (hk : k < n) : okAt fs k = true := by
  unfold okTo at h
  rw [List.all_eq_true] at h
  exact h k (by simpa using hk)
theorem okAt_sizes {fs : List Fl} {k : Nat} {p t : ByteArray} (h : okAt fs k = true) (hg : fs[k]? = some (p, t)) : p.size ≤ 8 ∧ t.size ≤ 60 := by
  unfold okAt at h
  rw [hg] at h
  simp only [Bool.and_eq_true] at h
  exact ⟨((pathB_iff p).1 h.1.1).2.1, ((textB_iff t).1 h.1.2).1⟩
theorem valid_sizes {fs : List Fl} (h : validB fs = true) {k : Nat} {p t : ByteArray} (hg : fs[k]? = some (p, t)) : p.size ≤ 8 ∧ t.size ≤ 60 := by
  unfold validB at h
  simp only [Bool.and_eq_true] at h
  exact okAt_sizes (okTo_le h.2 (List.getElem?_eq_some_iff.1 hg).1) hg
theorem valid_length {fs : List Fl} (h : validB fs = true) : fs.length ≤ 12 := by
  unfold validB at h
  simp only [Bool.and_eq_true, decide_eq_true_eq] at h
  exact h.1
theorem fmtF_length {fs : List Fl} (h : validB fs = true) : ∀ {k : Nat}, k ≤ fs.length → (fmtF (fs.take k)).length ≤ 70 * k := by
  intro k
  induction k with
  | zero => intro _; simp [fmtF]
  | succ k ih =>
    intro hk
    have hg : fs[k]? = some (fs[k].1, fs[k].2) := List.getElem?_eq_getElem (by omega)
    have := ih (by omega)
    have hs := valid_sizes h hg
    have e1 : fs[k].1.data.size ≤ 8 := hs.1
    have e2 : fs[k].2.data.size ≤ 60 := hs.2
    rw [fmtF_take_succ hg]
    simp only [List.length_append, Array.length_toList, List.length_cons, List.length_nil]
    omega

theorem add_none (b off i : Nat) : (⟨b, off, none⟩ : Addr).add i = ⟨b, off + i, none⟩ := by
  unfold Addr.add; by_cases h : i = 0 <;> simp [h]

/-- the slice at a of n elements reads as the files fs and lies below block B -/
def FilesAt (w : World) (B : Nat) (a : Option Addr) (n : Nat) (fs : List Fl) : Prop :=
  fs.length = n ∧ (0 < n → ∃ b off, a = some ⟨b, off, none⟩ ∧ b < B ∧ ∀ j u, (fcells fs)[j]? = some u → w.cell? ⟨b, off + j, none⟩ = some u)

section
variable {w w' : World} {B B' n : Nat} {a : Option Addr} {fs : List Fl}
theorem FilesAt.get (h : FilesAt w B a n fs) {k : Nat} (hk : k < n) :
    ∃ b off p t, a = some ⟨b, off, none⟩ ∧ b < B ∧ fs[k]? = some (p, t) ∧ w.cell? ⟨b, off + k * 2, none⟩ = some (.string p) ∧ w.cell? ⟨b, off + k * 2 + 1, none⟩ = some (.string t) := by
  obtain ⟨b, off, ha, hb, hc⟩ := h.2 (by omega)
  have hl : k < fs.length := by have := h.1; omega
  have hg : fs[k]? = some (fs[k].1, fs[k].2) := List.getElem?_eq_getElem hl
  obtain ⟨h1, h2⟩ := fcells_get fs hg
  exact ⟨b, off, _, _, ha, hb, hg, hc _ _ h1, by have := hc _ _ h2; rwa [← Nat.add_assoc] at this⟩
theorem FilesAt.keep (h : FilesAt w B a n fs) (hk : ∀ p : Addr, p.block < B → w'.cell? p = w.cell? p) : FilesAt w' B a n fs :=
  ⟨h.1, fun hn => by
    obtain ⟨b, off, ha, hb, hc⟩ := h.2 hn
    exact ⟨b, off, ha, hb, fun j u hu => (hk ⟨b, off + j, none⟩ hb).trans (hc j u hu)⟩⟩
theorem FilesAt.more (h : FilesAt w B a n fs) (hB : B ≤ B') : FilesAt w B' a n fs :=
  ⟨h.1, fun hn => by
    obtain ⟨b, off, ha, hb, hc⟩ := h.2 hn
    exact ⟨b, off, ha, by omega, hc⟩⟩
theorem FilesAt.below (h : FilesAt w B a n fs) (hb : Below B w w') : FilesAt w' B a n fs := h.keep fun _ hp => hb.cell hp
theorem FilesAt.drew (h : FilesAt w B a n fs) : FilesAt w.drew B a n fs := h
theorem FilesAt.drewN (h : FilesAt w B a n fs) (k : Nat) : FilesAt (w.drewN k) B a n fs := h
theorem FilesAt.alloc (h : FilesAt w B a n fs) (hB : B ≤ w.heap.size) (o : Obj) : FilesAt (w.alloc o) B a n fs := h.keep fun p hp => World.cell?_alloc_lt w o p (by omega)
end

theorem make_row {P : Program} (t e : TypeId) (i : TypeInfo) (z : Value) (ht : P.underlying t = some (.slice e)) (hi : P.info? e = some i) (hz : i.zero = some z)
    (kl kc : IntKind) (n c : Nat) (hnc : n ≤ c) (hbytes : i.bytes * c ≤ 281474976710656) (h63 : c ≤ 9223372036854775807) (w : World) :
    (Instr.makeSlice t (.int kl (n : Int)) (.int kc (c : Int))).run P w = .ok (.slice (some ⟨w.heap.size, 0, none⟩) n c) (w.alloc (.cells (madeCells z.cells (c * i.size)) e)) := by
  have hb : (i.bytes : Int) * (c : Int) ≤ 281474976710656 := by
    have h : ((i.bytes * c : Nat) : Int) ≤ 281474976710656 := by omega
    rwa [Int.natCast_mul] at h
  have hr := run_make (P := P) w t e i z ht hi hz kl kc n c (by omega) (by omega) hb (by omega)
  simp only [Int.toNat_natCast] at hr
  exact hr

theorem blk_lt {w : World} {g : Nat} {o : Obj} (h : w.heap[g]? = some o) : g < w.heap.size := by
  rcases Nat.lt_or_ge g w.heap.size with hlt | hge
  · exact hlt
  · rw [Array.getElem?_eq_none hge] at h; cases h
theorem blk_frozen {w : World} {g : Nat} {e : TypeId} {cs : Array Value} (h : w.heap[g]? = some (.cells cs e (0, 0))) (i : Nat) : w.frozen? ⟨g, i, none⟩ = false := by
  simp [World.frozen?, h]

theorem blk_set {w : World} {g : Nat} {e : TypeId} {cs : Array Value} (h : w.heap[g]? = some (.cells cs e (0, 0))) (i : Nat) (u : Value) :
    (w.setCell ⟨g, i, none⟩ u).heap[g]? = some (.cells (cs.setIfInBounds i u) e (0, 0)) := by
  simp [World.setCell, Array.getElem?_modify, h]
theorem fill_two {l xs : List Value} {k : Nat} (u v : Value) (hl : k * 2 + 1 < l.length) (h : l.take (k * 2) = xs) :
    ((l.set (k * 2) u).set (k * 2 + 1) v).take ((k + 1) * 2) = xs ++ [u, v] := by
  subst h
  rw [show (k + 1) * 2 = k * 2 + 1 + 1 from by omega, List.take_add_one, List.take_add_one]
  simp [List.take_set_of_le, hl, show k * 2 < l.length from by omega]
theorem fcells_take_succ {fs : List Fl} {k : Nat} {p t : ByteArray} (h : fs[k]? = some (p, t)) : fcells (fs.take (k + 1)) = fcells (fs.take k) ++ [.string p, .string t] := by
  rw [List.take_add_one, h, fcells_append]
  simp [fcells]
theorem fill_file {cur : Array Value} {fs : List Fl} {n k : Nat} {p t : ByteArray} (hsz : cur.size = n * 2) (hk : k < n) (hcur : cur.toList.take (k * 2) = fcells (fs.take k)) (hg : fs[k]? = some (p, t)) :
    (((cur.setIfInBounds (k * 2) (.string p)).setIfInBounds (k * 2 + 1) (.string t)).toList).take ((k + 1) * 2) = fcells (fs.take (k + 1)) := by
  rw [fcells_take_succ hg]
  have := fill_two (l := cur.toList) (k := k) (.string p) (.string t) (by simp; omega) hcur
  simpa using this

theorem take_eq_succ {fs gs : List Fl} {k : Nat} {p t p' t' : ByteArray} (h : fs.take k = gs.take k) (h1 : fs[k]? = some (p, t)) (h2 : gs[k]? = some (p', t')) (he : (p, t) = (p', t')) : fs.take (k + 1) = gs.take (k + 1) := by
  rw [List.take_add_one, List.take_add_one, h1, h2, h, he]
theorem ne_of_get {fs gs : List Fl} {k : Nat} {p t p' t' : ByteArray} (h1 : fs[k]? = some (p, t)) (h2 : gs[k]? = some (p', t')) (he : ¬ (p, t) = (p', t')) : ¬ fs = gs := by
  rintro rfl
  rw [h1] at h2
  exact he (Option.some.inj h2)

/-- block g is a row of elements of type e that reads as the files fs, none of it frozen -/
def OwnF (w : World) (e : TypeId) (g : Nat) (fs : List Fl) : Prop := w.heap[g]? = some (.cells (fcells fs).toArray e (0, 0))

section
variable {w w' : World} {g : Nat} {e : TypeId} {fs : List Fl}
theorem OwnF.lt (h : OwnF w e g fs) : g < w.heap.size := by
  rcases Nat.lt_or_ge g w.heap.size with hlt | hge
  · exact hlt
  · unfold OwnF at h; rw [Array.getElem?_eq_none hge] at h; cases h
theorem OwnF.cell (h : OwnF w e g fs) (i : Nat) : w.cell? ⟨g, i, none⟩ = (fcells fs)[i]? := by
  have := cell_of_row w g i (fcells fs).toArray e (0, 0) h
  simpa using this
theorem OwnF.frozen (h : OwnF w e g fs) (i : Nat) : w.frozen? ⟨g, i, none⟩ = false := by
  unfold OwnF at h
  simp [World.frozen?, h]
theorem OwnF.drew (h : OwnF w e g fs) : OwnF w.drew e g fs := h
theorem OwnF.drewN (h : OwnF w e g fs) (n : Nat) : OwnF (w.drewN n) e g fs := h
theorem OwnF.alloc (h : OwnF w e g fs) (o : Obj) : OwnF (w.alloc o) e g fs := (Below.heap_alloc w o g h.lt).trans h
theorem OwnF.below {B : Nat} (h : OwnF w e g fs) (hb : Below B w w') (hg : g < B) : OwnF w' e g fs := (hb.block g hg).trans h
theorem OwnF.far (h : OwnF w e g fs) {p : Addr} (hp : g ≠ p.block) (u : Value) : OwnF (w.setCell p u) e g fs := (Below.heap_setCell w p u g hp).trans h
theorem OwnF.in_ {n : Nat} (h : OwnF w e g fs) (hl : fs.length = n) : FilesAt w w.heap.size (some ⟨g, 0, none⟩) n fs :=
  ⟨hl, fun _ => ⟨g, 0, rfl, h.lt, fun j u hu => by rw [Nat.zero_add, h.cell, hu]⟩⟩
theorem OwnF.at_ (h : OwnF w e g fs) : FilesAt w (g + 1) (some ⟨g, 0, none⟩) fs.length fs :=
  ⟨rfl, fun _ => ⟨g, 0, rfl, by omega, fun j u hu => by rw [Nat.zero_add, h.cell, hu]⟩⟩
end

theorem fcells_set1 {s t : ByteArray} : ∀ {fs : List Fl} {k : Nat} {p : ByteArray}, fs[k]? = some (p, t) → fcells (fs.set k (s, t)) = (fcells fs).set (k * 2) (.string s) := by
  intro fs
  induction fs with
  | nil => intro k p h; simp at h
  | cons f fs ih =>
    intro k p h
    cases k with
    | zero => simp at h; subst h; rfl
    | succ k =>
      rw [List.set_cons_succ, fcells_cons, fcells_cons, show (k + 1) * 2 = k * 2 + 1 + 1 from by omega, List.set_cons_succ, List.set_cons_succ, ih (by simpa using h)]
theorem fcells_set2 {s p : ByteArray} : ∀ {fs : List Fl} {k : Nat} {t : ByteArray}, fs[k]? = some (p, t) → fcells (fs.set k (p, s)) = (fcells fs).set (k * 2 + 1) (.string s) := by
  intro fs
  induction fs with
  | nil => intro k t h; simp at h
  | cons f fs ih =>
    intro k t h
    cases k with
    | zero => simp at h; subst h; rfl
    | succ k =>
      rw [List.set_cons_succ, fcells_cons, fcells_cons, show (k + 1) * 2 + 1 = k * 2 + 1 + 1 + 1 from by omega, List.set_cons_succ, List.set_cons_succ, ih (by simpa using h)]
end Go.Proofs.Ytecekkmagldpoaa

namespace Go.Proofs.Ytecekkmagldpoaa
set_option linter.unusedVariables false
open Go.RowKit

/-- a list of expressions: none, or a node with its operands, and the nodes behind it -/
inductive Fo where
  | nil
  | node (k : Int) (s : ByteArray) (ks rest : Fo)

namespace Fo
/-- how many nodes stand side by side -/
def len : Fo → Nat
  | .nil => 0
  | .node _ _ _ r => r.len + 1
/-- how many nodes there are at all -/
def size : Fo → Nat
  | .nil => 0
  | .node _ _ ks r => ks.size + r.size + 1
/-- the bytes and operands below -/
def tot : Fo → Nat
  | .nil => 0
  | .node _ s ks r => s.size + ks.len + ks.tot + r.tot
/-- the node at a place -/
def get : Fo → Nat → Option (Int × ByteArray × Fo)
  | .nil, _ => none
  | .node k s ks r, 0 => some (k, s, ks)
  | .node k s ks r, j + 1 => r.get j
/-- texts and lists that a machine holds -/
def Fits : Fo → Prop
  | .nil => True
  | .node _ s ks r => s.size ≤ maxLen ∧ ks.len ≤ maxLen ∧ ks.Fits ∧ r.Fits
theorem size_le : ∀ f : Fo, f.size ≤ f.len + f.tot
  | .nil => Nat.le_refl _
  | .node k s ks r => by have := size_le ks; have := size_le r; simp only [size, len, tot]; omega
theorem len_size : ∀ f : Fo, f.len ≤ f.size
  | .nil => Nat.le_refl _
  | .node k s ks r => by have := len_size r; simp only [size, len]; omega
theorem get_some : ∀ {f : Fo} {j : Nat}, j < f.len → ∃ x, f.get j = some x
  | .node k s ks r, 0, _ => ⟨_, rfl⟩
  | .node k s ks r, j + 1, h => get_some (f := r) (j := j) (by simp only [len] at h; omega)
  | .nil, _, h => absurd h (by simp [len])
theorem get_lt : ∀ {f : Fo} {j : Nat} {x : Int × ByteArray × Fo}, f.get j = some x → j < f.len
  | .nil, _, _, h => by simp [get] at h
  | .node k s ks r, 0, _, _ => by simp [len]
  | .node k s ks r, j + 1, x, h => by have := get_lt (f := r) (j := j) h; simp only [len]; omega
theorem get_size : ∀ {f : Fo} {j : Nat} {k : Int} {s : ByteArray} {ks : Fo}, f.get j = some (k, s, ks) → ks.size + 1 ≤ f.size
  | .nil, _, _, _, _, h => by simp [get] at h
  | .node k s ks r, 0, _, _, _, h => by simp only [get, Option.some.injEq, Prod.mk.injEq] at h; obtain ⟨_, _, rfl⟩ := h; simp only [size]; omega
  | .node k s ks r, j + 1, _, _, _, h => by have := get_size (f := r) (j := j) h; simp only [size]; omega
theorem get_tot : ∀ {f : Fo} {j : Nat} {k : Int} {s : ByteArray} {ks : Fo}, f.get j = some (k, s, ks) → s.size + ks.len + ks.tot ≤ f.tot
  | .nil, _, _, _, _, h => by simp [get] at h
  | .node k s ks r, 0, _, _, _, h => by simp only [get, Option.some.injEq, Prod.mk.injEq] at h; obtain ⟨_, rfl, rfl⟩ := h; simp only [tot]; omega
  | .node k s ks r, j + 1, _, _, _, h => by have := get_tot (f := r) (j := j) h; simp only [tot]; omega
theorem Fits.get : ∀ {f : Fo} {j : Nat} {k : Int} {s : ByteArray} {ks : Fo}, f.Fits → f.get j = some (k, s, ks) → s.size ≤ maxLen ∧ ks.len ≤ maxLen ∧ ks.Fits
  | .nil, _, _, _, _, _, h => by simp [Fo.get] at h
  | .node k s ks r, 0, _, _, _, hf, h => by simp only [Fo.get, Option.some.injEq, Prod.mk.injEq] at h; obtain ⟨_, rfl, rfl⟩ := h; exact ⟨hf.1, hf.2.1, hf.2.2.1⟩
  | .node k s ks r, j + 1, _, _, _, hf, h => Fits.get (f := r) (j := j) hf.2.2.2 h
/-- the nodes from a place on -/
def drop : Fo → Nat → Fo
  | f, 0 => f
  | .nil, _ + 1 => .nil
  | .node _ _ _ r, j + 1 => r.drop j
theorem drop_zero (f : Fo) : f.drop 0 = f := by cases f <;> rfl
theorem drop_get : ∀ {f : Fo} {j : Nat} {k : Int} {s : ByteArray} {ks : Fo}, f.get j = some (k, s, ks) → f.drop j = .node k s ks (f.drop (j + 1))
  | .nil, _, _, _, _, h => by simp [get] at h
  | .node k s ks r, 0, _, _, _, h => by simp only [get, Option.some.injEq, Prod.mk.injEq] at h; obtain ⟨rfl, rfl, rfl⟩ := h; simp [drop, drop_zero]
  | .node k s ks r, j + 1, _, _, _, h => drop_get (f := r) (j := j) h
theorem drop_all : ∀ {f : Fo} {j : Nat}, f.len ≤ j → f.drop j = .nil
  | .nil, 0, _ => rfl
  | .nil, _ + 1, _ => rfl
  | .node k s ks r, 0, h => absurd h (by simp [len])
  | .node k s ks r, j + 1, h => drop_all (f := r) (j := j) (by simp only [len] at h; omega)
/-- two lists with the same nodes at each place are one list -/
theorem ext : ∀ {f g : Fo}, (∀ j, f.get j = g.get j) → f = g
  | .nil, .nil, _ => rfl
  | .nil, .node .., h => by have := h 0; simp [get] at this
  | .node .., .nil, h => by have := h 0; simp [get] at this
  | .node k s ks r, .node k' s' ks' r', h => by
    have h0 := h 0
    simp only [get, Option.some.injEq, Prod.mk.injEq] at h0
    obtain ⟨rfl, rfl, rfl⟩ := h0
    rw [ext (f := r) (g := r') fun j => h (j + 1)]
/-- a list out of its nodes -/
def ofFn (F : Nat → Int × ByteArray × Fo) : Nat → Nat → Fo
  | 0, _ => .nil
  | n + 1, i => .node (F i).1 (F i).2.1 (F i).2.2 (ofFn F n (i + 1))
theorem ofFn_len (F : Nat → Int × ByteArray × Fo) : ∀ n i, (ofFn F n i).len = n
  | 0, _ => rfl
  | n + 1, i => by simp only [ofFn, len, ofFn_len F n]
theorem ofFn_get (F : Nat → Int × ByteArray × Fo) : ∀ {n i j : Nat} {x : Int × ByteArray × Fo}, (ofFn F n i).get j = some x → j < n ∧ x = F (i + j)
  | 0, _, _, _, h => by simp [ofFn, get] at h
  | n + 1, i, 0, x, h => by simp only [ofFn, get, Option.some.injEq] at h; exact ⟨by omega, h.symm⟩
  | n + 1, i, j + 1, x, h => by
    obtain ⟨h1, h2⟩ := ofFn_get F (n := n) (i := i + 1) (j := j) h
    exact ⟨by omega, by rw [h2]; congr 1; omega⟩
theorem ofFn_fits (F : Nat → Int × ByteArray × Fo) : ∀ {n i : Nat}, (∀ j, i ≤ j → j < i + n → (F j).2.1.size ≤ maxLen ∧ (F j).2.2.len ≤ maxLen ∧ (F j).2.2.Fits) → (ofFn F n i).Fits
  | 0, _, _ => trivial
  | n + 1, i, h => ⟨(h i (by omega) (by omega)).1, (h i (by omega) (by omega)).2.1, (h i (by omega) (by omega)).2.2, ofFn_fits F fun j h1 h2 => h j (by omega) (by omega)⟩
end Fo

/-- these nodes lie side by side from a place on; all that they lead to lies in blocks from L to B -/
def Seg (w : World) (L B : Nat) : Fo → Nat → Nat → Prop
  | .nil, _, _ => True
  | .node k s ks r, b, off => w.cell? ⟨b, off, none⟩ = some (.int .i64 k) ∧ w.cell? ⟨b, off + 1, none⟩ = some (.string s) ∧
      (∃ a n c, w.cell? ⟨b, off + 2, none⟩ = some (.slice a n c) ∧ ks.len = n ∧ n ≤ c ∧ (0 < n → ∃ b' off', a = some ⟨b', off', none⟩ ∧ L ≤ b' ∧ b' < B ∧ Seg w L B ks b' off')) ∧
      Seg w L B r b (off + 3)
/-- a slice whose elements are these nodes -/
def KA (w : World) (L B : Nat) (f : Fo) (a : Option Addr) (n : Nat) : Prop := f.len = n ∧ (0 < n → ∃ b off, a = some ⟨b, off, none⟩ ∧ L ≤ b ∧ b < B ∧ Seg w L B f b off)
/-- one node -/
def NodeAt (w : World) (L B : Nat) (k : Int) (s : ByteArray) (ks : Fo) (b off : Nat) : Prop :=
  w.cell? ⟨b, off, none⟩ = some (.int .i64 k) ∧ w.cell? ⟨b, off + 1, none⟩ = some (.string s) ∧ ∃ a n c, w.cell? ⟨b, off + 2, none⟩ = some (.slice a n c) ∧ n ≤ c ∧ KA w L B ks a n
section
variable {w w' : World} {L L' B B' b off n : Nat} {a : Option Addr} {f ks : Fo} {k : Int} {s : ByteArray}
theorem seg_node {r : Fo} : Seg w L B (.node k s ks r) b off ↔ NodeAt w L B k s ks b off ∧ Seg w L B r b (off + 3) :=
  ⟨fun ⟨h1, h2, ⟨a, n, c, h3, h4, h5, h6⟩, h7⟩ => ⟨⟨h1, h2, a, n, c, h3, h5, h4, h6⟩, h7⟩, fun ⟨⟨h1, h2, a, n, c, h3, h5, h4, h6⟩, h7⟩ => ⟨h1, h2, ⟨a, n, c, h3, h4, h5, h6⟩, h7⟩⟩
theorem seg_get : ∀ {f : Fo} {b off j : Nat} {k : Int} {s : ByteArray} {ks : Fo}, Seg w L B f b off → f.get j = some (k, s, ks) → NodeAt w L B k s ks b (off + j * 3)
  | .nil, _, _, _, _, _, _, _, h => by simp [Fo.get] at h
  | .node k s ks r, _, _, 0, _, _, _, hs, h => by
    simp only [Fo.get, Option.some.injEq, Prod.mk.injEq] at h
    obtain ⟨rfl, rfl, rfl⟩ := h
    rw [Nat.zero_mul]
    exact (seg_node.1 hs).1
  | .node k s ks r, b, off, j + 1, _, _, _, hs, h => by
    have := seg_get (f := r) (j := j) (seg_node.1 hs).2 h
    rwa [show off + (j + 1) * 3 = off + 3 + j * 3 from by omega]
theorem seg_of : ∀ {f : Fo} {b off : Nat}, (∀ j k s ks, f.get j = some (k, s, ks) → NodeAt w L B k s ks b (off + j * 3)) → Seg w L B f b off
  | .nil, _, _, _ => trivial
  | .node k s ks r, b, off, h => by
    refine seg_node.2 ⟨?_, seg_of (f := r) fun j k s ks hg => ?_⟩
    · have := h 0 k s ks rfl
      rwa [Nat.zero_mul] at this
    · have := h (j + 1) k s ks hg
      rwa [show off + (j + 1) * 3 = off + 3 + j * 3 from by omega] at this
theorem seg_keep (hL : L' ≤ L) (hB : B ≤ B') (hk : ∀ p : Addr, L ≤ p.block → p.block < B → w'.cell? p = w.cell? p) : ∀ {f : Fo} {b off : Nat}, L ≤ b → b < B → Seg w L B f b off → Seg w' L' B' f b off
  | .nil, _, _, _, _, _ => trivial
  | .node k s ks r, b, off, h1, h2, ⟨c1, c2, ⟨a, n, c, c3, hl, hc, hs⟩, hr⟩ => by
    refine ⟨(hk ⟨b, off, none⟩ h1 h2).trans c1, (hk ⟨b, off + 1, none⟩ h1 h2).trans c2, ⟨a, n, c, (hk ⟨b, off + 2, none⟩ h1 h2).trans c3, hl, hc, fun hn => ?_⟩, seg_keep hL hB hk h1 h2 hr⟩
    obtain ⟨b', off', ha, hb1, hb2, hs'⟩ := hs hn
    exact ⟨b', off', ha, by omega, by omega, seg_keep hL hB hk hb1 hb2 hs'⟩
theorem KA.keep (h : KA w L B f a n) (hL : L' ≤ L) (hB : B ≤ B') (hk : ∀ p : Addr, L ≤ p.block → p.block < B → w'.cell? p = w.cell? p) : KA w' L' B' f a n :=
  ⟨h.1, fun hn => let ⟨b, off, ha, h1, h2, hs⟩ := h.2 hn; ⟨b, off, ha, by omega, by omega, seg_keep hL hB hk h1 h2 hs⟩⟩
theorem KA.more (h : KA w L B f a n) (hL : L' ≤ L) (hB : B ≤ B') : KA w L' B' f a n := h.keep hL hB fun _ _ _ => rfl
theorem KA.below (h : KA w L B f a n) (hb : Below B w w') : KA w' L B f a n := h.keep (Nat.le_refl _) (Nat.le_refl _) fun _ _ hp => hb.cell hp
theorem KA.next (h : KA w L w.heap.size f a n) (hb : Below w.heap.size w w') : KA w' L w'.heap.size f a n := (h.below hb).more (Nat.le_refl _) hb.size
theorem KA.nextB (h : KA w L B f a n) (hB : B ≤ w.heap.size) (hb : Below w.heap.size w w') : KA w' L B f a n := h.below (hb.mono hB)
theorem KA.alloc (h : KA w L B f a n) (hB : B ≤ w.heap.size) (o : Obj) : KA (w.alloc o) L B f a n := h.keep (Nat.le_refl _) (Nat.le_refl _) fun p _ hp => World.cell?_alloc_lt w o p (by omega)
theorem KA.setCell (h : KA w L B f a n) {g : Nat} (hg : g < L ∨ B ≤ g) (i : Nat) (u : Value) : KA (w.setCell ⟨g, i, none⟩ u) L B f a n :=
  h.keep (Nat.le_refl _) (Nat.le_refl _) fun p h1 h2 => World.cell?_setCell_other w _ _ _ (by rintro rfl; simp at h1 h2; omega)
theorem KA.nil : KA w L B .nil a 0 := ⟨rfl, fun h => absurd h (by omega)⟩
theorem KA.get (h : KA w L B f a n) {j : Nat} (hj : j < n) :
    ∃ b off k s ks a' n' c', a = some ⟨b, off, none⟩ ∧ L ≤ b ∧ b < B ∧ f.get j = some (k, s, ks) ∧ w.cell? ⟨b, off + j * 3, none⟩ = some (.int .i64 k) ∧ w.cell? ⟨b, off + j * 3 + 1, none⟩ = some (.string s) ∧
      w.cell? ⟨b, off + j * 3 + 2, none⟩ = some (.slice a' n' c') ∧ n' ≤ c' ∧ KA w L B ks a' n' := by
  obtain ⟨b, off, ha, hb, hc, hs⟩ := h.2 (by omega)
  obtain ⟨⟨k, s, ks⟩, hg⟩ := Fo.get_some (f := f) (j := j) (by have := h.1; omega)
  obtain ⟨h1, h2, a', n', c', h3, h4, h5⟩ := seg_get hs hg
  exact ⟨b, off, k, s, ks, a', n', c', ha, hb, hc, hg, h1, h2, h3, h4, h5⟩
end
end Go.Proofs.Ytecekkmagldpoaa

namespace Go.Proofs.Ytecekkmagldpoaa
set_option linter.unusedVariables false
set_option linter.unusedSimpArgs false
open Go.RowKit

/-- a block of cells that nothing has frozen -/
def Pln (w : World) (b : Nat) : Prop := ∃ cs T, w.heap[b]? = some (.cells cs T (0, 0))
theorem Pln.block {w w' : World} {b : Nat} (h : Pln w b) (e : w'.heap[b]? = w.heap[b]?) : Pln w' b := let ⟨cs, T, h⟩ := h; ⟨cs, T, e.trans h⟩
theorem Pln.lt {w : World} {b : Nat} (h : Pln w b) : b < w.heap.size := let ⟨_, _, h⟩ := h; blk_lt h
/-- these nodes lie side by side from a place on, in blocks that nothing has frozen -/
def RdF (w : World) : Fo → Nat → Nat → Prop
  | .nil, _, _ => True
  | .node k s ks r, b, off => w.cell? ⟨b, off, none⟩ = some (.int .i64 k) ∧ w.cell? ⟨b, off + 1, none⟩ = some (.string s) ∧
      (∃ a n c, w.cell? ⟨b, off + 2, none⟩ = some (.slice a n c) ∧ ks.len = n ∧ n ≤ c ∧ (0 < n → ∃ b' off', a = some ⟨b', off', none⟩ ∧ Pln w b' ∧ RdF w ks b' off')) ∧ RdF w r b (off + 3)
/-- a slice of such nodes -/
def RdA (w : World) (f : Fo) (a : Option Addr) (n : Nat) : Prop := f.len = n ∧ (0 < n → ∃ b off, a = some ⟨b, off, none⟩ ∧ Pln w b ∧ RdF w f b off)
/-- such a node at a place -/
def RdN (w : World) (k : Int) (s : ByteArray) (ks : Fo) (p : Nat × Nat) : Prop := Pln w p.1 ∧ w.cell? ⟨p.1, p.2, none⟩ = some (.int .i64 k) ∧ w.cell? ⟨p.1, p.2 + 1, none⟩ = some (.string s) ∧
  ∃ a n c, w.cell? ⟨p.1, p.2 + 2, none⟩ = some (.slice a n c) ∧ n ≤ c ∧ RdA w ks a n
/-- the place of an operand -/
def kid : Option Addr → Nat → Nat × Nat
  | some ad, i => (ad.block, ad.off + i * 3)
  | none, _ => (0, 0)
theorem fo_none : ∀ {f : Fo} {j : Nat}, f.len ≤ j → f.get j = none
  | .nil, _, _ => rfl
  | .node _ _ _ r, 0, h => absurd h (by simp [Fo.len])
  | .node _ _ _ r, j + 1, h => fo_none (f := r) (by simp only [Fo.len] at h; omega)
section
variable {w w' : World}
theorem rdF_get : ∀ {f : Fo} {b off j : Nat} {k : Int} {s : ByteArray} {ks : Fo}, Pln w b → RdF w f b off → f.get j = some (k, s, ks) → RdN w k s ks (b, off + j * 3)
  | .nil, _, _, _, _, _, _, _, _, h => by simp [Fo.get] at h
  | .node k s ks r, b, off, 0, _, _, _, hb, ⟨h1, h2, ⟨a, n, c, h3, h4, h5, h6⟩, h7⟩, h => by
    simp only [Fo.get, Option.some.injEq, Prod.mk.injEq] at h
    obtain ⟨rfl, rfl, rfl⟩ := h
    rw [Nat.zero_mul]
    exact ⟨hb, h1, h2, a, n, c, h3, h5, h4, h6⟩
  | .node k s ks r, b, off, j + 1, _, _, _, hb, ⟨_, _, _, h7⟩, h => by
    have := rdF_get (f := r) (j := j) hb h7 h
    rwa [show off + (j + 1) * 3 = off + 3 + j * 3 from by omega]
theorem RdA.get {f : Fo} {a : Option Addr} {n j : Nat} (h : RdA w f a n) (hj : j < n) : ∃ k s ks, f.get j = some (k, s, ks) ∧ RdN w k s ks (kid a j) := by
  obtain ⟨h1, h2⟩ := h
  obtain ⟨b, off, rfl, hb, hf⟩ := h2 (by omega)
  obtain ⟨⟨k, s, ks⟩, hg⟩ := Fo.get_some (f := f) (j := j) (by omega)
  exact ⟨k, s, ks, hg, rdF_get hb hf hg⟩
theorem rdF_keep (hk : ∀ b : Nat, b < w.heap.size → w'.heap[b]? = w.heap[b]?) : ∀ {f : Fo} {b off : Nat}, b < w.heap.size → RdF w f b off → RdF w' f b off
  | .nil, _, _, _, _ => trivial
  | .node k s ks r, b, off, hb, ⟨h1, h2, ⟨a, n, c, h3, h4, h5, h6⟩, h7⟩ => by
    have hc : ∀ i, w'.cell? ⟨b, i, none⟩ = w.cell? ⟨b, i, none⟩ := fun i => World.cell?_of_block (hk b hb)
    refine ⟨(hc _).trans h1, (hc _).trans h2, ⟨a, n, c, (hc _).trans h3, h4, h5, fun hn => ?_⟩, rdF_keep hk hb h7⟩
    obtain ⟨b', off', e, hp, hf⟩ := h6 hn
    exact ⟨b', off', e, hp.block (hk b' hp.lt), rdF_keep hk hp.lt hf⟩
theorem RdA.keep {f : Fo} {a : Option Addr} {n : Nat} (h : RdA w f a n) (hk : ∀ b : Nat, b < w.heap.size → w'.heap[b]? = w.heap[b]?) : RdA w' f a n :=
  ⟨h.1, fun hn => let ⟨b, off, e, hp, hf⟩ := h.2 hn; ⟨b, off, e, hp.block (hk b hp.lt), rdF_keep hk hp.lt hf⟩⟩
theorem RdN.keep {k : Int} {s : ByteArray} {ks : Fo} {p : Nat × Nat} (h : RdN w k s ks p) (hk : ∀ b : Nat, b < w.heap.size → w'.heap[b]? = w.heap[b]?) : RdN w' k s ks p := by
  obtain ⟨h0, h1, h2, a, n, c, h3, h4, h5⟩ := h
  have hc : ∀ i, w'.cell? ⟨p.1, i, none⟩ = w.cell? ⟨p.1, i, none⟩ := fun i => World.cell?_of_block (hk p.1 h0.lt)
  exact ⟨h0.block (hk p.1 h0.lt), (hc _).trans h1, (hc _).trans h2, a, n, c, (hc _).trans h3, h4, h5.keep hk⟩
theorem rdA_inj (N : Nat) : ∀ {ks ks' : Fo} {a : Option Addr} {n : Nat}, ks.size ≤ N → RdA w ks a n → RdA w ks' a n → ks = ks' := by
  induction N with
  | zero =>
    intro ks ks' a n hN h h'
    have := ks.len_size
    have h0 : n = 0 := by rw [← h.1]; omega
    refine Fo.ext fun j => ?_
    rw [fo_none (by rw [h.1]; omega), fo_none (by rw [h'.1]; omega)]
  | succ N ih =>
    intro ks ks' a n hN h h'
    refine Fo.ext fun j => ?_
    by_cases hj : j < n
    · obtain ⟨k, s, f, hg, hr⟩ := h.get hj
      obtain ⟨k', s', f', hg', hr'⟩ := h'.get hj
      obtain ⟨_, h1, h2, a1, n1, c1, h3, _, h5⟩ := hr
      obtain ⟨_, h1', h2', a2, n2, c2, h3', _, h5'⟩ := hr'
      rw [h1] at h1'
      rw [h2] at h2'
      rw [h3] at h3'
      cases h1'
      cases h2'
      cases h3'
      rw [hg, hg', ih (by have := Fo.get_size hg; omega) h5 h5']
    · rw [fo_none (by rw [h.1]; omega), fo_none (by rw [h'.1]; omega)]
/-- one place holds one node -/
theorem RdN.inj {k k' : Int} {s s' : ByteArray} {ks ks' : Fo} {p : Nat × Nat} (h : RdN w k s ks p) (h' : RdN w k' s' ks' p) : k = k' ∧ s = s' ∧ ks = ks' := by
  obtain ⟨_, h1, h2, a1, n1, c1, h3, _, h5⟩ := h
  obtain ⟨_, h1', h2', a2, n2, c2, h3', _, h5'⟩ := h'
  rw [h1] at h1'
  rw [h2] at h2'
  rw [h3] at h3'
  cases h1'
  cases h2'
  cases h3'
  exact ⟨rfl, rfl, rdA_inj ks.size (Nat.le_refl _) h5 h5'⟩
end
end Go.Proofs.Ytecekkmagldpoaa

namespace Go.Proofs.Ytecekkmagldpoaa
set_option linter.unusedVariables false
set_option linter.unusedSimpArgs false
open Go.RowKit

/-- a pair of addresses -/
abbrev Pr := (Nat × Nat) × (Nat × Nat)
def Pr.val (m : Pr) : Value := .agg #[.pointer (some ⟨m.1.1, m.1.2, none⟩), .pointer (some ⟨m.2.1, m.2.2, none⟩)]
def PPln (w : World) (m : Pr) : Prop := Pln w m.1.1 ∧ Pln w m.2.1
theorem expr_infoE : (Try.prog.info? 25).map (fun i => (i.zero, i.size, i.bytes)) = some (some (.agg #[.int .i64 0, .string .empty, .slice none 0 0]), 3, 48) := by kernel_rfl

theorem run_eq_ptr (w : World) (d : Nat) (p q : Nat × Nat) (hp : Pln w p.1) (hq : Pln w q.1) : (Op.equalIn (d + 1) 46 (.pointer (some ⟨p.1, p.2, none⟩)) (.pointer (some ⟨q.1, q.2, none⟩))).run Try.prog w = .ok (decide (p = q)) w := by
  obtain ⟨i, hi, hz0, hz1, hz2⟩ := info_parts expr_infoE
  have hu := Try.underlying46
  have hs : i.size ≠ 0 := by rw [hz1]; decide
  by_cases e : p = q
  · subst e
    simp [Op.equalIn, run_underlying hu, sizeOf, typeInfo, hi, hz1, run_sameAddr_same]
  · obtain ⟨c1, t1, h1⟩ := hp
    obtain ⟨c2, t2, h2⟩ := hq
    have hne : (⟨p.1, p.2, none⟩ : Addr) ≠ ⟨q.1, q.2, none⟩ := by
      intro h
      simp only [Addr.mk.injEq, and_true] at h
      exact e (Prod.ext h.1 h.2)
    simp [Op.equalIn, run_underlying hu, sizeOf, typeInfo, hi, hz1, run_sameAddr_other w hne h1 h2, e]

theorem run_eq_pair (w : World) (m m' : Pr) (h : PPln w m) (h' : PPln w m') : (Op.equal 48 m.val m'.val).run Try.prog w = .ok (decide (m = m')) w := by
  have hu := Try.underlying48
  have e1 := run_eq_ptr w 9998 m.1 m'.1 h.1 h'.1
  have e2 := run_eq_ptr w 9998 m.2 m'.2 h.2 h'.2
  rw [show 9998 + 1 = 9999 from rfl] at e1 e2
  unfold Op.equal Op.maxDepth Pr.val
  rw [show (10000 : Nat) = 9998 + 1 + 1 from rfl, run_equalIn_agg w (9998 + 1) 48 _ _ (by kernel_rfl) (by kernel_rfl)]
  simp only [Program.fieldsOf, hu, Op.eqFields]
  have hp0 := fun (a b : Value) => show (part 46 #[a, b] 0).run Try.prog w = .ok a w by
    simp [part, isAgg, run_underlying Try.underlying46]
  have hp1 := fun (a b : Value) => show (part 46 #[a, b] 1).run Try.prog w = .ok b w by
    simp [part, isAgg, run_underlying Try.underlying46]
  simp only [ne_eq, String.reduceEq, not_false_eq_true, if_true, Sem.run_bind, hp0, hp1, Result.andThen_ok, Nat.reduceAdd, e1, e2, Sem.run_ite, Sem.run_pure]
  by_cases h1 : m.1 = m'.1 <;> by_cases h2 : m.2 = m'.2 <;> simp [h1, h2, Prod.ext_iff]

/-- block b is the set of these pairs -/
def MapP (w : World) (b : Nat) (M : List Pr) : Prop := ∃ es clock, w.heap[b]? = some (.map es clock) ∧ es.toList.map (fun e => e.key) = M.map Pr.val ∧ ∀ e ∈ es.toList, e.val = .bool true
theorem MapP.lt {w : World} {b : Nat} {M : List Pr} (h : MapP w b M) : b < w.heap.size := let ⟨_, _, h, _⟩ := h; blk_lt h
theorem MapP.block {w w' : World} {b : Nat} {M : List Pr} (h : MapP w b M) (e : w'.heap[b]? = w.heap[b]?) : MapP w' b M := let ⟨es, c, h1, h2⟩ := h; ⟨es, c, e.trans h1, h2⟩

theorem run_find (w : World) (m : Pr) (hm : PPln w m) : ∀ (es : List MapEntry) (M : List Pr) (i : Nat), es.map (fun e => e.key) = M.map Pr.val → (∀ e ∈ es, e.val = .bool true) → (∀ x ∈ M, PPln w x) →
    if m ∈ M then ∃ j, (Instr.findAsking 48 m.val es i).run Try.prog w = .ok (some (j, .bool true)) w else (Instr.findAsking 48 m.val es i).run Try.prog w = .ok none w
  | [], [], i, _, _, _ => by simp [Instr.findAsking]
  | [], _ :: _, i, h, _, _ => by simp at h
  | _ :: _, [], i, h, _, _ => by simp at h
  | e :: es, x :: M, i, h, hv, hp => by
    simp only [List.map_cons, List.cons.injEq] at h
    obtain ⟨h1, h2⟩ := h
    have hr := run_eq_pair w m x hm (hp x (by simp))
    have ih := run_find w m hm es M (i + 1) h2 (fun e he => hv e (by simp [he])) (fun y hy => hp y (by simp [hy]))
    unfold Instr.findAsking
    rw [h1]
    by_cases hx : m = x
    · subst hx
      rw [if_pos (by simp)]
      refine ⟨i, ?_⟩
      simp [hr, hv e (by simp)]
    · by_cases hM : m ∈ M
      · rw [if_pos hM] at ih
        rw [if_pos (by simp [hM])]
        simpa [hr, hx] using ih
      · rw [if_neg hM] at ih
        rw [if_neg (by simp [hx, hM])]
        simpa [hr, hx] using ih

theorem run_checkPair (w : World) (em : Bool) (m : Pr) : (Instr.checkKey em 10000 48 m.val).run Try.prog w = .ok () w := by
  have hu := Try.underlying48
  have hp0 := fun (a b : Value) => show (part 46 #[a, b] 0).run Try.prog w = .ok a w by
    simp [part, isAgg, run_underlying Try.underlying46]
  have hp1 := fun (a b : Value) => show (part 46 #[a, b] 1).run Try.prog w = .ok b w by
    simp [part, isAgg, run_underlying Try.underlying46]
  have hc := fun (d : Nat) (a : Option Addr) => show (Instr.checkKey em (d + 1) 46 (.pointer a)).run Try.prog w = .ok () w by
    simp [Instr.checkKey, run_underlying Try.underlying46]
  have hc1 := hc 9998
  rw [show 9998 + 1 = 9999 from rfl] at hc1
  unfold Pr.val
  rw [show (10000 : Nat) = 9999 + 1 from rfl, Instr.checkKey]
  simp [run_underlying hu, hp0, hp1, hc1]

theorem run_look (w : World) (m : Pr) (hm : PPln w m) (b : Nat) (M : List Pr) (h : MapP w b M) (hp : ∀ x ∈ M, PPln w x) :
    (Instr.lookup 45 (.map (some b)) m.val false).run Try.prog w = .ok (.bool (decide (m ∈ M))) w := by
  obtain ⟨es, clock, h1, h2, h3⟩ := h
  have hf := run_find w m hm es.toList M 0 h2 h3 hp
  have hk := run_findKey_eq (P := Try.prog) w (k := 48) (by rw [Try.underlying48]) m.val es.toList
  have hz : (zeroValue 4).run Try.prog w = .ok (.bool false) w := by kernel_rfl
  have hu := run_underlying (P := Try.prog) (w := w) Try.underlying45
  have hc := run_checkPair w es.isEmpty m
  by_cases hx : m ∈ M
  · rw [if_pos hx] at hf
    obtain ⟨j, hf⟩ := hf
    simp [Instr.lookup, hu, MapKept.run_getObj_map h1, hc, hk, hf, hx]
  · rw [if_neg hx] at hf
    simp [Instr.lookup, hu, MapKept.run_getObj_map h1, hc, hk, hf, hx, hz]

theorem run_put (w : World) (m : Pr) (hm : PPln w m) (b : Nat) (M : List Pr) (h : MapP w b M) (hp : ∀ x ∈ M, PPln w x) (hx : m ∉ M) :
    ∃ w', (Instr.mapUpdate 45 (.map (some b)) m.val (.bool true)).run Try.prog w = .ok () w' ∧ MapP w' b (M ++ [m]) ∧ w.grownBy w' (some b) := by
  obtain ⟨es, clock, h1, h2, h3⟩ := h
  have hf := run_find w m hm es.toList M 0 h2 h3 hp
  have hk := run_findKey_eq (P := Try.prog) w (k := 48) (by rw [Try.underlying48]) m.val es.toList
  have hu := run_underlying (P := Try.prog) (w := w) Try.underlying45
  have hc := run_checkPair w false m
  rw [if_neg hx] at hf
  have hbl := blk_lt h1
  refine ⟨_, by simp [Instr.mapUpdate, hu, MapKept.run_getObj_map h1, hc, hk, hf, MapKept.run_setObj_map _ h1, Result.andThen]; rfl, ⟨es.push { key := m.val, val := .bool true, born := clock }, clock + 1, ?_, ?_, ?_⟩, ?_⟩
  · simp [hbl]
  · simp [h2]
  · intro e he
    simp only [Array.toList_push, List.mem_append, List.mem_singleton] at he
    rcases he with he | rfl
    · exact h3 e he
    · rfl
  · refine ⟨rfl, rfl, rfl, by simp, fun k hk hne => ?_⟩
    have : k ≠ b := fun e => hne (by rw [e])
    simp [Array.getElem?_setIfInBounds, this.symm]
end Go.Proofs.Ytecekkmagldpoaa

namespace Go.Proofs.Ytecekkmagldpoaa
set_option linter.unusedVariables false
set_option linter.unusedSimpArgs false
open Go.RowKit

section
variable {w w' : World}
/-- two nodes that agree but for their operands, the pairs of which are in M -/
def LocP (w : World) (M : Pr → Prop) (m : Pr) : Prop := ∃ k s ks ks' a a' n c c', RdN w k s ks m.1 ∧ RdN w k s ks' m.2 ∧ w.cell? ⟨m.1.1, m.1.2 + 2, none⟩ = some (.slice a n c) ∧ w.cell? ⟨m.2.1, m.2.2 + 2, none⟩ = some (.slice a' n c') ∧ ∀ i, i < n → M (kid a i, kid a' i)
theorem LocP.more {M M' : Pr → Prop} {m : Pr} (h : LocP w M m) (hM : ∀ x, M x → M' x) : LocP w M' m :=
  let ⟨k, s, ks, ks', a, a', n, c, c', h1, h2, h3, h4, h5⟩ := h
  ⟨k, s, ks, ks', a, a', n, c, c', h1, h2, h3, h4, fun i hi => hM _ (h5 i hi)⟩
/-- in a closed set stand pairs of equal trees only -/
theorem closed_eq {M : Pr → Prop} (hM : ∀ m, M m → LocP w M m) (N : Nat) : ∀ {k k' : Int} {s s' : ByteArray} {ks ks' : Fo} {m : Pr}, ks.size ≤ N → RdN w k s ks m.1 → RdN w k' s' ks' m.2 → M m → k = k' ∧ s = s' ∧ ks = ks' := by
  induction N with
  | zero =>
    intro k k' s s' ks ks' m hN h h' hm
    obtain ⟨k1, s1, f, f', a, a', n, c, c', h1, h2, h3, h4, h5⟩ := hM m hm
    obtain ⟨rfl, rfl, rfl⟩ := h.inj h1
    obtain ⟨rfl, rfl, rfl⟩ := h'.inj h2
    refine ⟨rfl, rfl, ?_⟩
    obtain ⟨_, _, _, a1, n1, c1, e1, _, e2⟩ := h
    obtain ⟨_, _, _, a2, n2, c2, e3, _, e4⟩ := h'
    rw [h3] at e1
    rw [h4] at e3
    cases e1
    cases e3
    have := ks.len_size
    have h0 : n = 0 := by rw [← e2.1]; omega
    refine Fo.ext fun j => ?_
    rw [fo_none (by rw [e2.1]; omega), fo_none (by rw [e4.1]; omega)]
  | succ N ih =>
    intro k k' s s' ks ks' m hN h h' hm
    obtain ⟨k1, s1, f, f', a, a', n, c, c', h1, h2, h3, h4, h5⟩ := hM m hm
    obtain ⟨rfl, rfl, rfl⟩ := h.inj h1
    obtain ⟨rfl, rfl, rfl⟩ := h'.inj h2
    refine ⟨rfl, rfl, ?_⟩
    obtain ⟨_, _, _, a1, n1, c1, e1, _, e2⟩ := h
    obtain ⟨_, _, _, a2, n2, c2, e3, _, e4⟩ := h'
    rw [h3] at e1
    rw [h4] at e3
    cases e1
    cases e3
    refine Fo.ext fun j => ?_
    by_cases hj : j < n
    · obtain ⟨kj, sj, fj, hg, hr⟩ := e2.get hj
      obtain ⟨kj', sj', fj', hg', hr'⟩ := e4.get hj
      obtain ⟨rfl, rfl, rfl⟩ := ih (m := (kid a j, kid a' j)) (by have := Fo.get_size hg; omega) hr hr' (h5 j hj)
      rw [hg, hg']
    · rw [fo_none (by rw [e2.1]; omega), fo_none (by rw [e4.1]; omega)]
/-- how many nodes the left trees of these pairs have -/
def SumS (w : World) : List Pr → Nat → Prop
  | [], N => N = 0
  | m :: W, N => ∃ k s ks N', RdN w k s ks m.1 ∧ SumS w W N' ∧ N = ks.size + 1 + N'
theorem SumS.len : ∀ {W : List Pr} {N : Nat}, SumS w W N → W.length ≤ N
  | [], _, _ => Nat.zero_le _
  | m :: W, N, ⟨k, s, ks, N', _, h, e⟩ => by have := SumS.len h; simp only [List.length_cons]; omega
theorem SumS.push {k : Int} {s : ByteArray} {ks : Fo} {m : Pr} (hr : RdN w k s ks m.1) : ∀ {W : List Pr} {N : Nat}, SumS w W N → SumS w (W ++ [m]) (N + (ks.size + 1))
  | [], N, h => ⟨k, s, ks, 0, hr, rfl, by simp only [SumS] at h; omega⟩
  | x :: W, N, ⟨k', s', ks', N', h1, h2, e⟩ => ⟨k', s', ks', _, h1, SumS.push hr h2, by omega⟩
theorem SumS.pop {k : Int} {s : ByteArray} {ks : Fo} {m : Pr} (hr : RdN w k s ks m.1) : ∀ {W : List Pr} {N : Nat}, SumS w (W ++ [m]) N → ∃ N', SumS w W N' ∧ N = N' + (ks.size + 1)
  | [], N, ⟨k', s', ks', N', h1, h2, e⟩ => by
    obtain ⟨_, _, rfl⟩ := hr.inj h1
    simp only [SumS] at h2
    exact ⟨0, rfl, by omega⟩
  | x :: W, N, ⟨k', s', ks', N', h1, h2, e⟩ => by
    obtain ⟨N2, h3, h4⟩ := SumS.pop hr h2
    exact ⟨_, ⟨k', s', ks', N2, h1, h3, rfl⟩, by omega⟩
/-- where the comparison stands: M has been compared, W is still to be -/
structure EqI (w : World) (root : Pr) (req : Prop) (M W : List Pr) : Prop where
  rd : ∀ m ∈ W, ∃ k s ks k' s' ks', RdN w k s ks m.1 ∧ RdN w k' s' ks' m.2 ∧ (req → k = k' ∧ s = s' ∧ ks = ks')
  loc : ∀ m ∈ M, LocP w (fun x => x ∈ M ∨ x ∈ W) m
  rt : root ∈ M ∨ root ∈ W
  pl : ∀ m ∈ M, PPln w m
section
variable {root m : Pr} {req : Prop} {M W : List Pr}
theorem EqI.start {k k' : Int} {s s' : ByteArray} {ks ks' : Fo} (h : RdN w k s ks root.1) (h' : RdN w k' s' ks' root.2) : EqI w root (k = k' ∧ s = s' ∧ ks = ks') [] [root] :=
  ⟨fun m hm => by obtain rfl : m = root := by simpa using hm
                  exact ⟨k, s, ks, k', s', ks', h, h', id⟩, fun m hm => by simp at hm, .inr (by simp), fun m hm => by simp at hm⟩
/-- a pair that has been compared goes -/
theorem EqI.drop (h : EqI w root req M (W ++ [m])) (hm : m ∈ M) : EqI w root req M W := by
  have hx : ∀ x, x ∈ M ∨ x ∈ W ++ [m] → x ∈ M ∨ x ∈ W := by
    rintro x (h | h)
    · exact .inl h
    · rcases List.mem_append.1 h with h | h
      · exact .inr h
      · obtain rfl : x = m := by simpa using h
        exact .inl hm
  exact ⟨fun y hy => h.rd y (List.mem_append_left _ hy), fun y hy => (h.loc y hy).more hx, hx _ h.rt, h.pl⟩
/-- a pair is compared, its operands are still to be -/
theorem EqI.next {k : Int} {s : ByteArray} {ks ks' : Fo} {a a' : Option Addr} {n c c' : Nat} (h : EqI w root req M (W ++ [m])) (h1 : RdN w k s ks m.1) (h2 : RdN w k s ks' m.2) (h3 : w.cell? ⟨m.1.1, m.1.2 + 2, none⟩ = some (.slice a n c)) (h4 : w.cell? ⟨m.2.1, m.2.2 + 2, none⟩ = some (.slice a' n c')) :
    EqI w root req (M ++ [m]) (W ++ (List.range n).map fun i => (kid a i, kid a' i)) := by
  have hx : ∀ x, x ∈ M ∨ x ∈ W ++ [m] → x ∈ M ++ [m] ∨ x ∈ W ++ (List.range n).map fun i => (kid a i, kid a' i) := by
    rintro x (h | h)
    · exact .inl (List.mem_append_left _ h)
    · rcases List.mem_append.1 h with h | h
      · exact .inr (List.mem_append_left _ h)
      · exact .inl (List.mem_append_right _ h)
  obtain ⟨k1, s1, f1, k2, s2, f2, r1, r2, hq⟩ := h.rd m (by simp)
  obtain ⟨rfl, rfl, rfl⟩ := r1.inj h1
  obtain ⟨rfl, rfl, rfl⟩ := r2.inj h2
  refine ⟨fun y hy => ?_, fun y hy => ?_, hx _ h.rt, fun y hy => ?_⟩
  · rcases List.mem_append.1 hy with hy | hy
    · exact h.rd y (List.mem_append_left _ hy)
    · obtain ⟨i, hi, rfl⟩ := List.mem_map.1 hy
      have hi := List.mem_range.1 hi
      obtain ⟨_, _, _, a1, n1, c1, e1, _, e2⟩ := h1
      obtain ⟨_, _, _, a2, n2, c2, e3, _, e4⟩ := h2
      rw [h3] at e1
      rw [h4] at e3
      cases e1
      cases e3
      obtain ⟨kj, sj, fj, hg, hr⟩ := e2.get hi
      obtain ⟨kj', sj', fj', hg', hr'⟩ := e4.get hi
      refine ⟨kj, sj, fj, kj', sj', fj', hr, hr', fun hr => ?_⟩
      have := (hq hr).2.2
      rw [this, hg'] at hg
      simp only [Option.some.injEq, Prod.mk.injEq] at hg
      exact ⟨hg.1.symm, hg.2.1.symm, hg.2.2.symm⟩
  · rcases List.mem_append.1 hy with hy | hy
    · exact (h.loc y hy).more hx
    · obtain rfl : y = m := by simpa using hy
      exact ⟨_, _, _, _, a, a', n, c, c', h1, h2, h3, h4, fun i hi => .inr (List.mem_append_right _ (List.mem_map.2 ⟨i, List.mem_range.2 hi, rfl⟩))⟩
  · rcases List.mem_append.1 hy with hy | hy
    · exact h.pl y hy
    · obtain rfl : y = m := by simpa using hy
      exact ⟨h1.1, h2.1⟩
/-- nothing is left: the trees are equal -/
theorem EqI.done {k k' : Int} {s s' : ByteArray} {ks ks' : Fo} (h : EqI w root req M []) (h1 : RdN w k s ks root.1) (h2 : RdN w k' s' ks' root.2) : k = k' ∧ s = s' ∧ ks = ks' := by
  refine closed_eq (M := fun x => x ∈ M) (fun m hm => (h.loc m hm).more fun x hx => ?_) ks.size (Nat.le_refl _) h1 h2 ?_
  · rcases hx with hx | hx
    · exact hx
    · simp at hx
  · rcases h.rt with hx | hx
    · exact hx
    · simp at hx
end
/-- the sizes of a node's operands -/
theorem SumS.kids {ks : Fo} {a a' : Option Addr} {n : Nat} (h : RdA w ks a n) : ∀ {W : List Pr} {N : Nat} (j : Nat), j ≤ n → SumS w W N → ∃ N', SumS w (W ++ (List.range j).map fun i => (kid a i, kid a' i)) N' ∧ N' + (ks.drop j).size = N + ks.size
  | W, N, 0, _, hs => ⟨N, by simpa using hs, by rw [Fo.drop_zero]⟩
  | W, N, j + 1, hj, hs => by
    obtain ⟨N', h1, h2⟩ := SumS.kids (a' := a') h j (by omega) hs
    obtain ⟨k, s, f, hg, hr⟩ := h.get (show j < n by omega)
    refine ⟨N' + (f.size + 1), ?_, ?_⟩
    · rw [List.range_succ, List.map_append, ← List.append_assoc]
      exact SumS.push (m := (kid a j, kid a' j)) hr h1
    · rw [Fo.drop_get hg] at h2
      simp only [Fo.size] at h2
      omega
end
end Go.Proofs.Ytecekkmagldpoaa

namespace Go.Proofs.Ytecekkmagldpoaa
set_option linter.unusedVariables false
open Go.RowKit

theorem run_append_at {P : Program} (w : World) (base : Nat) (t ty e : TypeId) (i : TypeInfo) (z : Value) (size bytes : Nat) (ht : P.underlying t = some (.slice e)) (hi : P.info? e = some i) (hz : i.zero = some z)
    (hsize : i.size = size) (hby : i.bytes = bytes) (hzs : z.cells.size = size) (hsz : 0 < size)
    (v : Value) (n : Nat) (xs : List Value) (hown : w.ownsRow base e size v n xs)
    (a : Addr) (m c : Nat) (news : List Value) (hl : news.length = m * size) (hnews : ∀ j u, news[j]? = some u → w.cell? (a.add j) = some u) (h1 : ∀ u ∈ news, u.oneCell' = true)
    (h63 : n + m ≤ maxLen) (hbytes : (n + m) * bytes ≤ 140737488355328) (hbase : base ≤ w.heap.size) :
    ∃ v' w', (Builtin.append_ #[t, t] ty #[v, .slice (some a) m c]).run P w = .ok v' w' ∧ w'.ownsRow base e size v' (n + m) (xs ++ news) ∧ w.grownBy w' v.ownBlock ∧
      (v'.ownBlock = v.ownBlock ∨ ∀ g, v'.ownBlock = some g → w.heap.size ≤ g) := by
  obtain ⟨v', w', hr, h2, h3, _⟩ := run_append_own (P := P) w base t ty e i z size bytes ht hi hz hsize hby hzs hsz v n xs hown a m c news hl hnews h1 h63 hbytes hbase
  refine ⟨v', w', hr, h2, h3, ?_⟩
  rcases hown.2 with ⟨rfl, rfl⟩ | ⟨g, cap, cur, rfl, hbg, hg, hnc, hcm, hcs, htake⟩
  · have hx : xs = [] := List.eq_nil_of_length_eq_zero (by simpa using hown.1)
    subst hx
    obtain ⟨v2, w2, hr2, h4, _, _⟩ := run_append_own (P := P) w w.heap.size t ty e i z size bytes ht hi hz hsize hby hzs hsz (.slice none 0 0) 0 [] (World.ownsRow_nil w _ _ _) a m c news hl hnews h1 h63 hbytes (Nat.le_refl _)
    rw [hr2] at hr
    cases hr
    exact .inr fun g hg => (World.ownsRow.lt h4 g hg).1
  · by_cases hroom : n + m ≤ cap
    · have hfit : n * i.size + news.length ≤ cur.size := by rw [hl, hcs, hsize, ← Nat.add_mul]; exact Nat.mul_le_mul_right _ hroom
      have hr2 := run_append_room (P := P) w t ty e i ht hi g n cap cur hg a m c news (by rw [hsize]; exact hl) hnews h1 hroom hfit
      rw [hr2] at hr
      cases hr
      exact .inl rfl
    · have holds : ∀ j u, xs[j]? = some u → w.cell? ((⟨g, 0, none⟩ : Addr).add j) = some u := hown.cells (g := g) rfl
      have hsmall : n + m ≤ 9223372036854775807 := by simp only [maxLen] at h63; omega
      have hr2 := run_append_grow (P := P) w t ty e i z ht hi hz ⟨g, 0, none⟩ n cap xs (by rw [hsize]; exact hown.1) holds a m c news (by rw [hsize]; exact hl) hnews (by omega) (by omega) (growslice_fits (by omega) (by rw [hby]; exact hbytes))
      rw [hr2] at hr
      cases hr
      refine .inr fun g' hg' => ?_
      simp [Value.ownBlock] at hg'
      omega

theorem wp_append_at {P : Program} {o : Oper} {a : Act} {w : World} {K : Act → World → Prop} {Q : Exit → Act → World → Prop} (s x : Operand) (t : TypeId)
    (ho : o.op = .call { callee := .builtin .append, args := #[s, x], argTypes := #[t, t] })
    (base : Nat) (e : TypeId) (i : TypeInfo) (z : Value) (size bytes : Nat) (ht : P.underlying t = some (.slice e)) (hi : P.info? e = some i) (hz : i.zero = some z)
    (hsize : i.size = size) (hby : i.bytes = bytes) (hzs : z.cells.size = size) (hsz : 0 < size)
    (v : Value) (n : Nat) (xs : List Value) (hs : a.eval s = v) (hown : w.ownsRow base e size v n xs)
    (ad : Addr) (m c : Nat) (news : List Value) (hx : a.eval x = .slice (some ad) m c) (hl : news.length = m * size) (hnews : ∀ j u, news[j]? = some u → w.cell? (ad.add j) = some u) (h1 : ∀ u ∈ news, u.oneCell' = true)
    (h63 : n + m ≤ maxLen) (hbytes : (n + m) * bytes ≤ 140737488355328) (hbase : base ≤ w.heap.size)
    (h : ∀ v' w', w'.ownsRow base e size v' (n + m) (xs ++ news) → w.grownBy w' v.ownBlock → (v'.ownBlock = v.ownBlock ∨ ∀ g, v'.ownBlock = some g → w.heap.size ≤ g) → K (a.put o.dst v') w') : o.wp P a w K Q := by
  obtain ⟨v', w', hr, h2, h3, h4⟩ := run_append_at (P := P) w base t o.type e i z size bytes ht hi hz hsize hby hzs hsz v n xs hown ad m c news hl hnews h1 h63 hbytes hbase
  unfold Oper.wp execOp
  simp only [ho, resolve, invoke, builtin, Sem.run_bind, Sem.run_pure, Result.andThen_ok, List.map_toArray, List.map_cons, List.map_nil, hs, hx, hr]
  exact h v' w' h2 h3 h4

theorem wpList_append_at {P : Program} {w : World} {ops : Array Oper} {rest : List Oper} {o : Oper} {a : Act} {Q : Exit → Act → World → Prop} (hgd : o.guard = none) (s x : Operand) (t : TypeId)
    (ho : o.op = .call { callee := .builtin .append, args := #[s, x], argTypes := #[t, t] })
    (base : Nat) (e : TypeId) (i : TypeInfo) (z : Value) (size bytes : Nat) (ht : P.underlying t = some (.slice e)) (hi : P.info? e = some i) (hz : i.zero = some z)
    (hsize : i.size = size) (hby : i.bytes = bytes) (hzs : z.cells.size = size) (hsz : 0 < size)
    (v : Value) (n : Nat) (xs : List Value) (hs : a.eval s = v) (hown : w.ownsRow base e size v n xs)
    (ad : Addr) (m c : Nat) (news : List Value) (hx : a.eval x = .slice (some ad) m c) (hl : news.length = m * size) (hnews : ∀ j u, news[j]? = some u → w.cell? (ad.add j) = some u) (h1 : ∀ u ∈ news, u.oneCell' = true)
    (h63 : n + m ≤ maxLen) (hbytes : (n + m) * bytes ≤ 140737488355328) (hbase : base ≤ w.heap.size)
    (h : ∀ v' w', w'.ownsRow base e size v' (n + m) (xs ++ news) → w.grownBy w' v.ownBlock → (v'.ownBlock = v.ownBlock ∨ ∀ g, v'.ownBlock = some g → w.heap.size ≤ g) → wpList P ops Q rest (a.put o.dst v') w') : wpList P ops Q (o :: rest) a w :=
  wpList_plain hgd fun _ hK => wp_append_at s x t ho base e i z size bytes ht hi hz hsize hby hzs hsz v n xs hs hown ad m c news hx hl hnews h1 h63 hbytes hbase fun v' w' h2 h3 h4 => hK _ _ (h v' w' h2 h3 h4)
end Go.Proofs.Ytecekkmagldpoaa

namespace Go.Proofs.Ytecekkmagldpoaa
set_option linter.unusedVariables false
set_option linter.unusedSimpArgs false
open Go.RowKit

def prcells : List Pr → List Value
  | [] => []
  | m :: W => .pointer (some ⟨m.1.1, m.1.2, none⟩) :: .pointer (some ⟨m.2.1, m.2.2, none⟩) :: prcells W
theorem prcells_len : ∀ W : List Pr, (prcells W).length = W.length * 2
  | [] => rfl
  | m :: W => by simp only [prcells, List.length_cons, prcells_len W]; omega
theorem prcells_app : ∀ W V : List Pr, prcells (W ++ V) = prcells W ++ prcells V
  | [], V => rfl
  | m :: W, V => by simp only [List.cons_append, prcells, prcells_app W V]
/-- a list of pairs of one's own -/
def OwnPr (w : World) (base : Nat) (v : Value) (W : List Pr) : Prop := w.ownsRow base 48 2 v W.length (prcells W)
theorem pairs_under : Try.prog.underlying 49 = some (.slice 48) := by kernel_rfl
theorem pair_info : (Try.prog.info? 48).map (fun i => (i.zero, i.size, i.bytes)) = some (some (.agg #[.pointer none, .pointer none]), 2, 16) := by kernel_rfl
section
variable {w w' : World} {base g cap : Nat} {v : Value} {W : List Pr} {m : Pr}
theorem OwnPr.one (w : World) (m : Pr) (hb : base ≤ w.heap.size) : OwnPr (w.alloc (.cells #[.pointer (some ⟨m.1.1, m.1.2, none⟩), .pointer (some ⟨m.2.1, m.2.2, none⟩)] 48)) base (.slice (some ⟨w.heap.size, 0, none⟩) 1 1) [m] :=
  ⟨rfl, .inr ⟨w.heap.size, 1, _, rfl, hb, heap_alloc_new w _, Nat.le_refl _, by simp [maxLen], rfl, rfl⟩⟩
theorem OwnPr.cells (h : OwnPr w base (.slice (some ⟨g, 0, none⟩) (W.length + 1) cap) (W ++ [m])) : w.cell? ⟨g, W.length * 2, none⟩ = some (.pointer (some ⟨m.1.1, m.1.2, none⟩)) ∧ w.cell? ⟨g, W.length * 2 + 1, none⟩ = some (.pointer (some ⟨m.2.1, m.2.2, none⟩)) := by
  have hc : ∀ j u, (prcells (W ++ [m]))[j]? = some u → w.cell? ⟨g, j, none⟩ = some u := fun j u hu => by
    have := World.ownsRow.cells h (g := g) rfl j u hu
    rwa [add_none, Nat.zero_add] at this
  have hl := prcells_len W
  constructor
  · refine hc _ _ ?_
    rw [prcells_app, List.getElem?_append_right (by omega), hl, Nat.sub_self]
    rfl
  · refine hc _ _ ?_
    rw [prcells_app, List.getElem?_append_right (by omega), hl, show W.length * 2 + 1 - W.length * 2 = 1 from by omega]
    rfl
theorem OwnPr.room (h : OwnPr w base (.slice (some ⟨g, 0, none⟩) (W.length + 1) cap) (W ++ [m])) : W.length + 1 ≤ cap := by
  rcases h.2 with ⟨h1, _⟩ | ⟨g', cap', cur, e, h1, h2, h3, h4, h5, h6⟩
  · cases h1
  · simp only [Value.slice.injEq, Option.some.injEq, Addr.mk.injEq] at e
    obtain ⟨⟨rfl, _⟩, _, rfl⟩ := e
    simpa using h3
/-- the last pair goes -/
theorem OwnPr.cut (h : OwnPr w base (.slice (some ⟨g, 0, none⟩) (W.length + 1) cap) (W ++ [m])) : OwnPr w base (.slice (some ⟨g, 0, none⟩) W.length cap) W := by
  refine ⟨prcells_len W, .inr ?_⟩
  rcases h.2 with ⟨h1, _⟩ | ⟨g', cap', cur, e, h1, h2, h3, h4, h5, h6⟩
  · cases h1
  · simp only [Value.slice.injEq, Option.some.injEq, Addr.mk.injEq] at e
    obtain ⟨⟨rfl, _⟩, _, rfl⟩ := e
    refine ⟨g, cap, cur, rfl, h1, h2, by omega, h4, h5, ?_⟩
    have := congrArg (List.take (W.length * 2)) h6
    rw [List.take_take, prcells_app, Nat.min_eq_left (by simp; omega), List.take_append_of_le_length (by rw [prcells_len]; omega)] at this
    exact this.trans (List.take_of_length_le (by rw [prcells_len]; omega))
theorem OwnPr.kept {r : Option Nat} (h : OwnPr w base v W) (hg : w.grownBy w' r) (hr : ∀ k, r = some k → k < base ∨ w.heap.size ≤ k) : OwnPr w' base v W :=
  World.ownsRow.kept h hg (by
    cases hv : v.ownBlock with
    | none => exact .inl rfl
    | some b => exact .inr fun e => by have := World.ownsRow.lt h b hv; have := hr b e.symm; omega)
theorem OwnPr.alloc (h : OwnPr w base v W) (o : Obj) : OwnPr (w.alloc o) base v W := World.ownsRow.alloc h o
theorem OwnPr.lt (h : OwnPr w base v W) : ∀ k, v.ownBlock = some k → base ≤ k ∧ k < w.heap.size := World.ownsRow.lt h
end
section
variable {w : World} {ops : Array Oper} {rest : List Oper} {o : Oper} {a : Act} {Q : Exit → Act → World → Prop}
theorem wpList_look_pair (hg : o.guard = none) (x y : Operand) (hop : o.op = Op.lookup 45 x y false) (b : Nat) (M : List Pr) (hm : a.eval x = .map (some b)) (hmap : MapP w b M) (m : Pr) (hx : a.eval y = m.val) (hk : PPln w m) (hp : ∀ x ∈ M, PPln w x) (r : Bool) (hr : decide (m ∈ M) = r)
    (hK : wpList Try.prog ops Q rest (a.put o.dst (.bool r)) w) : wpList Try.prog ops Q (o :: rest) a w := by
  refine wpList_plain hg fun K' hK' => ?_
  have hrun := run_look w m hk b M hmap hp
  rw [hr] at hrun
  unfold Oper.wp
  simp [execOp, hop, hm, hx, hrun, Result.andThen]
  exact hK' _ _ hK
theorem wpList_put_pair (hg : o.guard = none) (x y z : Operand) (hop : o.op = Op.mapUpdate 45 x y z) (b : Nat) (M : List Pr) (hm : a.eval x = .map (some b)) (hmap : MapP w b M) (m : Pr) (hx : a.eval y = m.val) (hv : a.eval z = .bool true) (hk : PPln w m) (hp : ∀ x ∈ M, PPln w x) (hn : m ∉ M)
    (hK : ∀ w', MapP w' b (M ++ [m]) → w.grownBy w' (some b) → wpList Try.prog ops Q rest (a.put o.dst undef) w') : wpList Try.prog ops Q (o :: rest) a w := by
  refine wpList_plain hg fun K' hK' => ?_
  obtain ⟨w', hrun, r1, r2⟩ := run_put w m hk b M hmap hp hn
  unfold Oper.wp
  simp [execOp, hop, hm, hx, hv, hrun, Result.andThen]
  exact hK' _ _ (hK w' r1 r2)
end
/-- one more pair, at a step of a region that draws -/
theorem step_append_pair {w : World} {ops : Array Oper} {o : Oper} {a : Act} {K : Act → World → Prop} {Q : Exit → Act → World → Prop} {E : Prop} (hgd : o.guard = none) (s x : Operand)
    (ho : o.op = .call { callee := .builtin .append, args := #[s, x], argTypes := #[49, 49] })
    (base : Nat) (v : Value) (W : List Pr) (hs : a.eval s = v) (hown : OwnPr w base v W) (g c1 : Nat) (hx : a.eval x = .slice (some ⟨g, 0, none⟩) 1 c1) (m : Pr) {T : TypeId}
    (hbx : w.heap[g]? = some (.cells #[.pointer (some ⟨m.1.1, m.1.2, none⟩), .pointer (some ⟨m.2.1, m.2.2, none⟩)] T (0, 0))) (n : Nat) (hn : W.length = n) (h63 : n ≤ 1000000000) (hbase : base ≤ w.heap.size)
    (h : ∀ g cap w', OwnPr w' base (.slice (some ⟨g, 0, none⟩) (n + 1) cap) (W ++ [m]) → w.grownBy w' v.ownBlock → g < w'.heap.size → (v.ownBlock = some g ∨ w.heap.size ≤ g) → K (a.put o.dst (.slice (some ⟨g, 0, none⟩) (n + 1) cap)) w') :
    if Region.wanted o (yielded ops a.tmps) = true then Oper.wp Try.prog o a w K Q else E := by
  subst hn
  have hw : Region.wanted o (yielded ops a.tmps) = true := by simp [Region.wanted, hgd]
  rw [if_pos hw]
  obtain ⟨i, hi, hz0, hz1, hz2⟩ := info_parts pair_info
  refine wp_append_at s x 49 ho base 48 i _ 2 16 pairs_under hi hz0 hz1 hz2 rfl (by decide) v W.length _ hs hown ⟨g, 0, none⟩ 1 c1 (prcells [m]) hx rfl ?_ (by simp [prcells, Value.oneCell']) (by simp only [maxLen]; omega) (by omega) hbase fun v' w' h3 h4 h5 => ?_
  · intro j u hu
    rw [add_none, cell_of_row _ _ _ _ _ _ hbx, Nat.zero_add]
    simpa [prcells] using hu
  · have h6 : OwnPr w' base v' (W ++ [m]) := by
      unfold OwnPr
      rw [prcells_app]
      simpa using h3
    obtain ⟨g', cap', rfl, h7, h8⟩ := World.ownsRow.form h6 (by simp)
    rw [show (W ++ [m]).length = W.length + 1 from by simp] at h6 ⊢
    refine h g' cap' w' h6 h4 h8 ?_
    rcases h5 with h5 | h5
    · exact .inl h5.symm
    · exact .inr (h5 g' rfl)
end Go.Proofs.Ytecekkmagldpoaa

namespace Go.Proofs.Ytecekkmagldpoaa
set_option linter.unusedVariables false
set_option linter.unusedSimpArgs false
open Go.RowKit

/-- a box with a pair -/
def PrBx (w : World) (g : Nat) (m : Pr) : Prop := w.heap[g]? = some (.cells #[.pointer (some ⟨m.1.1, m.1.2, none⟩), .pointer (some ⟨m.2.1, m.2.2, none⟩)] 48 (0, 0))
theorem PrBx.cells {w : World} {g : Nat} {m : Pr} (h : PrBx w g m) : w.cell? ⟨g, 0, none⟩ = some (.pointer (some ⟨m.1.1, m.1.2, none⟩)) ∧ w.cell? ⟨g, 1, none⟩ = some (.pointer (some ⟨m.2.1, m.2.2, none⟩)) := ⟨by rw [cell_of_row _ _ _ _ _ _ h]; rfl, by rw [cell_of_row _ _ _ _ _ _ h]; rfl⟩
theorem PrBx.frozen {w : World} {g : Nat} {m : Pr} (h : PrBx w g m) (i : Nat) : w.frozen? ⟨g, i, none⟩ = false := blk_frozen h i
theorem RdN.box (w : World) (k : Int) (s : ByteArray) (ks : Fo) (a : Option Addr) (n c : Nat) (hk : RdA w ks a n) (hc : n ≤ c) : RdN (w.alloc (.cells #[.int .i64 k, .string s, .slice a n c] 25)) k s ks (w.heap.size, 0) := by
  have h := heap_alloc_new w (.cells #[.int .i64 k, .string s, .slice a n c] 25)
  exact ⟨⟨_, _, h⟩, by rw [cell_of_row _ _ _ _ _ _ h]; rfl, by rw [cell_of_row _ _ _ _ _ _ h]; rfl, a, n, c, by rw [cell_of_row _ _ _ _ _ _ h]; rfl, hc, hk.keep fun b hb => Below.heap_alloc w _ b hb⟩

theorem eq_step {wr w7 w2 : World} {o : Obj} {g6 bm R : Nat} {M : List Pr} {m : Pr} (hg : ((wr.alloc o).drew).grownBy w7 (some g6)) (hm : MapP wr bm M) (hb : PrBx wr R m) (hB : Below w2.heap.size w2 wr) (h1 : bm < g6) (h2 : g6 ≠ R) (h3 : w2.heap.size ≤ g6) :
    MapP w7 bm M ∧ PrBx w7 R m ∧ Below w2.heap.size w2 w7 ∧ R < w7.heap.size := by
  have hR : R < wr.heap.size := blk_lt hb
  have hbm := hm.lt
  have hk : ∀ x, x < wr.heap.size → x ≠ g6 → w7.heap[x]? = wr.heap[x]? := fun x hx hne => (hg.block x (by show x < (wr.alloc o).heap.size; simp; omega) (by simpa using hne)).trans (Below.heap_alloc wr o x hx)
  have hsz : (wr.alloc o).heap.size ≤ w7.heap.size := hg.size
  simp only [World.size_alloc] at hsz
  exact ⟨hm.block (hk _ hbm (by omega)), (hk _ hR (by omega)).trans hb, ((hB.alloc hB.size o).drew).grown hg (by show w2.heap.size ≤ (wr.alloc o).heap.size; have := hB.size; simp; omega) (fun k e => by injection e with e; omega), by omega⟩

set_option maxRecDepth 100000 in
set_option maxHeartbeats 8000000 in
theorem eqI_any (b : Bool) (k k' : Int) (s s' : ByteArray) (ks ks' : Fo) (hb : b = true ↔ (k = k' ∧ s = s' ∧ ks = ks')) (a a' : Option Addr) (n n' c c' : Nat) (w : World) (h1 : RdA w ks a n) (h2 : RdA w ks' a' n') (hc : n ≤ c) (hc' : n' ≤ c') (hz : ks.size ≤ 1048576) (hfit : s.size ≤ maxLen ∧ n ≤ maxLen ∧ n' ≤ maxLen) :
    Calls Try.prog 10 #[.agg #[.int .i64 k, .string s, .slice a n c], .agg #[.int .i64 k', .string s', .slice a' n' c']] w fun e w' => e = .returned (.bool b) ∧ Below w.heap.size w w' := by
  have B2 := ((Below.refl w.heap.size w).alloc (Nat.le_refl _) (.cells #[.int .i64 k, .string s, .slice a n c] 25)).alloc (by simp) (.cells #[.int .i64 k', .string s', .slice a' n' c'] 25)
  have R1 := (RdN.box w k s ks a n c h1 hc).keep (fun g hg => Below.heap_alloc (w.alloc (.cells #[.int .i64 k, .string s, .slice a n c] 25)) (.cells #[.int .i64 k', .string s', .slice a' n' c'] 25) g hg)
  have R2 := RdN.box (w.alloc (.cells #[.int .i64 k, .string s, .slice a n c] 25)) k' s' ks' a' n' c' (h2.keep fun g hg => Below.heap_alloc w _ g hg) hc'
  rw [World.size_alloc] at R2
  have hE := EqI.start (root := ((w.heap.size, 0), (w.heap.size + 1, 0))) R1 R2
  have hS : SumS ((w.alloc (.cells #[.int .i64 k, .string s, .slice a n c] 25)).alloc (.cells #[.int .i64 k', .string s', .slice a' n' c'] 25)) [((w.heap.size, 0), (w.heap.size + 1, 0))] (ks.size + 1) := ⟨k, s, ks, 0, R1, rfl, by omega⟩
  have hO := fun W => run_makeMap_plain (P := Try.prog) W 45
  have HE := Lib.hid hE
  have HS := Lib.hid hS
  have HR := Lib.hid (And.intro R1 R2)
  have Hb := Lib.hid hb
  have Hz2 := Lib.hid (show ((w.alloc (.cells #[.int .i64 k, .string s, .slice a n c] 25)).alloc (.cells #[.int .i64 k', .string s', .slice a' n' c'] 25)).heap.size = w.heap.size + 2 from by simp)
  clear hE hS R1 R2 h1 h2 hb hfit
  go_enter Try.func10, Try.ntmps10
  go_wp2_with fail
  generalize hw2 : (w.alloc (.cells #[.int .i64 k, .string s, .slice a n c] 25)).alloc (.cells #[.int .i64 k', .string s', .slice a' n' c'] 25) = w2 at *
  have hD := Hz2.out
  have hD' : w2.heap.size = w.heap.size + 1 + 1 := by omega
  have HD := Lib.hid hD
  have hM0 := Lib.hid (show MapP (w2.alloc (.map #[] 0)) (w.heap.size + 1 + 1) [] from ⟨#[], 0, by rw [← hD']; exact heap_alloc_new w2 _, rfl, by simp⟩)
  have hO0 := OwnPr.one (base := w.heap.size + 1 + 1 + 1) (w2.alloc (.map #[] 0)) ((w.heap.size, 0), (w.heap.size + 1, 0)) (by simp; omega)
  rw [World.size_alloc, hD'] at hO0
  have HO0 := Lib.hid hO0
  have HB0 := Lib.hid (((Below.refl w2.heap.size w2).alloc (Nat.le_refl _) (.map #[] 0)).alloc (by simp) (.cells #[.pointer (some ⟨w.heap.size, 0, none⟩), .pointer (some ⟨w.heap.size + 1, 0, none⟩)] 48))
  have HB2 := Lib.hid B2
  clear hD hO0 B2 hw2 Hz2 hD'
  go_loopg [6] (ks.size + 1) (fun N v wr => ∃ (M W : List Pr) (g cap : Nat), v = .slice (some ⟨g, 0, none⟩) W.length cap ∧ OwnPr wr (w.heap.size + 1 + 1 + 1) (.slice (some ⟨g, 0, none⟩) W.length cap) W ∧ MapP wr (w.heap.size + 1 + 1) M ∧ EqI w2 ((w.heap.size, 0), (w.heap.size + 1, 0)) (k = k' ∧ s = s' ∧ ks = ks') M W ∧ SumS w2 W N ∧ N ≤ 1048577 ∧ Below w2.heap.size w2 wr)
  case atStart => exact ⟨[], [((w.heap.size, 0), (w.heap.size + 1, 0))], _, 1, rfl, HO0.out, hM0.out.block (Below.heap_alloc _ _ _ (by have := hM0.out.lt; exact this)), HE.out, HS.out, by omega, HB0.out⟩
  case round =>
    obtain ⟨M, W, g, cap, rfl, hown, hmap, hE, hS, hN, hB⟩ := hrel
    clear HO0 hM0 HB0 HE HS
    rcases List.eq_nil_or_concat W with rfl | ⟨W', m, hW⟩
    · have hbt : b = true := Hb.out.2 (EqI.done hE HR.out.1 HR.out.2)
      have Hbt := Lib.hid hbt
      have HB := Lib.hid (HB2.out.trans (hB.mono HB2.out.size))
      clear hown hmap hE hS hB hbt
      go_wp2_with fail
      go_ret
      exact ⟨ret_bool Hbt.out.symm, HB.out⟩
    · simp only [List.concat_eq_append] at hW
      subst hW
      simp only [show (W' ++ [m]).length = W'.length + 1 from by simp] at hown ⊢
      obtain ⟨k1, s1, f1, k2, s2, f2, r1, r2, hq⟩ := hE.rd m (by simp)
      obtain ⟨hx1, hx2⟩ := hown.cells
      obtain ⟨N', hS', hNN⟩ := SumS.pop r1 hS
      have hlenW : W'.length ≤ 1048576 := by have := hS'.len; omega
      have hroom := hown.room
      have hblt := hmap.lt
      have hroom' : W'.length ≤ cap := by omega
      have hcut := hown.cut
      have hD := HD.out
      have hgl := (hown.lt g rfl).2
      obtain ⟨⟨mb, mo⟩, ⟨qb, qo⟩⟩ := m
      have hkeep : ∀ x : Nat, x < w2.heap.size → wr.heap[x]? = w2.heap[x]? := fun x hx => hB.block x hx
      have hpm : PPln wr ((mb, mo), (qb, qo)) := ⟨r1.1.block (hkeep _ r1.1.lt), r2.1.block (hkeep _ r2.1.lt)⟩
      have hpM : ∀ x ∈ M, PPln wr x := fun x hx => ⟨(hE.pl x hx).1.block (hkeep _ (hE.pl x hx).1.lt), (hE.pl x hx).2.block (hkeep _ (hE.pl x hx).2.lt)⟩
      simp only at hx1 hx2
      have HpA := Lib.hid (show PPln (wr.alloc (.cells #[.pointer (some ⟨mb, mo, none⟩), .pointer (some ⟨qb, qo, none⟩)] 48)) ((mb, mo), (qb, qo)) from ⟨hpm.1.block (Below.heap_alloc _ _ _ hpm.1.lt), hpm.2.block (Below.heap_alloc _ _ _ hpm.2.lt)⟩)
      have HpB := Lib.hid (show ∀ x ∈ M, PPln (wr.alloc (.cells #[.pointer (some ⟨mb, mo, none⟩), .pointer (some ⟨qb, qo, none⟩)] 48)) x from fun x hx => ⟨(hpM x hx).1.block (Below.heap_alloc _ _ _ (hpM x hx).1.lt), (hpM x hx).2.block (Below.heap_alloc _ _ _ (hpM x hx).2.lt)⟩)
      have HmA := Lib.hid (hmap.block (w' := wr.alloc (.cells #[.pointer (some ⟨mb, mo, none⟩), .pointer (some ⟨qb, qo, none⟩)] 48)) (Below.heap_alloc _ _ _ hmap.lt))
      have HBA := Lib.hid (hB.alloc hB.size (.cells #[.pointer (some ⟨mb, mo, none⟩), .pointer (some ⟨qb, qo, none⟩)] 48))
      have HcA := Lib.hid (hcut.alloc (.cells #[.pointer (some ⟨mb, mo, none⟩), .pointer (some ⟨qb, qo, none⟩)] 48))
      have HS' := Lib.hid (And.intro hS' hNN)
      have HE := Lib.hid hE
      have Hr := Lib.hid (And.intro r1 (And.intro r2 hq))
      have HBw := Lib.hid hB
      have hlw : w2.heap.size ≤ wr.heap.size := hB.size
      clear hS hS' hNN hcut hpm hpM hkeep hmap hE hown hq r1 r2 hB
      by_cases hmem : ((mb, mo), (qb, qo)) ∈ M
      · have Hd := Lib.hid (show decide (((mb, mo), (qb, qo)) ∈ M) = true by simpa using hmem)
        have Hmem := Lib.hid hmem
        clear hmem
        go_wp2_with ((at_lookup; refine wpList_look_pair rfl _ _ rfl (w.heap.size + 1 + 1) M rfl HmA.out ((mb, mo), (qb, qo)) rfl HpA.out HpB.out true Hd.out ?_))
        go_roundg N'
        case measure => have := HS'.out.2; omega
        case rel => exact ⟨M, W', g, cap, rfl, HcA.out, HmA.out, HE.out.drop Hmem.out, HS'.out.1, by have := HS'.out.2; omega, HBA.out⟩
      · have Hd := Lib.hid (show decide (((mb, mo), (qb, qo)) ∈ M) = false by simpa using hmem)
        have Hmem := Lib.hid hmem
        clear hmem
        obtain ⟨r1, r2, hq⟩ := Hr.out
        obtain ⟨_, _, _, a1, n1, c1, e13, hc1, hA1⟩ := id r1
        obtain ⟨_, _, _, a2, n2, c2, e23, hc2, hA2⟩ := id r2
        have hn1 : n1 ≤ 1048576 := by have := HS'.out.2; have := f1.len_size; rw [← hA1.1]; omega
        have hl1 := r1.1.lt
        have hl2 := r2.1.lt
        simp only at e13 e23 hl1 hl2
        have Hcc := Lib.hid (And.intro e13 e23)
        have HA := Lib.hid (And.intro hA1 hA2)
        have Hrr := Lib.hid (And.intro r1 r2)
        have Hq := Lib.hid hq
        clear r1 r2 hq hA1 hA2 e13 e23
        have mid : ∀ w5, (wr.alloc (.cells #[.pointer (some ⟨mb, mo, none⟩), .pointer (some ⟨qb, qo, none⟩)] 48)).grownBy w5 (some (w.heap.size + 1 + 1)) → PrBx w5 wr.heap.size ((mb, mo), (qb, qo)) ∧ Below w2.heap.size w2 w5 ∧ OwnPr w5 (w.heap.size + 1 + 1 + 1) (.slice (some ⟨g, 0, none⟩) W'.length cap) W' := by
          intro w5 hg5
          refine ⟨(hg5.block wr.heap.size (by simp) (by simp; omega)).trans (heap_alloc_new wr _), HBA.out.grown hg5 (by simp; omega) (fun k e => by cases e; omega), HcA.out.kept hg5 fun k e => by cases e; omega⟩
        have Hmid := Lib.hid mid
        clear mid
        by_cases hkk : k1 = k2
        case neg =>
          have hbf : b = false := by
            cases b with
            | false => rfl
            | true => exact absurd (Hq.out (Hb.out.1 rfl)).1 hkk
          have Hbf := Lib.hid hbf
          clear hbf
          have hkb : (k1 != k2) = true := by simpa using hkk
          go_wp2_with (first
            | (at_lookup; refine wpList_look_pair rfl _ _ rfl (w.heap.size + 1 + 1) M rfl HmA.out ((mb, mo), (qb, qo)) rfl HpA.out HpB.out false Hd.out ?_)
            | (at_mapUpdate; refine wpList_put_pair rfl _ _ _ rfl (w.heap.size + 1 + 1) M rfl HmA.out ((mb, mo), (qb, qo)) rfl rfl HpA.out HpB.out Hmem.out ?_; intro w5 hm5 hg5; obtain ⟨hb5, hB5, ho5⟩ := Hmid.out w5 hg5; obtain ⟨p0, p1⟩ := hb5.cells; obtain ⟨_, d1, d2, _⟩ := Hrr.out.1.keep fun x hx => hB5.block x hx; obtain ⟨_, g1, g2, _⟩ := Hrr.out.2.keep fun x hx => hB5.block x hx; have d3 := (hB5.cell (p := ⟨mb, mo + 2, none⟩) hl1).trans Hcc.out.1; have g3 := (hB5.cell (p := ⟨qb, qo + 2, none⟩) hl2).trans Hcc.out.2; dsimp only at p0 p1 d1 d2 d3 g1 g2 g3))
          go_quiet (fail)
          have HB5 := Lib.hid (HB2.out.trans (hB5.mono HB2.out.size))
          clear hm5 hg5 hb5 hB5 ho5
          go_wp2_with fail
          go_ret
          exact ⟨ret_bool Hbf.out.symm, below_drewN HB5.out _⟩
        case pos =>
        subst hkk
        have hkb : (k1 != k1) = false := by simp
        by_cases hss : s1 = s2
        case neg =>
          have hbf : b = false := by
            cases b with
            | false => rfl
            | true => exact absurd (Hq.out (Hb.out.1 rfl)).2.1 hss
          have Hbf := Lib.hid hbf
          clear hbf
          have hsb : (s1.toList == s2.toList) = false := by
            rw [beq_eq_false_iff_ne]
            intro e
            exact hss (ByteArray.ext (by simpa [ByteArray.toList_eq] using congrArg List.toArray e))
          go_wp2_with (first
            | (at_lookup; refine wpList_look_pair rfl _ _ rfl (w.heap.size + 1 + 1) M rfl HmA.out ((mb, mo), (qb, qo)) rfl HpA.out HpB.out false Hd.out ?_)
            | (at_mapUpdate; refine wpList_put_pair rfl _ _ _ rfl (w.heap.size + 1 + 1) M rfl HmA.out ((mb, mo), (qb, qo)) rfl rfl HpA.out HpB.out Hmem.out ?_; intro w5 hm5 hg5; obtain ⟨hb5, hB5, ho5⟩ := Hmid.out w5 hg5; obtain ⟨p0, p1⟩ := hb5.cells; obtain ⟨_, d1, d2, _⟩ := Hrr.out.1.keep fun x hx => hB5.block x hx; obtain ⟨_, g1, g2, _⟩ := Hrr.out.2.keep fun x hx => hB5.block x hx; have d3 := (hB5.cell (p := ⟨mb, mo + 2, none⟩) hl1).trans Hcc.out.1; have g3 := (hB5.cell (p := ⟨qb, qo + 2, none⟩) hl2).trans Hcc.out.2; dsimp only at p0 p1 d1 d2 d3 g1 g2 g3))
          go_quiet (fail)
          have HB5 := Lib.hid (HB2.out.trans (hB5.mono HB2.out.size))
          clear hm5 hg5 hb5 hB5 ho5
          go_wp2_with fail
          go_ret
          exact ⟨ret_bool Hbf.out.symm, below_drewN HB5.out _⟩
        case pos =>
        have hsb : (s1.toList == s2.toList) = true := by rw [hss]; simp
        have Hss := Lib.hid hss
        clear hss
        by_cases hnn : n1 = n2
        case neg =>
          have hbf : b = false := by
            cases b with
            | false => rfl
            | true => exact absurd (show n1 = n2 from by have := (Hq.out (Hb.out.1 rfl)).2.2; rw [← HA.out.1.1, ← HA.out.2.1, this]) hnn
          have Hbf := Lib.hid hbf
          clear hbf
          have hnb : ((n1 : Int) != (n2 : Int)) = true := by rw [bne_iff_ne]; omega
          go_wp2_with (first
            | (at_lookup; refine wpList_look_pair rfl _ _ rfl (w.heap.size + 1 + 1) M rfl HmA.out ((mb, mo), (qb, qo)) rfl HpA.out HpB.out false Hd.out ?_)
            | (at_mapUpdate; refine wpList_put_pair rfl _ _ _ rfl (w.heap.size + 1 + 1) M rfl HmA.out ((mb, mo), (qb, qo)) rfl rfl HpA.out HpB.out Hmem.out ?_; intro w5 hm5 hg5; obtain ⟨hb5, hB5, ho5⟩ := Hmid.out w5 hg5; obtain ⟨p0, p1⟩ := hb5.cells; obtain ⟨_, d1, d2, _⟩ := Hrr.out.1.keep fun x hx => hB5.block x hx; obtain ⟨_, g1, g2, _⟩ := Hrr.out.2.keep fun x hx => hB5.block x hx; have d3 := (hB5.cell (p := ⟨mb, mo + 2, none⟩) hl1).trans Hcc.out.1; have g3 := (hB5.cell (p := ⟨qb, qo + 2, none⟩) hl2).trans Hcc.out.2; dsimp only at p0 p1 d1 d2 d3 g1 g2 g3))
          go_quiet (fail)
          have HB5 := Lib.hid (HB2.out.trans (hB5.mono HB2.out.size))
          clear hm5 hg5 hb5 hB5 ho5
          go_wp2_with fail
          go_ret
          exact ⟨ret_bool Hbf.out.symm, below_drewN HB5.out _⟩
        case pos =>
        have hnb : ((n1 : Int) != (n2 : Int)) = false := by rw [hnn]; simp
        have Hnn := Lib.hid hnn
        clear hnn
        go_wp2_with (first
            | (at_lookup; refine wpList_look_pair rfl _ _ rfl (w.heap.size + 1 + 1) M rfl HmA.out ((mb, mo), (qb, qo)) rfl HpA.out HpB.out false Hd.out ?_)
            | (at_mapUpdate; refine wpList_put_pair rfl _ _ _ rfl (w.heap.size + 1 + 1) M rfl HmA.out ((mb, mo), (qb, qo)) rfl rfl HpA.out HpB.out Hmem.out ?_; intro w5 hm5 hg5; obtain ⟨hb5, hB5, ho5⟩ := Hmid.out w5 hg5; obtain ⟨p0, p1⟩ := hb5.cells; obtain ⟨_, d1, d2, _⟩ := Hrr.out.1.keep fun x hx => hB5.block x hx; obtain ⟨_, g1, g2, _⟩ := Hrr.out.2.keep fun x hx => hB5.block x hx; have d3 := (hB5.cell (p := ⟨mb, mo + 2, none⟩) hl1).trans Hcc.out.1; have g3 := (hB5.cell (p := ⟨qb, qo + 2, none⟩) hl2).trans Hcc.out.2; dsimp only at p0 p1 d1 d2 d3 g1 g2 g3))
        go_quiet (fail)
        have HB5 := Lib.hid hB5
        have Ho5 := Lib.hid ho5
        have Hm5 := Lib.hid hm5
        have Hb5 := Lib.hid hb5
        have z0 : (w5.drewN nq).cell? ⟨wr.heap.size, 0, none⟩ = some (.pointer (some ⟨mb, mo, none⟩)) := p0
        have z3 : (w5.drewN nq).cell? ⟨mb, mo + 2, none⟩ = some (.slice a1 n1 c1) := d3
        clear p0 p1 d1 d2 d3 g1 g2 g3 hm5 hg5 hb5 hB5 ho5 hx1 hx2 hkb hsb hnb
        go_wp2_with fail
        generalize hR : wr.heap.size = R at *
        clear hR
        go_loopw [6, 76] (fun v i wr6 => ∃ (j g6 cap6 : Nat), j ≤ n1 ∧ i = .int .i64 j ∧ v = .slice (some ⟨g6, 0, none⟩) (W'.length + j) cap6 ∧ OwnPr wr6 (w.heap.size + 1 + 1 + 1) (.slice (some ⟨g6, 0, none⟩) (W'.length + j) cap6) (W' ++ (List.range j).map fun i => (kid a1 i, kid a2 i)) ∧ g6 ≠ R ∧ MapP wr6 (w.heap.size + 1 + 1) (M ++ [((mb, mo), (qb, qo))]) ∧ PrBx wr6 R ((mb, mo), (qb, qo)) ∧ Below w2.heap.size w2 wr6 ∧ R < wr6.heap.size) (fun _ i _ => n1 - (intOf i).toNat)
        case atStart => exact ⟨0, g, cap, Nat.zero_le _, rfl, rfl, by have := Ho5.out; simpa using (show OwnPr (w5.drewN nq) _ _ _ from this), by omega, Hm5.out, Hb5.out, below_drewN HB5.out _, blk_lt Hb5.out⟩
        case round =>
          obtain ⟨j, g6, cap6, hj, rfl, rfl, hown, hg6, hmp, hbx, hB6, hlt6⟩ := hrel
          clear z0 z3
          have Hown := Lib.hid hown
          have Hmp := Lib.hid hmp
          have Hbx := Lib.hid hbx
          have HB6 := Lib.hid hB6
          have hcs := hbx.cells
          have d3 := (hB6.cell (p := ⟨mb, mo + 2, none⟩) hl1).trans Hcc.out.1
          have g3 := (hB6.cell (p := ⟨qb, qo + 2, none⟩) hl2).trans Hcc.out.2
          clear hown hmp hbx hB6
          by_cases hlt : j < n1
          · have hlt2 : j < n2 := by have := Hnn.out; omega
            obtain ⟨b1, o1, ha1, _⟩ := HA.out.1.2 (by omega)
            obtain ⟨b2, o2, ha2, _⟩ := HA.out.2.2 (by omega)
            obtain ⟨p0, p1⟩ := hcs
            rw [ha1] at d3
            rw [ha2] at g3
            have Hk := Lib.hid (show ((kid a1 j, kid a2 j) : Pr) = ((b1, o1 + j * 3), (b2, o2 + j * 3)) from by rw [ha1, ha2]; rfl)
            dsimp only at p0 p1
            have Hst := Lib.hid (show W' ++ (List.range (j + 1)).map (fun i => ((kid a1 i, kid a2 i) : Pr)) = (W' ++ (List.range j).map fun i => ((kid a1 i, kid a2 i) : Pr)) ++ [((b1, o1 + j * 3), (b2, o2 + j * 3))] from by rw [List.range_succ, List.map_append, ← List.append_assoc, ← Hk.out]; rfl)
            have hj0 : (0 : Int) ≤ (j : Int) := by omega
            have hj1 : (j : Int) < (n1 : Int) := by omega
            have hj2 : (j : Int) < (n2 : Int) := by omega
            clear ha1 ha2
            go_wp2_with fail
            go_region_law (refine step_append_pair rfl _ _ (by rfl) (w.heap.size + 1 + 1 + 1) (.slice (some ⟨g6, 0, none⟩) (W'.length + j) cap6) (W' ++ (List.range j).map fun i => (kid a1 i, kid a2 i)) (by rfl) (by exact Hown.out.alloc _) wr.heap.size 1 (by rfl) ((b1, o1 + j * 3), (b2, o2 + j * 3)) (by exact heap_alloc_new wr _) (W'.length + j) (by simp) (by omega) (by simp; omega) ?_; intro g7 cap7 w7 hown7 hgrow7 hlt7 hbg7)
            all_goals go_wp2_with fail
            all_goals
              obtain ⟨y1, y2, y3, y4⟩ := eq_step (g6 := g6) hgrow7 Hmp.out Hbx.out HB6.out (by have := (Hown.out.lt g6 rfl).1; omega) hg6 (by have := (Hown.out.lt g6 rfl).1; omega)
              exact ⟨⟨j + 1, g7, cap7, by omega, by go_num, rfl, by rw [Hst.out]; exact hown7, by
                rcases hbg7 with e | e
                · have e3 : g6 = g7 := by injection e
                  omega
                · have e2 : (wr.alloc (.cells #[.pointer (some ⟨b1, o1 + j * 3, none⟩), .pointer (some ⟨b2, o2 + j * 3, none⟩)] 48)).heap.size ≤ g7 := e
                  simp only [World.size_alloc] at e2
                  omega, y1, y2, y3, y4⟩, by simp [intOf]; omega⟩
          · have hjn : j = n1 := by omega
            have hge : ¬ (j : Int) < (n1 : Int) := by omega
            have Hjn := Lib.hid hjn
            clear hjn
            go_wp2_with fail
            obtain ⟨N3, hN3, hN4⟩ := SumS.kids (a' := a2) HA.out.1 j (by omega) HS'.out.1
            rw [Fo.drop_all (by rw [HA.out.1.1]; have := Hjn.out; omega)] at hN4
            have hNN := HS'.out.2
            simp only [Fo.size] at hN4
            obtain rfl := Hss.out
            obtain rfl := Hnn.out
            obtain rfl := Hjn.out
            go_roundg N3
            case measure => omega
            case rel => exact ⟨M ++ [((mb, mo), (qb, qo))], W' ++ (List.range j).map (fun i => (kid a1 i, kid a2 i)), g6, cap6, by simp, by have := Hown.out; simpa using this, Hmp.out, HE.out.next Hrr.out.1 Hrr.out.2 Hcc.out.1 Hcc.out.2, hN3, by omega, HB6.out⟩
end Go.Proofs.Ytecekkmagldpoaa

namespace Go.Proofs.Ytecekkmagldpoaa
set_option linter.unusedVariables false
open Go.RowKit

/-- block g is a box with an expression -/
def BxE (w : World) (g : Nat) (k : Int) (s : ByteArray) (v : Value) (T : TypeId) : Prop := w.heap[g]? = some (.cells #[.int .i64 k, .string s, v] T (0, 0))
section
variable {w w' : World} {g : Nat} {k : Int} {s : ByteArray} {v : Value} {T : TypeId}
theorem BxE.new (w : World) (k : Int) (s : ByteArray) (v : Value) (T : TypeId) : BxE (w.alloc (.cells #[.int .i64 k, .string s, v] T)) w.heap.size k s v T := heap_alloc_new w _
theorem BxE.next (h : BxE w g k s v T) (hB : Below w.heap.size w w') : BxE w' g k s v T := (hB.block g (blk_lt h)).trans h
theorem BxE.c0 (h : BxE w g k s v T) : w.cell? ⟨g, 0, none⟩ = some (.int .i64 k) := by rw [cell_of_row _ _ _ _ _ _ h]; rfl
theorem BxE.c1 (h : BxE w g k s v T) : w.cell? ⟨g, 1, none⟩ = some (.string s) := by rw [cell_of_row _ _ _ _ _ _ h]; rfl
theorem BxE.c2 (h : BxE w g k s v T) : w.cell? ⟨g, 2, none⟩ = some v := by rw [cell_of_row _ _ _ _ _ _ h]; rfl
end
end Go.Proofs.Ytecekkmagldpoaa

namespace Go.Proofs.Ytecekkmagldpoaa
set_option linter.unusedVariables false
open Go.RowKit

/-- a box with an expression -/
def ExB (V : World) (g : Nat) (k : Int) (s : ByteArray) (ks : Fo) (a : Option Addr) (n c : Nat) (T : TypeId) : Prop := BxE V g k s (.slice a n c) T ∧ KA V 0 V.heap.size ks a n
/-- .. of a law's copy -/
def ExQ (V : World) (g : Nat) (k : Int) (s : ByteArray) (ks : Fo) (a : Option Addr) (n c : Nat) (T : TypeId) : Prop := ExB V g k s ks a n c T ∧ RdA V ks a n
section
variable {V V' : World} {g g' : Nat} {k k' : Int} {s s' : ByteArray} {ks ks' : Fo} {a a' : Option Addr} {n n' c c' : Nat} {T T' : TypeId}
theorem ExB.next (h : ExB V g k s ks a n c T) (hB : Below V.heap.size V V') : ExB V' g k s ks a n c T := ⟨h.1.next hB, h.2.next hB⟩
theorem ExQ.next (h : ExQ V g k s ks a n c T) (hB : Below V.heap.size V V') : ExQ V' g k s ks a n c T := ⟨h.1.next hB, h.2.keep fun b hb => hB.block b hb⟩
theorem ExB.three (h : ExB V g k s ks a n c T) : V.cell? ⟨g, 0, none⟩ = some (.int .i64 k) ∧ V.cell? ⟨g, 1, none⟩ = some (.string s) ∧ V.cell? ⟨g, 2, none⟩ = some (.slice a n c) := ⟨h.1.c0, h.1.c1, h.1.c2⟩
theorem and6 {a b c d e f : Prop} (H : (a ∧ b ∧ c) ∧ (d ∧ e ∧ f)) : a ∧ b ∧ c ∧ d ∧ e ∧ f := ⟨H.1.1, H.1.2.1, H.1.2.2, H.2⟩
end
/-- two drawn expressions in their boxes -/
def PrE (V : World) (g g' : Nat) (k : Int) (s : ByteArray) (ks : Fo) (a : Option Addr) (c : Nat) (k' : Int) (s' : ByteArray) (ls : Fo) (b : Option Addr) (d : Nat) : Prop := ExQ V g k s ks a ks.len c 25 ∧ ExQ V g' k' s' ls b ls.len d 25
theorem PrE.next {V V' : World} {g g' : Nat} {k k' : Int} {s s' : ByteArray} {ks ls : Fo} {a b : Option Addr} {c d : Nat} (h : PrE V g g' k s ks a c k' s' ls b d) (hB : Below V.heap.size V V') : PrE V' g g' k s ks a c k' s' ls b d := ⟨h.1.next hB, h.2.next hB⟩
end Go.Proofs.Ytecekkmagldpoaa

namespace Go.Proofs.Ytecekkmagldpoaa
set_option linter.unusedVariables false
open Go.RowKit

/-- no quote in it -/
def noQ (l : List UInt8) : Bool := l.all fun c => decide (c.toNat ≠ 39)
theorem noQ_succ (s : ByteArray) (k : Nat) (h : k < s.size) : noQ (s.data.toList.take (k + 1)) = (noQ (s.data.toList.take k) && decide (s[k].toNat ≠ 39)) := by
  unfold noQ
  rw [List.take_succ_eq_append_getElem (by simpa using h), List.all_append]
  congr 1
  simp only [List.all_cons, List.all_nil, Bool.and_true]
  rfl
theorem noQ_false (s : ByteArray) (k : Nat) (h : k < s.size) (hb : s[k].toNat = 39) : noQ s.data.toList = false := by
  have h1 := noQ_succ s k h
  rw [decide_eq_false (p := s[k].toNat ≠ 39) (by omega), Bool.and_false] at h1
  unfold noQ at h1 ⊢
  rw [← List.take_append_drop (k + 1) s.data.toList, List.all_append, h1, Bool.false_and]
/-- a text that can stand between quotes -/
def plainB (s : ByteArray) : Bool := noQ s.data.toList && textB s
/-- a number of operands that is right for a kind -/
def kidsB (k : Int) (n : Nat) : Bool := (decide (k = 1) && decide (n = 0)) || (decide (k = 3) && decide (n ≤ 4)) || (decide (k = 4) && decide (n = 4)) || ((decide (k = 2) || decide (k = 5) || decide (k = 6) || decide (k = 7)) && decide (n = 1))
/-- a node that is right, but for its operands -/
def nodeB (k : Int) (s : ByteArray) (n : Nat) : Bool := kidsB k n && plainB s && (decide (k = 1) || decide (s = .empty))
/-- well-formed down to a depth -/
def shape : Fo → Nat → Bool
  | .nil, _ => true
  | .node k s ks r, d => decide (1 ≤ d) && nodeB k s ks.len && shape ks (d - 1) && shape r d
/-- nodes down to a depth -/
def count : Fo → Nat → Nat
  | .nil, _ => 0
  | .node k s ks r, d => 1 + (if 0 < d then count ks (d - 1) else 0) + count r d
theorem count_le : ∀ (f : Fo) (d : Nat), count f d ≤ f.size
  | .nil, _ => Nat.le_refl _
  | .node k s ks r, d => by
    have h1 := count_le ks (d - 1)
    have h2 := count_le r d
    simp only [count, Fo.size]
    split <;> omega
theorem count_shape : ∀ (f : Fo) (d : Nat), shape f d = true → count f d = f.size
  | .nil, _, _ => rfl
  | .node k s ks r, d, h => by
    simp only [shape, Bool.and_eq_true, decide_eq_true_eq] at h
    have h1 := count_shape ks (d - 1) h.1.2
    have h2 := count_shape r d h.2
    simp only [count, Fo.size]
    rw [if_pos (by omega)]
    omega
/-- a valid expression -/
def validE (k : Int) (s : ByteArray) (ks : Fo) : Bool := shape (.node k s ks .nil) 6 && decide (ks.size + 1 ≤ 20)
/-- the count of nodes behind a list of operands at a depth, if all are right -/
def conv : Fo → Nat → Nat → Option Nat
  | .nil, _, m => some m
  | .node k s ks r, d, m => if m + 1 ≤ 20 ∧ d ≤ 6 then (conv ks (d + 1) (m + 1)).bind fun m' => if nodeB k s ks.len = true then conv r d m' else none else none
/-- one node -/
def conv1 (k : Int) (s : ByteArray) (ks : Fo) (d m : Nat) : Option Nat := if m + 1 ≤ 20 ∧ d ≤ 6 then (conv ks (d + 1) (m + 1)).bind fun m' => if nodeB k s ks.len = true then some m' else none else none
theorem conv_node (k : Int) (s : ByteArray) (ks r : Fo) (d m : Nat) : conv (.node k s ks r) d m = (conv1 k s ks d m).bind fun m' => conv r d m' := by
  unfold conv1
  rw [conv]
  split
  · cases conv ks (d + 1) (m + 1) with
    | none => rfl
    | some m' => simp only [Option.bind_some]; split <;> rfl
  · rfl
theorem conv_eq : ∀ (f : Fo) (d m : Nat), d ≤ 7 → m ≤ 20 → conv f d m = if shape f (7 - d) = true ∧ m + f.size ≤ 20 then some (m + f.size) else none
  | .nil, d, m, _, hm => by simp [conv, shape, Fo.size, hm]
  | .node k s ks r, d, m, hd, hm => by
    rw [conv]
    simp only [shape, Fo.size, Bool.and_eq_true, decide_eq_true_eq]
    by_cases h1 : m + 1 ≤ 20 ∧ d ≤ 6
    · rw [if_pos h1, conv_eq ks (d + 1) (m + 1) (by omega) h1.1, show 7 - (d + 1) = 7 - d - 1 from by omega]
      by_cases h2 : shape ks (7 - d - 1) = true ∧ m + 1 + ks.size ≤ 20
      · rw [if_pos h2, Option.bind_some]
        by_cases h3 : nodeB k s ks.len = true
        · rw [if_pos h3, conv_eq r d _ hd h2.2]
          by_cases h4 : shape r (7 - d) = true ∧ m + 1 + ks.size + r.size ≤ 20
          · rw [if_pos h4, if_pos ⟨⟨⟨⟨by omega, h3⟩, h2.1⟩, h4.1⟩, by omega⟩]; congr 1; omega
          · rw [if_neg h4, if_neg (fun h => h4 ⟨h.1.2, by omega⟩)]
        · rw [if_neg h3, if_neg (fun h => h3 h.1.1.1.2)]
      · rw [if_neg h2, Option.bind_none, if_neg (fun h => h2 ⟨h.1.1.2, by omega⟩)]
    · rw [if_neg h1, if_neg (fun h => h1 ⟨by omega, by have := h.1.1.1.1; omega⟩)]
theorem conv1_valid (k : Int) (s : ByteArray) (ks : Fo) : conv1 k s ks 1 0 = if validE k s ks = true then some (ks.size + 1) else none := by
  have h1 : conv (.node k s ks .nil) 1 0 = conv1 k s ks 1 0 := by
    rw [conv_node]
    cases conv1 k s ks 1 0 <;> rfl
  rw [← h1, conv_eq _ 1 0 (by omega) (by omega)]
  unfold validE
  simp only [Bool.and_eq_true, decide_eq_true_eq, Fo.size, show 7 - 1 = 6 from rfl]
  by_cases h : shape (.node k s ks .nil) 6 = true ∧ ks.size + 1 ≤ 20
  · rw [if_pos h, if_pos ⟨h.1, by omega⟩]; congr 1; omega
  · rw [if_neg h, if_neg (fun h2 => h ⟨h2.1, by omega⟩)]
theorem conv_le {f : Fo} {d m m' : Nat} (hd : d ≤ 7) (hm : m ≤ 20) (h : conv f d m = some m') : m' ≤ 20 := by
  rw [conv_eq f d m hd hm] at h
  split at h
  · cases h; omega
  · cases h
end Go.Proofs.Ytecekkmagldpoaa

namespace Go.Proofs.Ytecekkmagldpoaa
set_option linter.unusedVariables false
open Go.RowKit

set_option maxHeartbeats 400000 in
theorem between_any (s : ByteArray) (lo hi : Nat) (hlo : lo < 256) (hhi : hi < 256) (w : World) (hs : s.size ≤ maxLen) :
    Calls Try.prog 61 #[.string s, .int .u8 lo, .int .u8 hi] w fun e w' => e = .returned (.bool (btw lo hi s.data.toList)) ∧ w = w' := by
  unfold maxLen at hs
  go_enter Try.func61, Try.ntmps61
  go_wp2
  go_loop [10] (fun i => ∃ k : Nat, k ≤ s.size ∧ i = .int .i64 k ∧ btw lo hi (s.data.toList.take k) = true) (fun i => s.size - (intOf i).toNat)
  case atStart => exact ⟨0, Nat.zero_le _, rfl, rfl⟩
  case round =>
    obtain ⟨k, hk, rfl, hb⟩ := hrel
    have Hb := Lib.hid hb; clear hb
    by_cases hlt : k < s.size
    · go_wp2
      all_goals first
        | (go_ret; exact ⟨ret_bool (btw_false_of lo hi s k hlt (by omega)).symm, rfl⟩)
        | (go_round
           case rel => exact ⟨k + 1, by omega, by go_num, by rw [btw_take_succ _ _ _ _ hlt, Hb.out]; simp; omega⟩
           case measure => simp [intOf]; omega)
    · go_wp2
      go_ret
      have e : s.size = k := by omega
      exact ⟨ret_bool (by have := Hb.out; rw [List.take_of_length_le (by simp; omega)] at this; exact this.symm), rfl⟩

theorem textI_any (s : ByteArray) (w : World) (hs : s.size ≤ maxLen) :
    Calls Try.prog 56 #[.string s] w fun e w' => e = .returned (.bool (textB s)) ∧ w = w' := by
  have hs' := hs
  unfold maxLen at hs
  go_enter Try.func56, Try.ntmps56
  go_wp2_with (go_at_call 61; refine (between_any s 32 126 (by omega) (by omega) _ hs').mono ?_; rintro e w' ⟨rfl, rfl⟩)
  all_goals go_ret
  · exact ⟨ret_bool (by rw [textB, decide_eq_true (by omega)]; rfl), rfl⟩
  · exact ⟨ret_bool (by rw [textB, decide_eq_false (p := s.size ≤ 60) (by omega)]; simp), rfl⟩

set_option maxHeartbeats 400000 in
theorem textS_any (s : ByteArray) (w : World) (hs : s.size ≤ maxLen) :
    Calls Try.prog 48 #[.string s] w fun e w' => e = .returned (.bool (textB s)) ∧ w = w' := by
  unfold maxLen at hs
  go_enter Try.func48, Try.ntmps48
  go_wp2
  go_loop [3] (fun i => ∃ k : Nat, k ≤ s.size ∧ i = .int .i64 k ∧ btw 32 126 (s.data.toList.take k) = true) (fun i => s.size - (intOf i).toNat)
  case atStart => exact ⟨0, Nat.zero_le _, rfl, rfl⟩
  case round =>
    obtain ⟨k, hk, rfl, hb⟩ := hrel
    have Hb := Lib.hid hb; clear hb
    by_cases hlt : k < s.size
    · go_wp2
      all_goals first
        | (go_ret; exact ⟨ret_bool (by rw [textB, btw_false_of 32 126 s k hlt (by omega)]; simp), rfl⟩)
        | (go_round
           case rel => exact ⟨k + 1, by omega, by go_num, by rw [btw_take_succ _ _ _ _ hlt, Hb.out]; simp; omega⟩
           case measure => simp [intOf]; omega)
    · have e : s.size = k := by omega
      have H2 : Hid (btw 32 126 s.data.toList = true) := by have := Hb.out; rw [List.take_of_length_le (by simp; omega)] at this; exact this
      clear e
      go_wp2
      all_goals go_ret
      exact ⟨ret_bool (by rw [textB, H2.out]; simp; omega), rfl⟩

theorem textS_is (s : ByteArray) (w : World) (hs : s.size ≤ maxLen) {b : Bool} (h : textB s = b) :
    Calls Try.prog 48 #[.string s] w fun e w' => e = .returned (.bool b) ∧ w' = w :=
  (textS_any s w hs).mono fun e w' ⟨he, hw⟩ => ⟨by rw [he, h], hw.symm⟩

theorem textI_is (s : ByteArray) (w : World) (hs : s.size ≤ maxLen) {b : Bool} (h : textB s = b) :
    Calls Try.prog 56 #[.string s] w fun e w' => e = .returned (.bool b) ∧ w' = w :=
  (textI_any s w hs).mono fun e w' ⟨he, hw⟩ => ⟨by rw [he, h], hw.symm⟩
end Go.Proofs.Ytecekkmagldpoaa

namespace Go.Proofs.Ytecekkmagldpoaa
set_option linter.unusedVariables false
open Go.RowKit

theorem set_size (w : World) (p : Addr) (u : Value) : (w.setCell p u).heap.size = w.heap.size := by simp [World.setCell]
/-- the nodes up to a place stand in these cells -/
def DoneTo (w : World) (L B : Nat) (f : Fo) (cur : Array Value) (j : Nat) : Prop := ∀ i k s ks, i < j → f.get i = some (k, s, ks) →
  cur[i * 3]? = some (.int .i64 k) ∧ cur[i * 3 + 1]? = some (.string s) ∧ ∃ a n, cur[i * 3 + 2]? = some (.slice a n n) ∧ KA w L B ks a n
section
variable {w w' : World} {L B B' g j n : Nat} {f ks : Fo} {k : Int} {s : ByteArray} {cur : Array Value} {a : Option Addr}
theorem DoneTo.zero : DoneTo w L B f cur 0 := fun i k s ks h => absurd h (by omega)
theorem DoneTo.next (h : DoneTo w L w.heap.size f cur j) (hb : Below w.heap.size w w') : DoneTo w' L w'.heap.size f cur j := fun i k s ks hi hg =>
  let ⟨h1, h2, a, n, h3, h4⟩ := h i k s ks hi hg
  ⟨h1, h2, a, n, h3, h4.next hb⟩
theorem DoneTo.step (h : DoneTo w L B f cur j) (hg : f.get j = some (k, s, ks)) (hk : KA w L B ks a n) (hs : j * 3 + 2 < cur.size) (hL : g < L) (x y z : Value) :
    DoneTo (((w.setCell ⟨g, j * 3, none⟩ x).setCell ⟨g, j * 3 + 1, none⟩ y).setCell ⟨g, j * 3 + 2, none⟩ z) L B f
      (((cur.setIfInBounds (j * 3) (.int .i64 k)).setIfInBounds (j * 3 + 1) (.string s)).setIfInBounds (j * 3 + 2) (.slice a n n)) (j + 1) := by
  intro i k' s' ks' hi hgi
  by_cases e : i = j
  · subst e
    rw [hg] at hgi
    simp only [Option.some.injEq, Prod.mk.injEq] at hgi
    obtain ⟨rfl, rfl, rfl⟩ := hgi
    refine ⟨?_, ?_, a, n, ?_, ((hk.setCell (.inl hL) _ _).setCell (.inl hL) _ _).setCell (.inl hL) _ _⟩
    · rw [Array.getElem?_setIfInBounds_ne (by omega), Array.getElem?_setIfInBounds_ne (by omega), Array.getElem?_setIfInBounds_self_of_lt (by omega)]
    · rw [Array.getElem?_setIfInBounds_ne (by omega), Array.getElem?_setIfInBounds_self_of_lt (by simp; omega)]
    · rw [Array.getElem?_setIfInBounds_self_of_lt (by simp; omega)]
  · obtain ⟨h1, h2, a', n', h3, h4⟩ := h i k' s' ks' (by omega) hgi
    refine ⟨?_, ?_, a', n', ?_, ((h4.setCell (.inl hL) _ _).setCell (.inl hL) _ _).setCell (.inl hL) _ _⟩
    · rw [Array.getElem?_setIfInBounds_ne (by omega), Array.getElem?_setIfInBounds_ne (by omega), Array.getElem?_setIfInBounds_ne (by omega)]; exact h1
    · rw [Array.getElem?_setIfInBounds_ne (by omega), Array.getElem?_setIfInBounds_ne (by omega), Array.getElem?_setIfInBounds_ne (by omega)]; exact h2
    · rw [Array.getElem?_setIfInBounds_ne (by omega), Array.getElem?_setIfInBounds_ne (by omega), Array.getElem?_setIfInBounds_ne (by omega)]; exact h3
/-- a row of cells that holds all the nodes is the list -/
theorem DoneTo.all {e : TypeId} (h : DoneTo w (g + 1) w.heap.size f cur n) (hl : f.len = n) (hb : w.heap[g]? = some (.cells cur e (0, 0))) (hL : L ≤ g) : KA w L w.heap.size f (some ⟨g, 0, none⟩) n := by
  refine ⟨hl, fun hn => ⟨g, 0, rfl, hL, blk_lt hb, seg_of fun j k s ks hg => ?_⟩⟩
  obtain ⟨h1, h2, a, m, h3, h4⟩ := h j k s ks (by have := Fo.get_lt hg; omega) hg
  refine ⟨?_, ?_, a, m, m, ?_, Nat.le_refl _, h4.more (by omega) (Nat.le_refl _)⟩
  · rw [Nat.zero_add, cell_of_row _ _ _ _ _ _ hb]; exact h1
  · rw [Nat.zero_add, cell_of_row _ _ _ _ _ _ hb]; exact h2
  · rw [Nat.zero_add, cell_of_row _ _ _ _ _ _ hb]; exact h3
end
/-- what toExpr leaves -/
def ToP (k : Int) (s : ByteArray) (ks : Fo) (w : World) (e : Ending) (w' : World) : Prop :=
  ∃ g, e = .returned (.agg #[.int .i64 k, .string s, .slice (some ⟨g, 0, none⟩) ks.len ks.len]) ∧ KA w' w.heap.size w'.heap.size ks (some ⟨g, 0, none⟩) ks.len ∧ Below w.heap.size w w'

theorem expr_info : (Try.prog.info? 25).map (fun i => (i.zero, i.size, i.bytes)) = some (some (.agg #[.int .i64 0, .string .empty, .slice none 0 0]), 3, 48) := by kernel_rfl

end Go.Proofs.Ytecekkmagldpoaa

namespace Go.Proofs.Ytecekkmagldpoaa
set_option linter.unusedVariables false
open Go.Shelf Go.RowKit

def bren : Ren := ⟨fun | 166 => 101 | 169 => 26 | 240 => 90 | 276 => 91 | n => n,
  fun | 0 => 0 | 3 => 3 | 4 => 4 | 5 => 5 | 9 => 9 | 20 => 20 | 37 => 22 | 70 => 59 | 72 => 61 | 75 => 132 | 80 => 63 | 127 => 87 | 164 => 134 | n => n, fun n => n⟩

def brenB : Ren := ⟨fun | 166 => 101 | 167 => 89 | 169 => 26 | 240 => 90 | 276 => 91 | n => n,
  fun | 0 => 0 | 3 => 3 | 4 => 4 | 5 => 5 | 9 => 9 | 20 => 20 | 37 => 22 | 70 => 59 | 72 => 61 | 75 => 132 | 80 => 63 | 127 => 87 | 164 => 134 | n => n, fun n => n⟩

theorem bn240 : Lays.n240 Try.prog bren := {
  mixed := by kernel_rfl,
  f240 := by kernel_rfl,
  f276 := by kernel_rfl,
  t0 := by kernel_rfl,
  a0 := fun _ => by kernel_rfl,
  z0 := fun _ => by kernel_rfl,
  v0 := fun _ => by kernel_rfl,
  t4 := by kernel_rfl,
  a4 := fun _ => by kernel_rfl,
  z4 := fun _ => by kernel_rfl,
  v4 := fun _ => by kernel_rfl,
  t9 := by kernel_rfl,
  a9 := fun _ => by kernel_rfl,
  z9 := fun _ => by kernel_rfl,
  v9 := fun _ => by kernel_rfl,
  t20 := by kernel_rfl,
  a20 := fun _ => by kernel_rfl,
  z20 := fun _ => by kernel_rfl,
  v20 := fun _ => by kernel_rfl,
  t70 := by kernel_rfl,
  a70 := fun _ => by kernel_rfl,
  z70 := fun _ => by kernel_rfl,
  v70 := fun _ => by kernel_rfl,
  t72 := by kernel_rfl,
  a72 := fun _ => by kernel_rfl,
  z72 := fun _ => by kernel_rfl,
  v72 := fun _ => by kernel_rfl,
  t164 := by kernel_rfl,
  a164 := fun _ => by kernel_rfl,
  z164 := fun _ => by kernel_rfl,
  v164 := fun _ => by kernel_rfl }
theorem bn167 : Lays.n167 Try.prog brenB := {
  mixed := by kernel_rfl,
  f167 := by kernel_rfl,
  f240 := by kernel_rfl,
  f276 := by kernel_rfl,
  t0 := by kernel_rfl,
  a0 := fun _ => by kernel_rfl,
  z0 := fun _ => by kernel_rfl,
  v0 := fun _ => by kernel_rfl,
  t4 := by kernel_rfl,
  a4 := fun _ => by kernel_rfl,
  z4 := fun _ => by kernel_rfl,
  v4 := fun _ => by kernel_rfl,
  t5 := by kernel_rfl,
  a5 := fun _ => by kernel_rfl,
  z5 := fun _ => by kernel_rfl,
  v5 := fun _ => by kernel_rfl,
  t9 := by kernel_rfl,
  a9 := fun _ => by kernel_rfl,
  z9 := fun _ => by kernel_rfl,
  v9 := fun _ => by kernel_rfl,
  t20 := by kernel_rfl,
  a20 := fun _ => by kernel_rfl,
  z20 := fun _ => by kernel_rfl,
  v20 := fun _ => by kernel_rfl,
  t37 := by kernel_rfl,
  a37 := fun _ => by kernel_rfl,
  z37 := fun _ => by kernel_rfl,
  v37 := fun _ => by kernel_rfl,
  t70 := by kernel_rfl,
  a70 := fun _ => by kernel_rfl,
  z70 := fun _ => by kernel_rfl,
  v70 := fun _ => by kernel_rfl,
  t72 := by kernel_rfl,
  a72 := fun _ => by kernel_rfl,
  z72 := fun _ => by kernel_rfl,
  v72 := fun _ => by kernel_rfl,
  t75 := by kernel_rfl,
  a75 := fun _ => by kernel_rfl,
  z75 := fun _ => by kernel_rfl,
  v75 := fun _ => by kernel_rfl,
  t164 := by kernel_rfl,
  a164 := fun _ => by kernel_rfl,
  z164 := fun _ => by kernel_rfl,
  v164 := fun _ => by kernel_rfl }
theorem bn166 : Lays.n166 Try.prog bren := {
  mixed := by kernel_rfl,
  f166 := by kernel_rfl,
  f240 := by kernel_rfl,
  f276 := by kernel_rfl,
  t0 := by kernel_rfl,
  a0 := fun _ => by kernel_rfl,
  z0 := fun _ => by kernel_rfl,
  v0 := fun _ => by kernel_rfl,
  t3 := by kernel_rfl,
  a3 := fun _ => by kernel_rfl,
  z3 := fun _ => by kernel_rfl,
  v3 := fun _ => by kernel_rfl,
  t4 := by kernel_rfl,
  a4 := fun _ => by kernel_rfl,
  z4 := fun _ => by kernel_rfl,
  v4 := fun _ => by kernel_rfl,
  t9 := by kernel_rfl,
  a9 := fun _ => by kernel_rfl,
  z9 := fun _ => by kernel_rfl,
  v9 := fun _ => by kernel_rfl,
  t20 := by kernel_rfl,
  a20 := fun _ => by kernel_rfl,
  z20 := fun _ => by kernel_rfl,
  v20 := fun _ => by kernel_rfl,
  t37 := by kernel_rfl,
  a37 := fun _ => by kernel_rfl,
  z37 := fun _ => by kernel_rfl,
  v37 := fun _ => by kernel_rfl,
  t70 := by kernel_rfl,
  a70 := fun _ => by kernel_rfl,
  z70 := fun _ => by kernel_rfl,
  v70 := fun _ => by kernel_rfl,
  t72 := by kernel_rfl,
  a72 := fun _ => by kernel_rfl,
  z72 := fun _ => by kernel_rfl,
  v72 := fun _ => by kernel_rfl,
  t75 := by kernel_rfl,
  a75 := fun _ => by kernel_rfl,
  z75 := fun _ => by kernel_rfl,
  v75 := fun _ => by kernel_rfl,
  t164 := by kernel_rfl,
  a164 := fun _ => by kernel_rfl,
  z164 := fun _ => by kernel_rfl,
  v164 := fun _ => by kernel_rfl }
theorem bn169 : Lays.n169 Try.prog bren := {
  mixed := by kernel_rfl,
  f169 := by kernel_rfl,
  t0 := by kernel_rfl,
  a0 := fun _ => by kernel_rfl,
  z0 := fun _ => by kernel_rfl,
  v0 := fun _ => by kernel_rfl,
  t3 := by kernel_rfl,
  a3 := fun _ => by kernel_rfl,
  z3 := fun _ => by kernel_rfl,
  v3 := fun _ => by kernel_rfl,
  t9 := by kernel_rfl,
  a9 := fun _ => by kernel_rfl,
  z9 := fun _ => by kernel_rfl,
  v9 := fun _ => by kernel_rfl,
  t37 := by kernel_rfl,
  a37 := fun _ => by kernel_rfl,
  z37 := fun _ => by kernel_rfl,
  v37 := fun _ => by kernel_rfl,
  t70 := by kernel_rfl,
  a70 := fun _ => by kernel_rfl,
  z70 := fun _ => by kernel_rfl,
  v70 := fun _ => by kernel_rfl,
  t72 := by kernel_rfl,
  a72 := fun _ => by kernel_rfl,
  z72 := fun _ => by kernel_rfl,
  v72 := fun _ => by kernel_rfl,
  t127 := by kernel_rfl,
  a127 := fun _ => by kernel_rfl,
  z127 := fun _ => by kernel_rfl,
  v127 := fun _ => by kernel_rfl }
theorem bextra : Builder.Extra Try.prog bren := {
  sizeBuilder := by kernel_rfl,
  liesBuilder := by kernel_rfl,
  t5 := by kernel_rfl,
  a5 := fun _ => by kernel_rfl,
  z5 := fun _ => by kernel_rfl,
  v5 := fun _ => by kernel_rfl,
  infoByte := by kernel_rfl,
  cellsByte := by kernel_rfl,
  sizeByte := by kernel_rfl,
  neB5 := by decide }
theorem bextraB : Builder.Extra Try.prog brenB := {
  sizeBuilder := by kernel_rfl,
  liesBuilder := by kernel_rfl,
  t5 := by kernel_rfl,
  a5 := fun _ => by kernel_rfl,
  z5 := fun _ => by kernel_rfl,
  v5 := fun _ => by kernel_rfl,
  infoByte := by kernel_rfl,
  cellsByte := by kernel_rfl,
  sizeByte := by kernel_rfl,
  neB5 := by decide }

/-- a builder of the call's own at block b, holding the bytes l -/
abbrev Bld (B b : Nat) (l : List UInt8) (w : World) : Prop := Lib.IsBuilderF 61 5 B b (Lib.byteCells l) w
theorem Bld.alloc {B b : Nat} {l : List UInt8} {w : World} (h : Bld B b l w) (o : Obj) : Bld B b l (w.alloc o) := by
  rcases h with h | h
  · exact .inl (h.alloc o)
  · exact .inr (h.alloc o)
theorem Bld.lt {B b : Nat} {l : List UInt8} {w : World} (h : Bld B b l w) : b < w.heap.size := by
  rcases h with h | h
  · exact h.lt
  · exact h.lt
theorem Bld.new (w : World) : Bld w.heap.size w.heap.size [] (w.alloc (.cells #[.pointer none, .slice none 0 0] 61)) := Lib.IsBuilderF.of (Lib.fresh_isBuilder _ _ w)
theorem bytes_append (l m : List UInt8) : Lib.byteCells (l ++ m) = Lib.byteCells l ++ Lib.byteCells m := by simp [Lib.byteCells]
theorem bytes_length (l : List UInt8) : (Lib.byteCells l).length = l.length := by simp [Lib.byteCells]
/-- what a writer leaves: the builder, holding more; of what was there nothing else has turned -/
structure Wrote (B b : Nat) (l : List UInt8) (w w' : World) : Prop where
  is : Bld B b l w'
  below : Below B w w'
  kept : Lib.OthersKept 5 (some b) w w'
theorem Wrote.cell {B b g : Nat} {l : List UInt8} {w w' : World} {cs : Array Value} {T : TypeId} {fr : Nat × Nat} (h : Wrote B b l w w') (hg : w.heap[g]? = some (.cells cs T fr)) (hT : T ≠ 5) (hb : g ≠ b) : w'.heap[g]? = some (.cells cs T fr) :=
  h.kept g _ hg (by intro e; cases e; exact hb rfl) (by intro c fz e; cases e; exact hT rfl)

theorem writeString_any (B b : Nat) (l : List UInt8) (s : ByteArray) (w : World) (h : Bld B b l w) (hlen : l.length + s.size ≤ 140737488355328) (hBw : B ≤ w.heap.size) :
    Calls Try.prog 101 #[.pointer (some ⟨b, 0, none⟩), .string s] w fun e w' => e = .returned (.tuple #[.int .i64 s.size, .nilIface]) ∧ Wrote B b (l ++ s.data.toList) w w' := by
  refine (Any.Builder_WriteString_k bn166 bextra B b (Lib.byteCells l) s w h (by rw [bytes_length]; exact hlen) hBw).mono ?_
  rintro e w' ⟨rfl, hA, hB, hK⟩
  exact ⟨rfl, .inr (by rw [bytes_append, ← Lib.strCells_eq]; exact hA), hB, hK⟩
theorem writeByte_any (B b : Nat) (l : List UInt8) (c : UInt8) (w : World) (h : Bld B b l w) (hlen : l.length + 1 ≤ 140737488355328) (hBw : B ≤ w.heap.size) :
    Calls Try.prog 89 #[.pointer (some ⟨b, 0, none⟩), .int .u8 (c.toNat : Int)] w fun e w' => e = .returned .nilIface ∧ Wrote B b (l ++ [c]) w w' := by
  refine (Any.Builder_WriteByte_k bn167 bextraB B b (Lib.byteCells l) c.toNat w h (by rw [bytes_length]; exact hlen) hBw).mono ?_
  rintro e w' ⟨rfl, hA, hB, hK⟩
  exact ⟨rfl, .inr (by rw [bytes_append]; exact hA), hB, hK⟩
theorem builderString_any (B b : Nat) (l : List UInt8) (w : World) (h : Bld B b l w) (hBw : B ≤ w.heap.size) :
    Calls Try.prog 26 #[.pointer (some ⟨b, 0, none⟩)] w fun e w' => e = .returned (.string ⟨l.toArray⟩) ∧ Below B w w' := by
  refine (Any.Builder_String_any_k bn169 bextra B b l w h hBw).mono ?_
  rintro e w' ⟨rfl, _, hB, _⟩
  exact ⟨rfl, hB⟩
theorem writeBlank_any (B b : Nat) (l : List UInt8) (w : World) (h : Bld B b l w) (hlen : l.length + 1 ≤ 140737488355328) (hBw : B ≤ w.heap.size) :
    Calls Try.prog 89 #[.pointer (some ⟨b, 0, none⟩), .int .u8 32] w fun e w' => e = .returned .nilIface ∧ Wrote B b (l ++ [32]) w w' := writeByte_any B b l 32 w h hlen hBw
theorem writeLine_any (B b : Nat) (l : List UInt8) (w : World) (h : Bld B b l w) (hlen : l.length + 1 ≤ 140737488355328) (hBw : B ≤ w.heap.size) :
    Calls Try.prog 89 #[.pointer (some ⟨b, 0, none⟩), .int .u8 10] w fun e w' => e = .returned .nilIface ∧ Wrote B b (l ++ [10]) w w' := writeByte_any B b l 10 w h hlen hBw
theorem Wrote.then {B b : Nat} {l l' : List UInt8} {w w' w'' : World} (h : Wrote B b l w w') (h2 : Wrote B b l' w' w'') : Wrote B b l' w w'' :=
  ⟨h2.is, h.below.trans h2.below, fun k o hk h3 h4 => h2.kept k o (h.kept k o hk h3 h4) h3 h4⟩

theorem Wrote.pre {B b : Nat} {l : List UInt8} {w w' : World} {o : Obj} (h : Wrote B b l (w.alloc o) w') (hB : B ≤ w.heap.size) : Wrote B b l w w' :=
  ⟨h.is, ((Below.refl B w).alloc hB o).trans h.below, fun k o' hk h3 h4 => h.kept k o' ((Below.heap_alloc w o k (Array.getElem?_eq_some_iff.1 hk).1).trans hk) h3 h4⟩
theorem Wrote.to {B b : Nat} {l l' : List UInt8} {w w' : World} (h : Wrote B b l w w') (e : l = l') : Wrote B b l' w w' := e ▸ h
end Go.Proofs.Ytecekkmagldpoaa

namespace Go.Proofs.Ytecekkmagldpoaa
set_option linter.unusedVariables false
open Go.RowKit

theorem mw_text (n : Nat) (s : ByteArray) (w : World) : Sem.run Try.prog (method (n + 1) 103 (.agg #[.string s]) "loop.example/buildengine/impl.write") w = .ok (100, .agg #[.string s]) w := by kernel_rfl
theorem mo_text (n : Nat) (s : ByteArray) (w : World) : Sem.run Try.prog (method (n + 1) 103 (.agg #[.string s]) "loop.example/buildengine/impl.operands") w = .ok (99, .agg #[.string s]) w := by kernel_rfl
theorem mc_text (n : Nat) (s : ByteArray) (w : World) : Sem.run Try.prog (method (n + 1) 103 (.agg #[.string s]) "loop.example/buildengine/impl.combine") w = .ok (97, .agg #[.string s]) w := by kernel_rfl
theorem mw_read (n : Nat) (v : Value) (w : World) : Sem.run Try.prog (method (n + 1) 105 (.agg #[v]) "loop.example/buildengine/impl.write") w = .ok (105, .agg #[v]) w := by kernel_rfl
theorem mo_read (n : Nat) (t : TypeId) (x : Value) (w : World) : Sem.run Try.prog (method (n + 1) 105 (.agg #[.iface t x]) "loop.example/buildengine/impl.operands") w = .ok (96, .agg #[.iface t x]) w := by kernel_rfl
theorem mc_read (n : Nat) (v : Value) (w : World) : Sem.run Try.prog (method (n + 1) 105 (.agg #[v]) "loop.example/buildengine/impl.combine") w = .ok (102, .agg #[v]) w := by kernel_rfl
theorem mw_join (n : Nat) (v : Value) (w : World) : Sem.run Try.prog (method (n + 1) 94 (.agg #[v]) "loop.example/buildengine/impl.write") w = .ok (88, .agg #[v]) w := by kernel_rfl
theorem mo_join (n : Nat) (v : Value) (w : World) : Sem.run Try.prog (method (n + 1) 94 (.agg #[v]) "loop.example/buildengine/impl.operands") w = .ok (87, .agg #[v]) w := by kernel_rfl
theorem mc_join (n : Nat) (v : Value) (w : World) : Sem.run Try.prog (method (n + 1) 94 (.agg #[v]) "loop.example/buildengine/impl.combine") w = .ok (85, .agg #[v]) w := by kernel_rfl
theorem mw_same (n : Nat) (v v1 v2 v3 : Value) (w : World) : Sem.run Try.prog (method (n + 1) 96 (.agg #[v, v1, v2, v3]) "loop.example/buildengine/impl.write") w = .ok (95, .agg #[v, v1, v2, v3]) w := by kernel_rfl
theorem mo_same (n : Nat) (v v1 v2 v3 : Value) (w : World) : Sem.run Try.prog (method (n + 1) 96 (.agg #[v, v1, v2, v3]) "loop.example/buildengine/impl.operands") w = .ok (94, .agg #[v, v1, v2, v3]) w := by kernel_rfl
theorem mc_same (n : Nat) (v v1 v2 v3 : Value) (w : World) : Sem.run Try.prog (method (n + 1) 96 (.agg #[v, v1, v2, v3]) "loop.example/buildengine/impl.combine") w = .ok (92, .agg #[v, v1, v2, v3]) w := by kernel_rfl
theorem mw_first (n : Nat) (v : Value) (w : World) : Sem.run Try.prog (method (n + 1) 106 (.agg #[v]) "loop.example/buildengine/impl.write") w = .ok (109, .agg #[v]) w := by kernel_rfl
theorem mo_first (n : Nat) (t : TypeId) (x : Value) (w : World) : Sem.run Try.prog (method (n + 1) 106 (.agg #[.iface t x]) "loop.example/buildengine/impl.operands") w = .ok (96, .agg #[.iface t x]) w := by kernel_rfl
theorem mc_first (n : Nat) (v : Value) (w : World) : Sem.run Try.prog (method (n + 1) 106 (.agg #[v]) "loop.example/buildengine/impl.combine") w = .ok (107, .agg #[v]) w := by kernel_rfl
theorem mw_rest (n : Nat) (v : Value) (w : World) : Sem.run Try.prog (method (n + 1) 107 (.agg #[v]) "loop.example/buildengine/impl.write") w = .ok (112, .agg #[v]) w := by kernel_rfl
theorem mo_rest (n : Nat) (t : TypeId) (x : Value) (w : World) : Sem.run Try.prog (method (n + 1) 107 (.agg #[.iface t x]) "loop.example/buildengine/impl.operands") w = .ok (96, .agg #[.iface t x]) w := by kernel_rfl
theorem mc_rest (n : Nat) (v : Value) (w : World) : Sem.run Try.prog (method (n + 1) 107 (.agg #[v]) "loop.example/buildengine/impl.combine") w = .ok (110, .agg #[v]) w := by kernel_rfl
theorem mw_count (n : Nat) (v : Value) (w : World) : Sem.run Try.prog (method (n + 1) 108 (.agg #[v]) "loop.example/buildengine/impl.write") w = .ok (115, .agg #[v]) w := by kernel_rfl
theorem mo_count (n : Nat) (t : TypeId) (x : Value) (w : World) : Sem.run Try.prog (method (n + 1) 108 (.agg #[.iface t x]) "loop.example/buildengine/impl.operands") w = .ok (96, .agg #[.iface t x]) w := by kernel_rfl
theorem mc_count (n : Nat) (v : Value) (w : World) : Sem.run Try.prog (method (n + 1) 108 (.agg #[v]) "loop.example/buildengine/impl.combine") w = .ok (113, .agg #[v]) w := by kernel_rfl
end Go.Proofs.Ytecekkmagldpoaa

namespace Go.Proofs.Ytecekkmagldpoaa
set_option linter.unusedVariables false
open Go.RowKit

/-- all nodes are right -/
def good : Fo → Bool
  | .nil => true
  | .node k s ks r => nodeB k s ks.len && good ks && good r
theorem good_of : ∀ {f : Fo} {d : Nat}, shape f d = true → good f = true
  | .nil, _, _ => rfl
  | .node k s ks r, d, h => by
    simp only [shape, Bool.and_eq_true] at h
    simp only [good, Bool.and_eq_true]
    exact ⟨⟨h.1.1.2, good_of h.1.2⟩, good_of h.2⟩
theorem good_get : ∀ {f : Fo} {j : Nat} {k : Int} {s : ByteArray} {ks : Fo}, good f = true → f.get j = some (k, s, ks) → nodeB k s ks.len = true ∧ good ks = true
  | .nil, _, _, _, _, _, h => by simp [Fo.get] at h
  | .node k s ks r, 0, _, _, _, hf, h => by
    simp only [Fo.get, Option.some.injEq, Prod.mk.injEq] at h
    obtain ⟨rfl, rfl, rfl⟩ := h
    simp only [good, Bool.and_eq_true] at hf
    exact hf.1
  | .node k s ks r, j + 1, _, _, _, hf, h => by
    simp only [good, Bool.and_eq_true] at hf
    exact good_get (f := r) (j := j) hf.2 h
theorem valid_good {k : Int} {s : ByteArray} {ks : Fo} (h : validE k s ks = true) : nodeB k s ks.len = true ∧ good ks = true ∧ ks.size + 1 ≤ 20 := by
  unfold validE at h
  simp only [Bool.and_eq_true, decide_eq_true_eq] at h
  have := good_of h.1
  simp only [good, Bool.and_eq_true] at this
  exact ⟨this.1.1, this.1.2, h.2⟩
/-- the kinds -/
theorem node_kinds {k : Int} {s : ByteArray} {n : Nat} (h : nodeB k s n = true) :
    (k = 1 ∧ n = 0 ∧ plainB s = true) ∨ (k = 3 ∧ n ≤ 4 ∧ s = .empty) ∨ (k = 4 ∧ n = 4 ∧ s = .empty) ∨ ((k = 2 ∨ k = 5 ∨ k = 6 ∨ k = 7) ∧ n = 1 ∧ s = .empty) := by
  unfold nodeB kidsB at h
  simp only [Bool.and_eq_true, Bool.or_eq_true, decide_eq_true_eq] at h
  obtain ⟨⟨h1, h2⟩, h3⟩ := h
  rcases h1 with ((⟨h1, h4⟩ | ⟨h1, h4⟩) | ⟨h1, h4⟩) | ⟨h1, h4⟩
  · exact .inl ⟨h1, h4, h2⟩
  · exact .inr (.inl ⟨h1, h4, h3.resolve_left (by omega)⟩)
  · exact .inr (.inr (.inl ⟨h1, h4, h3.resolve_left (by omega)⟩))
  · exact .inr (.inr (.inr ⟨by rcases h1 with ((h1 | h1) | h1) | h1 <;> simp [h1], h4, h3.resolve_left (by omega)⟩))
theorem plain_size {s : ByteArray} (h : plainB s = true) : s.size ≤ 60 := by
  unfold plainB at h
  simp only [Bool.and_eq_true] at h
  exact ((textB_iff s).1 h.2).1
theorem node_size {k : Int} {s : ByteArray} {n : Nat} (h : nodeB k s n = true) : s.size ≤ 60 := by
  unfold nodeB at h
  simp only [Bool.and_eq_true] at h
  exact plain_size h.1.2
theorem len_one {ks : Fo} (h : ks.len = 1) : ∃ k s f, ks = .node k s f .nil := by
  match ks, h with
  | .node k s f .nil, _ => exact ⟨k, s, f, rfl⟩
  | .node k s f (.node ..), h => simp [Fo.len] at h
theorem len_zero {ks : Fo} (h : ks.len = 0) : ks = .nil := by
  match ks, h with
  | .nil, _ => rfl
  | .node .., h => simp [Fo.len] at h
/-- the byte that a node with one operand begins with -/
def chrB (k : Int) : UInt8 := if k = 2 then 64 else if k = 5 then 60 else if k = 6 then 62 else 35
/-- the texts of nodes, each with what stands behind it -/
def fmS : Fo → List (List UInt8) → List UInt8
  | .nil, _ => []
  | .node k s ks r, seps => (if k = 1 then [39] ++ s.data.toList ++ [39] else if k = 3 then [40] ++ fmS ks [] ++ [41] else if k = 4 then [91] ++ fmS ks [[61], [63], [58], [93]] else [chrB k] ++ fmS ks []) ++ seps.headD [] ++ fmS r seps.tail
/-- the text of a node -/
def fm1 (k : Int) (s : ByteArray) (ks : Fo) : List UInt8 :=
  if k = 1 then [39] ++ s.data.toList ++ [39] else if k = 3 then [40] ++ fmS ks [] ++ [41] else if k = 4 then [91] ++ fmS ks [[61], [63], [58], [93]] else [chrB k] ++ fmS ks []
theorem fmS_node (k : Int) (s : ByteArray) (ks r : Fo) (seps : List (List UInt8)) : fmS (.node k s ks r) seps = fm1 k s ks ++ seps.headD [] ++ fmS r seps.tail := rfl
theorem fmS_one (k : Int) (s : ByteArray) (ks : Fo) : fmS (.node k s ks .nil) [] = fm1 k s ks := by rw [fmS_node]; simp [fmS]
theorem fmS_len : ∀ {f : Fo} (seps : List (List UInt8)), good f = true → (∀ x ∈ seps, x.length ≤ 1) → (fmS f seps).length ≤ 63 * f.size
  | .nil, _, _, _ => Nat.le_refl _
  | .node k s ks r, seps, hg, hs => by
    simp only [good, Bool.and_eq_true] at hg
    have h1 := fmS_len (f := ks) [] hg.1.2 (by simp)
    have h2 := fmS_len (f := ks) [[61], [63], [58], [93]] hg.1.2 (by simp)
    have h3 := fmS_len (f := r) seps.tail hg.2 (fun x hx => hs x (List.mem_of_mem_tail hx))
    have h4 : (seps.headD []).length ≤ 1 := by
      cases seps with
      | nil => simp
      | cons a l => exact hs a (by simp)
    have h5 := node_size hg.1.1
    have h6 : s.data.toList.length ≤ 60 := by rw [Array.length_toList]; exact h5
    rw [fmS_node, List.length_append, List.length_append]
    simp only [Fo.size]
    have h7 : (fm1 k s ks).length ≤ 62 + 63 * ks.size := by
      unfold fm1
      split
      · simp only [List.length_append, List.length_cons, List.length_nil]; omega
      · split
        · simp only [List.length_append, List.length_cons, List.length_nil]; omega
        · split
          · simp only [List.length_append, List.length_cons, List.length_nil]; omega
          · simp only [List.length_append, List.length_cons, List.length_nil]; omega
    omega
theorem fm1_len {k : Int} {s : ByteArray} {ks : Fo} (hn : nodeB k s ks.len = true) (hg : good ks = true) : (fm1 k s ks).length ≤ 63 * (ks.size + 1) := by
  have := fmS_len (f := .node k s ks .nil) [] (by simp only [good, hn, hg, Bool.and_true]) (by simp)
  rw [fmS_one] at this
  simpa [Fo.size] using this
/-- the text of an expression, if it is valid -/
def fmtE (k : Int) (s : ByteArray) (ks : Fo) : ByteArray := if validE k s ks = true then ⟨(fm1 k s ks).toArray⟩ else .empty
end Go.Proofs.Ytecekkmagldpoaa

namespace Go.Proofs.Ytecekkmagldpoaa
set_option linter.unusedVariables false
open Go.RowKit

section
variable {w w' : World}
theorem grown_drewN {row : Option Nat} (h : w.grownBy w' row) (n : Nat) : w.grownBy (w'.drewN n) row := ⟨h.os, h.tape, h.output, h.size, h.block⟩
theorem grown_alloc {row : Option Nat} (h : w.grownBy w' row) (o : Obj) : w.grownBy (w'.alloc o) row :=
  ⟨h.os, h.tape, h.output, Nat.le_trans h.size (by simp), fun i hi hne => (Below.heap_alloc w' o i (Nat.lt_of_lt_of_le hi h.size)).trans (h.block i hi hne)⟩
theorem grown_set {g : Nat} (h : w.grownBy w' (some g)) {p : Addr} (hp : p.block = g ∨ w.heap.size ≤ p.block) (u : Value) : w.grownBy (w'.setCell p u) (some g) :=
  ⟨h.os, h.tape, h.output, by simpa [World.setCell] using h.size, fun i hi hne => (Below.heap_setCell w' p u i (by
    rintro rfl
    rcases hp with hp | hp
    · exact hne (by rw [hp])
    · omega)).trans (h.block i hi hne)⟩
end
end Go.Proofs.Ytecekkmagldpoaa

namespace Go.Proofs.Ytecekkmagldpoaa
set_option linter.unusedVariables false
open Go.RowKit

/-- the blocks of the operands of these nodes are plain -/
def PlS (w : World) (L B : Nat) : Fo → Nat → Nat → Prop
  | .nil, _, _ => True
  | .node k s ks r, b, off => (∃ a n c, w.cell? ⟨b, off + 2, none⟩ = some (.slice a n c) ∧ ks.len = n ∧ (0 < n → ∃ b' off', a = some ⟨b', off', none⟩ ∧ L ≤ b' ∧ b' < B ∧ Pln w b' ∧ PlS w L B ks b' off')) ∧ PlS w L B r b (off + 3)
/-- a slice of such nodes -/
def PlA (w : World) (L B : Nat) (f : Fo) (a : Option Addr) (n : Nat) : Prop := f.len = n ∧ (0 < n → ∃ b off, a = some ⟨b, off, none⟩ ∧ L ≤ b ∧ b < B ∧ Pln w b ∧ PlS w L B f b off)
/-- a tree in a range of plain blocks -/
def KP (w : World) (L B : Nat) (f : Fo) (a : Option Addr) (n : Nat) : Prop := KA w L B f a n ∧ PlA w L B f a n
section
variable {w w' : World} {L L' B B' b off n : Nat} {a : Option Addr} {f : Fo}
theorem plS_keep (hL : L' ≤ L) (hB : B ≤ B') (hk : ∀ g : Nat, L ≤ g → g < B → w'.heap[g]? = w.heap[g]?) : ∀ {f : Fo} {b off : Nat}, L ≤ b → b < B → PlS w L B f b off → PlS w' L' B' f b off
  | .nil, _, _, _, _, _ => trivial
  | .node k s ks r, b, off, h1, h2, ⟨⟨a, n, c, h3, hl, h4⟩, h5⟩ => by
    refine ⟨⟨a, n, c, (show w'.cell? ⟨b, off + 2, none⟩ = w.cell? ⟨b, off + 2, none⟩ from World.cell?_of_block (hk b h1 h2)).trans h3, hl, fun hn => ?_⟩, plS_keep hL hB hk h1 h2 h5⟩
    obtain ⟨b', off', e, q1, q2, hp, hs⟩ := h4 hn
    exact ⟨b', off', e, by omega, by omega, hp.block (hk b' q1 q2), plS_keep hL hB hk q1 q2 hs⟩
theorem PlA.keep (h : PlA w L B f a n) (hL : L' ≤ L) (hB : B ≤ B') (hk : ∀ g : Nat, L ≤ g → g < B → w'.heap[g]? = w.heap[g]?) : PlA w' L' B' f a n :=
  ⟨h.1, fun hn => let ⟨b, off, e, q1, q2, hp, hs⟩ := h.2 hn; ⟨b, off, e, by omega, by omega, hp.block (hk b q1 q2), plS_keep hL hB hk q1 q2 hs⟩⟩
theorem KP.keep (h : KP w L B f a n) (hL : L' ≤ L) (hB : B ≤ B') (hk : ∀ g : Nat, L ≤ g → g < B → w'.heap[g]? = w.heap[g]?) : KP w' L' B' f a n :=
  ⟨h.1.keep hL hB fun p h1 h2 => World.cell?_of_block (hk p.block h1 h2), h.2.keep hL hB hk⟩
theorem KP.more (h : KP w L B f a n) (hL : L' ≤ L) (hB : B ≤ B') : KP w L' B' f a n := h.keep hL hB fun _ _ _ => rfl
theorem KP.below (h : KP w L B f a n) (hb : Below B w w') : KP w' L B f a n := h.keep (Nat.le_refl _) (Nat.le_refl _) fun g _ hg => hb.block g hg
theorem KP.alloc (h : KP w L B f a n) (hB : B ≤ w.heap.size) (o : Obj) : KP (w.alloc o) L B f a n := h.keep (Nat.le_refl _) (Nat.le_refl _) fun g _ hg => Below.heap_alloc w o g (by omega)
theorem KP.setCell (h : KP w L B f a n) {g : Nat} (hg : g < L ∨ B ≤ g) (i : Nat) (u : Value) : KP (w.setCell ⟨g, i, none⟩ u) L B f a n :=
  h.keep (Nat.le_refl _) (Nat.le_refl _) fun j h1 h2 => Below.heap_setCell w _ _ j (show j ≠ g by omega)
theorem KP.nil : KP w L B .nil a 0 := ⟨KA.nil, rfl, fun h => absurd h (by omega)⟩
theorem KP.next (h : KP w L w.heap.size f a n) (hb : Below w.heap.size w w') : KP w' L w'.heap.size f a n := (h.below hb).more (Nat.le_refl _) hb.size
/-- a row of one node -/
theorem KP.one {g c : Nat} {k : Int} {s : ByteArray} {ks : Fo} {T : TypeId} {a : Option Addr} (hb : w.heap[g]? = some (.cells #[.int .i64 k, .string s, .slice a ks.len c] T (0, 0))) (hL : L ≤ g) (hB : g < B) (hc : ks.len ≤ c) (hk : KP w L B ks a ks.len) : KP w L B (.node k s ks .nil) (some ⟨g, 0, none⟩) 1 :=
  have h2 : w.cell? ⟨g, 0 + 2, none⟩ = some (.slice a ks.len c) := by rw [cell_of_row _ _ _ _ _ _ hb]; rfl
  ⟨⟨rfl, fun _ => ⟨g, 0, rfl, hL, hB, seg_node.2 ⟨⟨by rw [cell_of_row _ _ _ _ _ _ hb]; rfl, by rw [cell_of_row _ _ _ _ _ _ hb]; rfl, a, ks.len, c, h2, hc, hk.1⟩, trivial⟩⟩⟩, rfl, fun _ => ⟨g, 0, rfl, hL, hB, ⟨_, _, hb⟩, ⟨a, ks.len, c, h2, hk.2.1, hk.2.2⟩, trivial⟩⟩
theorem rdF_ofP : ∀ {f : Fo} {b off : Nat}, Seg w L B f b off → PlS w L' B' f b off → RdF w f b off
  | .nil, _, _, _, _ => trivial
  | .node k s ks r, b, off, ⟨h1, h2, ⟨a, n, c, h3, h4, h5, h6⟩, h7⟩, ⟨⟨a', n', c', h8, _, h10⟩, h11⟩ => by
    rw [h3] at h8
    cases h8
    refine ⟨h1, h2, ⟨a, n, c, h3, h4, h5, fun hn => ?_⟩, rdF_ofP h7 h11⟩
    obtain ⟨b1, o1, e1, _, _, hs⟩ := h6 hn
    obtain ⟨b2, o2, e2, _, _, hp, hk⟩ := h10 hn
    rw [e1] at e2
    cases e2
    exact ⟨b1, o1, e1, hp, rdF_ofP hs hk⟩
/-- .. as eqI_any takes it -/
theorem KP.rd (h : KP w L B f a n) : RdA w f a n := by
  refine ⟨h.1.1, fun hn => ?_⟩
  obtain ⟨b1, o1, e1, _, _, hs⟩ := h.1.2 hn
  obtain ⟨b2, o2, e2, _, _, hp, hk⟩ := h.2.2 hn
  rw [e1] at e2
  cases e2
  exact ⟨b1, o1, e1, hp, rdF_ofP hs hk⟩
end
/-- a row of nodes whose operands are such trees is one -/
theorem plS_of {w : World} {L B : Nat} : ∀ {f : Fo} {b off : Nat}, (∀ j k s ks, f.get j = some (k, s, ks) → ∃ a n c, w.cell? ⟨b, off + j * 3 + 2, none⟩ = some (.slice a n c) ∧ PlA w L B ks a n) → PlS w L B f b off
  | .nil, _, _, _ => trivial
  | .node k s ks r, b, off, h => by
    obtain ⟨a, n, c, h1, h2, h3⟩ := h 0 k s ks rfl
    refine ⟨⟨a, n, c, by simpa using h1, h2, h3⟩, plS_of (f := r) fun j k s ks hg => ?_⟩
    obtain ⟨a, n, c, q1, q2⟩ := h (j + 1) k s ks hg
    exact ⟨a, n, c, by rwa [show off + (j + 1) * 3 + 2 = off + 3 + j * 3 + 2 from by omega] at q1, q2⟩
end Go.Proofs.Ytecekkmagldpoaa

namespace Go.Proofs.Ytecekkmagldpoaa
set_option linter.unusedVariables false
set_option linter.unusedSimpArgs false
open Go.RowKit

namespace Fo
/-- one more node behind the others -/
def snoc : Fo → Int → ByteArray → Fo → Fo
  | .nil, k, s, ks => .node k s ks .nil
  | .node k' s' ks' r, k, s, ks => .node k' s' ks' (r.snoc k s ks)
theorem snoc_len : ∀ (f : Fo) (k : Int) (s : ByteArray) (ks : Fo), (f.snoc k s ks).len = f.len + 1
  | .nil, _, _, _ => rfl
  | .node _ _ _ r, k, s, ks => by simp only [snoc, len, snoc_len r]
theorem snoc_size : ∀ (f : Fo) (k : Int) (s : ByteArray) (ks : Fo), (f.snoc k s ks).size = f.size + ks.size + 1
  | .nil, _, _, _ => by simp [snoc, size]
  | .node _ _ _ r, k, s, ks => by simp only [snoc, size, snoc_size r]; omega
theorem snoc_fits : ∀ {f : Fo} {k : Int} {s : ByteArray} {ks : Fo}, f.Fits → s.size ≤ maxLen → ks.len ≤ maxLen → ks.Fits → (f.snoc k s ks).Fits
  | .nil, _, _, _, _, h1, h2, h3 => ⟨h1, h2, h3, trivial⟩
  | .node _ _ _ r, _, _, _, h, h1, h2, h3 => ⟨h.1, h.2.1, h.2.2.1, snoc_fits (f := r) h.2.2.2 h1 h2 h3⟩
theorem snoc_drop : ∀ {f : Fo} {j : Nat} {k : Int} {s : ByteArray} {ks : Fo}, f.get j = some (k, s, ks) → ∀ g : Fo, (∀ i, i < j → g.get i = f.get i) → g.len = j → ∀ i, i < j + 1 → (g.snoc k s ks).get i = f.get i := by
  have key : ∀ (g : Fo) (k : Int) (s : ByteArray) (ks : Fo), (∀ i, i < g.len → (g.snoc k s ks).get i = g.get i) ∧ (g.snoc k s ks).get g.len = some (k, s, ks) := by
    intro g
    induction g with
    | nil => exact fun k s ks => ⟨fun i h => absurd h (by simp [len]), rfl⟩
    | node k' s' ks' r _ ih =>
      refine fun k s ks => ⟨fun i h => ?_, (ih k s ks).2⟩
      cases i with
      | zero => rfl
      | succ i => exact (ih k s ks).1 i (by simp only [len] at h; omega)
  intro f j k s ks hg g h1 h2 i hi
  subst h2
  by_cases e : i = g.len
  · subst e
    rw [(key g k s ks).2, hg]
  · rw [(key g k s ks).1 i (by omega)]
    exact h1 i (by omega)
end Fo

/-- the cells of a row of nodes; og: the block of the row -/
def RowT (w : World) (L B : Nat) (og : Option Nat) : Fo → List Value → Prop
  | .nil, xs => xs = []
  | .node k s ks r, xs => (∃ a n c ys, xs = .int .i64 k :: .string s :: .slice a n c :: ys ∧ n ≤ c ∧ (∃ L1 B1, KP w L1 B1 ks a n ∧ L ≤ L1 ∧ B1 ≤ B ∧ ∀ g, og = some g → g < L1 ∨ B1 ≤ g) ∧ RowT w L B og r ys)
section
variable {w w' : World} {L L' B B' b off : Nat} {og og' : Option Nat} {k : Int} {s : ByteArray} {ks : Fo}
theorem rowT_len : ∀ {f : Fo} {xs : List Value}, RowT w L B og f xs → xs.length = f.len * 3
  | .nil, _, h => by simp only [RowT] at h; subst h; rfl
  | .node k s ks r, _, ⟨a, n, c, ys, e, _, _, h⟩ => by subst e; have := rowT_len h; simp only [List.length_cons, Fo.len, this]; omega
theorem rowT_keep (hL : L' ≤ L) (hB : B ≤ B') (ho : ∀ g, og' = some g → og = some g ∨ g < L ∨ B ≤ g) (hk : ∀ g : Nat, L ≤ g → g < B → og ≠ some g → w'.heap[g]? = w.heap[g]?) : ∀ {f : Fo} {xs : List Value}, RowT w L B og f xs → RowT w' L' B' og' f xs
  | .nil, _, h => h
  | .node k s ks r, _, ⟨a, n, c, ys, e, hc, ⟨L1, B1, h1, h2, h3, h4⟩, h⟩ =>
    ⟨a, n, c, ys, e, hc, ⟨L1, B1, h1.keep (Nat.le_refl _) (Nat.le_refl _) fun g h5 h6 => hk g (by omega) (by omega) (fun e => by have := h4 _ e; omega), by omega, by omega, fun g hg => by
      rcases ho g hg with h | h | h
      · exact h4 g h
      · exact .inl (by omega)
      · exact .inr (by omega)⟩, rowT_keep hL hB ho hk h⟩
theorem rowT_snoc {a : Option Addr} {n c L1 B1 : Nat} (hc : n ≤ c) (h1 : KP w L1 B1 ks a n) (h2 : L ≤ L1) (h3 : B1 ≤ B) (h4 : ∀ g, og = some g → g < L1 ∨ B1 ≤ g) :
    ∀ {f : Fo} {xs : List Value}, RowT w L B og f xs → RowT w L B og (f.snoc k s ks) (xs ++ [.int .i64 k, .string s, .slice a n c])
  | .nil, _, h => by simp only [RowT] at h; subst h; exact ⟨a, n, c, [], rfl, hc, ⟨L1, B1, h1, h2, h3, h4⟩, rfl⟩
  | .node k s ks r, _, ⟨a', n', c', ys, e, hc', h5, h⟩ => by subst e; exact ⟨a', n', c', _, rfl, hc', h5, rowT_snoc hc h1 h2 h3 h4 h⟩
theorem rowT_seg : ∀ {f : Fo} {xs : List Value} {off : Nat}, RowT w L B og f xs → (∀ j u, xs[j]? = some u → w.cell? ⟨b, off + j, none⟩ = some u) → Seg w L B f b off
  | .nil, _, _, _, _ => trivial
  | .node k s ks r, _, off, ⟨a, n, c, ys, e, hc, ⟨L1, B1, h1, h2, h3, h4⟩, h⟩, hcell => by
    subst e
    refine seg_node.2 ⟨⟨hcell 0 _ rfl, hcell 1 _ rfl, a, n, c, hcell 2 _ rfl, hc, (h1.more h2 h3).1⟩, rowT_seg h fun j u hu => ?_⟩
    have := hcell (j + 3) u (by simpa using hu)
    rwa [show off + 3 + j = off + (j + 3) from by omega]
end

section
variable {w : World} {L B b off : Nat} {og : Option Nat}
theorem rowT_pl : ∀ {f : Fo} {xs : List Value} {off : Nat}, RowT w L B og f xs → (∀ j u, xs[j]? = some u → w.cell? ⟨b, off + j, none⟩ = some u) → PlS w L B f b off
  | .nil, _, _, _, _ => trivial
  | .node k s ks r, _, off, ⟨a, n, c, ys, e, hc, ⟨L1, B1, h1, h2, h3, h4⟩, h⟩, hcell => by
    subst e
    refine ⟨⟨a, n, c, hcell 2 _ rfl, (h1.more h2 h3).2.1, (h1.more h2 h3).2.2⟩, rowT_pl h fun j u hu => ?_⟩
    have := hcell (j + 3) u (by simpa using hu)
    rwa [show off + 3 + j = off + (j + 3) from by omega]
end
/-- a list of expressions of one's own -/
def OwnT (w : World) (base : Nat) (v : Value) (f : Fo) : Prop := ∃ xs, w.ownsRow base 25 3 v f.len xs ∧ RowT w base w.heap.size v.ownBlock f xs
theorem exprs_under : Try.prog.underlying 23 = some (.slice 25) := by kernel_rfl
theorem expr_info3 : (Try.prog.info? 25).map (fun i => (i.zero, i.size, i.bytes)) = some (some (.agg #[.int .i64 0, .string .empty, .slice none 0 0]), 3, 48) := by kernel_rfl
section
variable {w w' : World} {base base' : Nat} {v v' : Value} {f : Fo} {r : Option Nat}
theorem OwnT.nil (w : World) (base : Nat) : OwnT w base (.slice none 0 0) .nil := ⟨[], World.ownsRow_nil _ _ _ _, rfl⟩
theorem OwnT.lt (h : OwnT w base v f) : ∀ g, v.ownBlock = some g → base ≤ g ∧ g < w.heap.size := by
  obtain ⟨xs, h1, _⟩ := h
  exact World.ownsRow.lt h1
theorem OwnT.grown (h : OwnT w base v f) (hg : w.grownBy w' r) (hr : ∀ g, r = some g → g < base ∨ w.heap.size ≤ g) : OwnT w' base v f := by
  obtain ⟨xs, h1, h2⟩ := h
  refine ⟨xs, World.ownsRow.kept h1 hg ?_, rowT_keep (Nat.le_refl _) hg.size (fun g hg => .inl hg) (fun g h3 h4 _ => hg.block g h4 (fun e => by have := hr _ e.symm; omega)) h2⟩
  cases hv : v.ownBlock with
  | none => exact .inl rfl
  | some g => exact .inr fun e => by have := World.ownsRow.lt h1 g hv; have := hr g e.symm; omega
theorem OwnT.alloc (h : OwnT w base v f) (o : Obj) : OwnT (w.alloc o) base v f := h.grown (World.grownBy_alloc w o none) fun g e => by cases e
theorem OwnT.below (h : OwnT w base v f) (hb : Below w.heap.size w w') : OwnT w' base v f := h.grown (r := none) ⟨hb.os, hb.tape, hb.output, hb.size, fun i hi _ => hb.block i hi⟩ fun g e => by cases e
theorem OwnT.setCell (h : OwnT w base v f) {g : Nat} (hg : g < base) (i : Nat) (u : Value) : OwnT (w.setCell ⟨g, i, none⟩ u) base v f :=
  h.grown (r := some g) (grown_set (World.grownBy.refl w _) (.inl rfl) u) fun j e => by injection e with e; omega
theorem OwnT.drewN (h : OwnT w base v f) (m : Nat) : OwnT (w.drewN m) base v f := h.grown (grown_drewN (World.grownBy.refl w none) m) fun j e => by cases e
theorem OwnT.mono (h : OwnT w base v f) (hb : base' ≤ base) : OwnT w base' v f := by
  obtain ⟨xs, h1, h2⟩ := h
  exact ⟨xs, World.ownsRow.mono h1 hb, rowT_keep hb (Nat.le_refl _) (fun g hg => .inl hg) (fun _ _ _ _ => rfl) h2⟩
/-- as a slice that can be read -/
theorem OwnT.form (h : OwnT w base v f) : ∃ a c, v = .slice a f.len c ∧ f.len ≤ c ∧ c ≤ maxLen ∧ KP w base w.heap.size f a f.len := by
  obtain ⟨xs, h1, h2⟩ := h
  rcases h1.2 with ⟨rfl, h0⟩ | ⟨g, cap, cur, rfl, hb, hg, hc, hm, _⟩
  · exact ⟨none, 0, by rw [h0], by omega, by simp [maxLen], ⟨rfl, fun h => absurd h (by omega)⟩, rfl, fun h => absurd h (by omega)⟩
  · have hcell : ∀ j u, xs[j]? = some u → w.cell? ⟨g, 0 + j, none⟩ = some u := fun j u hu => by
      have := World.ownsRow.cells h1 (g := g) rfl j u hu
      rwa [add_none] at this
    exact ⟨_, cap, rfl, hc, hm, ⟨rfl, fun _ => ⟨g, 0, rfl, hb, blk_lt hg, rowT_seg h2 hcell⟩⟩, rfl, fun _ => ⟨g, 0, rfl, hb, blk_lt hg, ⟨_, _, hg⟩, rowT_pl h2 hcell⟩⟩
/-- one more node -/
theorem OwnT.snoc {k : Int} {s : ByteArray} {ks : Fo} {a : Option Addr} {n c L1 B1 : Nat} {xs : List Value} (h2 : RowT w base w.heap.size v.ownBlock f xs) (hown : w'.ownsRow base 25 3 v' (f.len + 1) (xs ++ [.int .i64 k, .string s, .slice a n c]))
    (hg : w.grownBy w' v.ownBlock) (ho : v'.ownBlock = v.ownBlock ∨ ∀ g, v'.ownBlock = some g → w.heap.size ≤ g) (hc : n ≤ c) (hk : KP w L1 B1 ks a n) (hL : base ≤ L1) (hB : B1 ≤ w.heap.size) (hown1 : ∀ g, v.ownBlock = some g → g < L1 ∨ B1 ≤ g) : OwnT w' base v' (f.snoc k s ks) := by
  refine ⟨_, by rw [Fo.snoc_len]; exact hown, ?_⟩
  have h3 := rowT_snoc (k := k) (s := s) hc hk hL hB hown1 h2
  refine rowT_keep (Nat.le_refl _) hg.size (fun g e => ?_) (fun g h4 h5 h6 => hg.block g h5 (fun e => h6 e.symm)) h3
  rcases ho with ho | ho
  · exact .inl (ho ▸ e)
  · exact .inr (.inr (ho g e))
end
theorem wpList_append_node {w : World} {ops : Array Oper} {rest : List Oper} {o : Oper} {a : Act} {Q : Exit → Act → World → Prop} (hgd : o.guard = none) (s x : Operand)
    (ho : o.op = .call { callee := .builtin .append, args := #[s, x], argTypes := #[23, 23] })
    (base : Nat) (v : Value) (f : Fo) (hs : a.eval s = v) (hown : OwnT w base v f) (g c1 : Nat) (hx : a.eval x = .slice (some ⟨g, 0, none⟩) 1 c1)
    (k : Int) (t : ByteArray) (ks : Fo) (ad : Option Addr) (n c L1 B1 : Nat) {T : TypeId} (hbx : w.heap[g]? = some (.cells #[.int .i64 k, .string t, .slice ad n c] T (0, 0))) (hc : n ≤ c) (hk : KP w L1 B1 ks ad n) (hL : base ≤ L1) (hB : B1 ≤ w.heap.size) (hown1 : ∀ g, v.ownBlock = some g → g < L1 ∨ B1 ≤ g)
    (h63 : f.len ≤ 1000000000) (hbase : base ≤ w.heap.size)
    (h : ∀ v' w', OwnT w' base v' (f.snoc k t ks) → w.grownBy w' v.ownBlock → (v'.ownBlock = v.ownBlock ∨ ∀ g, v'.ownBlock = some g → w.heap.size ≤ g) → wpList Try.prog ops Q rest (a.put o.dst v') w') : wpList Try.prog ops Q (o :: rest) a w := by
  obtain ⟨i, hi, hz0, hz1, hz2⟩ := info_parts expr_info3
  obtain ⟨xs, h1, h2⟩ := hown
  refine wpList_append_at hgd s x 23 ho base 25 i _ 3 48 exprs_under hi hz0 hz1 hz2 rfl (by decide) v f.len xs hs h1 ⟨g, 0, none⟩ 1 c1 [.int .i64 k, .string t, .slice ad n c] hx rfl ?_ (by simp [Value.oneCell']) (by simp only [maxLen]; omega) (by omega) hbase fun v' w' h3 h4 h5 => h v' w' (OwnT.snoc h2 h3 h4 h5 hc hk hL hB hown1) h4 h5
  intro j u hu
  rw [add_none, cell_of_row _ _ _ _ _ _ hbx]
  simpa using hu
theorem OwnT.some {w : World} {base : Nat} {v : Value} {f : Fo} (h : OwnT w base v f) (hn : 0 < f.len) : ∃ g cap, v = .slice (some ⟨g, 0, none⟩) f.len cap ∧ base ≤ g ∧ g < w.heap.size := by
  obtain ⟨xs, h1, _⟩ := h
  exact World.ownsRow.form h1 hn
/-- one more node, at a step of a region that draws -/
theorem step_append_node {w : World} {ops : Array Oper} {o : Oper} {a : Act} {K : Act → World → Prop} {Q : Exit → Act → World → Prop} {E : Prop} (hgd : o.guard = none) (s x : Operand)
    (ho : o.op = .call { callee := .builtin .append, args := #[s, x], argTypes := #[23, 23] })
    (base : Nat) (v : Value) (f : Fo) (hs : a.eval s = v) (hown : OwnT w base v f) (g c1 : Nat) (hx : a.eval x = .slice (some ⟨g, 0, none⟩) 1 c1)
    (k : Int) (t : ByteArray) (ks : Fo) (ad : Option Addr) (n c L1 B1 : Nat) {T : TypeId} (hbx : w.heap[g]? = some (.cells #[.int .i64 k, .string t, .slice ad n c] T (0, 0))) (hc : n ≤ c) (hk : KP w L1 B1 ks ad n) (hL : base ≤ L1) (hB : B1 ≤ w.heap.size) (hown1 : ∀ g, v.ownBlock = some g → g < L1 ∨ B1 ≤ g)
    (h63 : f.len ≤ 1000000000) (hbase : base ≤ w.heap.size)
    (h : ∀ g cap w', OwnT w' base (.slice (some ⟨g, 0, none⟩) (f.len + 1) cap) (f.snoc k t ks) → w.grownBy w' v.ownBlock → g < w'.heap.size → base ≤ g → K (a.put o.dst (.slice (some ⟨g, 0, none⟩) (f.len + 1) cap)) w') :
    if Region.wanted o (yielded ops a.tmps) = true then Oper.wp Try.prog o a w K Q else E := by
  have hw : Region.wanted o (yielded ops a.tmps) = true := by simp [Region.wanted, hgd]
  rw [if_pos hw]
  obtain ⟨i, hi, hz0, hz1, hz2⟩ := info_parts expr_info3
  obtain ⟨xs, h1, h2⟩ := hown
  refine wp_append_at s x 23 ho base 25 i _ 3 48 exprs_under hi hz0 hz1 hz2 rfl (by decide) v f.len xs hs h1 ⟨g, 0, none⟩ 1 c1 [.int .i64 k, .string t, .slice ad n c] hx rfl ?_ (by simp [Value.oneCell']) (by simp only [maxLen]; omega) (by omega) hbase fun v' w' h3 h4 h5 => ?_
  · intro j u hu
    rw [add_none, cell_of_row _ _ _ _ _ _ hbx]
    simpa using hu
  · have h6 := OwnT.snoc h2 h3 h4 h5 hc hk hL hB hown1
    obtain ⟨g', cap', rfl, h7, h8⟩ := h6.some (by rw [Fo.snoc_len]; omega)
    rw [Fo.snoc_len] at h6 ⊢
    exact h g' cap' w' h6 h4 h8 h7
end Go.Proofs.Ytecekkmagldpoaa

namespace Go.Proofs.Ytecekkmagldpoaa
set_option linter.unusedVariables false
set_option linter.unusedSimpArgs false
open Go.RowKit

section
variable {w w' : World} {g : Nat} {k : Int} {s : ByteArray} {v : Value} {T : TypeId}
theorem BxE.facts (h : BxE w g k s v T) : w.cell? ⟨g, 0, none⟩ = some (.int .i64 k) ∧ w.cell? ⟨g, 1, none⟩ = some (.string s) ∧ w.cell? ⟨g, 2, none⟩ = some v ∧ w.frozen? ⟨g, 0, none⟩ = false ∧ w.frozen? ⟨g, 1, none⟩ = false ∧ w.frozen? ⟨g, 2, none⟩ = false ∧ g < w.heap.size :=
  ⟨h.c0, h.c1, h.c2, blk_frozen h 0, blk_frozen h 1, blk_frozen h 2, blk_lt h⟩
theorem BxE.grown {r : Option Nat} (h : BxE w g k s v T) (hg : w.grownBy w' r) (hr : r ≠ some g) : BxE w' g k s v T := (hg.block g (blk_lt h) (fun e => hr e.symm)).trans h
theorem BxE.alloc (h : BxE w g k s v T) (o : Obj) : BxE (w.alloc o) g k s v T := h.grown (World.grownBy_alloc w o none) (by simp)
theorem BxE.set2 (h : BxE w g k s v T) (u : Value) : BxE (w.setCell ⟨g, 2, none⟩ u) g k s u T := blk_set h 2 u
theorem BxE.other (h : BxE w g k s v T) {g' : Nat} (hne : g ≠ g') (i : Nat) (u : Value) : BxE (w.setCell ⟨g', i, none⟩ u) g k s v T := (Below.heap_setCell w _ _ g (fun e => hne (by simpa using e))).trans h
end
theorem Fo.size_len : ∀ f : Fo, f.len ≤ f.size
  | .nil => Nat.le_refl _
  | .node k s ks r => by have := Fo.size_len r; simp only [Fo.len, Fo.size]; omega

/-- what l2Copy leaves: the same expression, in memory of its own -/
def CopyP (k : Int) (s : ByteArray) (ks : Fo) (w : World) (e : Ending) (w' : World) : Prop := ∃ v, e = .returned (.agg #[.int .i64 k, .string s, v]) ∧ OwnT w' w.heap.size v ks ∧ Below w.heap.size w w'
/-- between two rounds of l2Copy -/
def CpI (w : World) (k : Int) (s : ByteArray) (ks : Fo) (a : Option Addr) (n c : Nat) (i : Value) (wr : World) : Prop :=
  ∃ (j : Nat) (v : Value) (f : Fo), j ≤ n ∧ i = .int .i64 j ∧ f.len = j ∧ (∀ i, i < j → f.get i = ks.get i) ∧ OwnT wr (w.heap.size + 1 + 1 + 1) v f ∧ BxE wr w.heap.size k s (.slice a n c) 25 ∧ BxE wr (w.heap.size + 1) 0 .empty (.slice none 0 0) 25 ∧ BxE wr (w.heap.size + 1 + 1) k s v 25 ∧ Below w.heap.size w wr

set_option maxRecDepth 100000 in
set_option maxHeartbeats 4000000 in
theorem copy_of (k : Int) (s : ByteArray) (ks : Fo) (N : Nat) (hN : ks.size ≤ N) (hN2 : N ≤ 1048576) (ih : ∀ k' s' ks', Fo.size ks' < ks.size → ∀ (a : Option Addr) (n c : Nat) (w : World), KA w 0 w.heap.size ks' a n → n ≤ c → Calls Try.prog 42 #[.agg #[.int .i64 k', .string s', .slice a n c]] w (CopyP k' s' ks' w))
    (a : Option Addr) (n c : Nat) (w : World) (hk : KA w 0 w.heap.size ks a n) (hnc : n ≤ c) :
    Calls Try.prog 42 #[.agg #[.int .i64 k, .string s, .slice a n c]] w (CopyP k s ks w) := by
  have hn : n ≤ 1048576 := by have := Fo.size_len ks; have := hk.1; omega
  have hP0 := ((BxE.new w k s (.slice a n c) 25).alloc (.cells #[.int .i64 0, .string .empty, .slice none 0 0] 25)).alloc (.cells #[.int .i64 k, .string s, .slice none 0 0] 25)
  have hG0 := (BxE.new (w.alloc (.cells #[.int .i64 k, .string s, .slice a n c] 25)) 0 .empty (.slice none 0 0) 25).alloc (.cells #[.int .i64 k, .string s, .slice none 0 0] 25)
  have hE0 := BxE.new ((w.alloc (.cells #[.int .i64 k, .string s, .slice a n c] 25)).alloc (.cells #[.int .i64 0, .string .empty, .slice none 0 0] 25)) k s (.slice none 0 0) 25
  have hB0 := (((Below.refl w.heap.size w).alloc (Nat.le_refl _) (.cells #[.int .i64 k, .string s, .slice a n c] 25)).alloc (by simp) (.cells #[.int .i64 0, .string .empty, .slice none 0 0] 25)).alloc (by simp; omega) (.cells #[.int .i64 k, .string s, .slice none 0 0] 25)
  simp only [World.size_alloc] at hG0 hE0
  have Hall := Lib.hid (And.intro hP0 (And.intro hG0 (And.intro hE0 hB0)))
  clear hP0 hG0 hE0 hB0
  go_enter Try.func42, Try.ntmps42
  go_wp2_with fail
  go_loopw [4] (fun i wr => CpI w k s ks a n c i wr) (fun i _ => n - (intOf i).toNat)
  case atStart => exact ⟨0, _, .nil, Nat.zero_le _, rfl, rfl, fun i h => absurd h (by omega), OwnT.nil _ _, Hall.out.1, Hall.out.2.1, Hall.out.2.2.1, Hall.out.2.2.2⟩
  case round =>
    obtain ⟨j, v, f, hj, rfl, hfl, hget, hown, hpx, hgx, hex, hB⟩ := hrel
    obtain ⟨p0, p1, p2, pf0, pf1, pf2, hpl⟩ := hpx.facts
    obtain ⟨e0, e1, e2, g0, g1, g2, hel⟩ := hex.facts
    by_cases hlt : j < n
    · obtain ⟨b, off, k3, s3, ks3, a3, n3, c3, rfl, _, hb3, hg3, hc1, hc2, hc3, hcap3, hk3⟩ := (hk.below hB).get hlt
      have hjj : (j : Int) < (n : Int) := by omega
      have hj0 : (0 : Int) ≤ (j : Int) := by omega
      have hsz3 := Fo.get_size hg3
      have Hk3 := Lib.hid (show KA wr.drew 0 wr.drew.heap.size ks3 a3 n3 from hk3.keep (Nat.le_refl _) hB.size fun p _ _ => rfl)
      have Hih := Lib.hid (ih k3 s3 ks3 (by omega) a3 n3 c3)
      clear hk3 ih
      go_wp2_with fail
      go_region_law (first
        | (go_simp; go_at_call 42; refine Calls.mono (Hih.out _ Hk3.out hcap3) ?_; rintro e w4 ⟨v4, rfl, hown4, hB4⟩; obtain ⟨a4, d4, rfl, hd4, hm4, hk4⟩ := hown4.form; have hB4' : Below wr.heap.size wr w4 := ((Below.refl wr.heap.size wr).drew).trans hB4; have hown5 := hown.below hB4'; have hex5 := hex.next hB4'; obtain ⟨y0, y1, y2, z0, z1, z2, hl5⟩ := hex5.facts)
        | (refine step_append_node rfl _ _ (by rfl) (w.heap.size + 1 + 1 + 1) v f (by rfl) (hown5.alloc _) w4.heap.size 1 (by rfl) k3 s3 ks3 a4 ks3.len d4 _ _ (heap_alloc_new w4 _) hd4 (hk4.alloc (Nat.le_refl _) _) (by show _ ≤ wr.heap.size; omega) (by simp) (fun g hg => .inl (hown.lt g hg).2) (by omega) (by simp; omega) ?_; intro g cap w6 hown6 hgrow6 hlt6 hbg6; have hex6 := (hex5.alloc (.cells #[.int .i64 k3, .string s3, .slice a4 ks3.len d4] 25)).grown hgrow6 (fun e => by have := (hown.lt _ e).1; omega); obtain ⟨x0, x1, x2, v0, v1, v2, hl6⟩ := hex6.facts))
      all_goals go_wp2_with fail
      all_goals
        rw [hfl] at hown6
        exact ⟨⟨j + 1, _, _, by omega, by go_num, by rw [Fo.snoc_len]; omega, Fo.snoc_drop hg3 f hget hfl, hown6.setCell (Nat.lt_succ_self _) 2 _, (((hpx.next hB4').alloc _).grown hgrow6 (fun e => by have := (hown.lt _ e).1; omega)).other (by omega) 2 _, (((hgx.next hB4').alloc _).grown hgrow6 (fun e => by have := (hown.lt _ e).1; omega)).other (by omega) 2 _, hex6.set2 _, ((((hB.trans (hB4'.mono hB.size)).alloc (by omega) _).grown hgrow6 (by simp; omega) (fun g' e => by have := (hown.lt _ e).1; omega)).setCell (Nat.le_trans (Nat.le_succ _) (Nat.le_succ _)) _)⟩, by simp [intOf]; omega⟩
    · obtain rfl : f = ks := Fo.ext fun i => by
        by_cases hi : i < j
        · exact hget i hi
        · have h1 : f.get i = none := by
            cases hh : f.get i with
            | none => rfl
            | some x => have := Fo.get_lt hh; omega
          have h2 : ks.get i = none := by
            cases hh : ks.get i with
            | none => rfl
            | some x => have := Fo.get_lt hh; have := hk.1; omega
          rw [h1, h2]
      obtain ⟨c0, c1, c2, f0, f1, f2, hl⟩ := hgx.facts
      obtain ⟨av, dv, rfl, hdv, hmv, hkv⟩ := hown.form
      have hjj : ¬ (j : Int) < (n : Int) := by omega
      go_wp2_with fail
      refine bodyPost_ret (v := .agg #[.int .i64 k, .string s, .slice av f.len dv]) (by simp [results, Try.results42, go_sem, *]) rfl ?_
      refine ⟨_, rfl, OwnT.mono ?_ (Nat.le_trans (Nat.le_succ _) (Nat.le_trans (Nat.le_succ _) (Nat.le_succ _))), ((hB.setCell (Nat.le_succ _) _).setCell (Nat.le_succ _) _).setCell (Nat.le_succ _) _⟩
      exact ((hown.setCell (by omega) 0 _).setCell (by omega) 1 _).setCell (by omega) 2 _
theorem copy_all (N : Nat) (hN : N ≤ 1048576) : ∀ (k : Int) (s : ByteArray) (ks : Fo), ks.size ≤ N → ∀ (a : Option Addr) (n c : Nat) (w : World), KA w 0 w.heap.size ks a n → n ≤ c → Calls Try.prog 42 #[.agg #[.int .i64 k, .string s, .slice a n c]] w (CopyP k s ks w) := by
  induction N with
  | zero => exact fun k s ks h => copy_of k s ks 0 h hN fun k' s' ks' h' => absurd h' (by omega)
  | succ N ih => exact fun k s ks h => copy_of k s ks (N + 1) h hN fun k' s' ks' h' => ih (by omega) k' s' ks' (by omega)

end Go.Proofs.Ytecekkmagldpoaa

namespace Go.Proofs.Ytecekkmagldpoaa
set_option linter.unusedVariables false
open Go.RowKit

theorem ba_ext {a b : ByteArray} (h : a.data.toList = b.data.toList) : a = b := by
  cases a; cases b; simp at h; simp [h]
/-- a node whose text can be read back, but for its operands -/
def TxN (k : Int) (s : ByteArray) (n : Nat) : Prop :=
  (k = 1 ∧ n = 0 ∧ (39 : UInt8) ∉ s.data.toList) ∨ (k = 3 ∧ s = .empty) ∨ (k = 4 ∧ n = 4 ∧ s = .empty) ∨ ((k = 2 ∨ k = 5 ∨ k = 6 ∨ k = 7) ∧ n = 1 ∧ s = .empty)
def Tx : Fo → Prop
  | .nil => True
  | .node k s ks r => TxN k s ks.len ∧ Tx ks ∧ Tx r
/-- the byte that a node's text begins with -/
def hdB (k : Int) : UInt8 := if k = 1 then 39 else if k = 3 then 40 else if k = 4 then 91 else chrB k
/-- the rest of its text -/
def tlB (k : Int) (s : ByteArray) (ks : Fo) : List UInt8 := if k = 1 then s.data.toList ++ [39] else if k = 3 then fmS ks [] ++ [41] else if k = 4 then fmS ks [[61], [63], [58], [93]] else fmS ks []
theorem fm1_hd (k : Int) (s : ByteArray) (ks : Fo) : fm1 k s ks = hdB k :: tlB k s ks := by
  unfold fm1 hdB tlB
  by_cases h1 : k = 1
  · simp [h1]
  · by_cases h3 : k = 3
    · simp [h3]
    · by_cases h4 : k = 4
      · simp [h4]
      · simp [h1, h3, h4]
theorem txN_kind {k : Int} {s : ByteArray} {n : Nat} (h : TxN k s n) : k = 1 ∨ k = 2 ∨ k = 3 ∨ k = 4 ∨ k = 5 ∨ k = 6 ∨ k = 7 := by
  rcases h with h | h | h | h <;> omega
theorem hd_inj {k k' : Int} (h : k = 1 ∨ k = 2 ∨ k = 3 ∨ k = 4 ∨ k = 5 ∨ k = 6 ∨ k = 7) (h' : k' = 1 ∨ k' = 2 ∨ k' = 3 ∨ k' = 4 ∨ k' = 5 ∨ k' = 6 ∨ k' = 7) (e : hdB k = hdB k') : k = k' := by
  rcases h with rfl | rfl | rfl | rfl | rfl | rfl | rfl <;> rcases h' with rfl | rfl | rfl | rfl | rfl | rfl | rfl <;> first | rfl | (exact absurd e (by decide))
theorem hd_not {k : Int} (h : k = 1 ∨ k = 2 ∨ k = 3 ∨ k = 4 ∨ k = 5 ∨ k = 6 ∨ k = 7) : hdB k ≠ 41 := by
  rcases h with rfl | rfl | rfl | rfl | rfl | rfl | rfl <;> decide
theorem quote_uniq : ∀ {x y t t' : List UInt8}, (39 : UInt8) ∉ x → (39 : UInt8) ∉ y → x ++ 39 :: t = y ++ 39 :: t' → x = y ∧ t = t'
  | [], [], _, _, _, _, h => ⟨rfl, by simpa using h⟩
  | [], b :: y, _, _, _, hy, h => by simp at h hy; exact absurd h.1 hy.1
  | a :: x, [], _, _, hx, _, h => by simp at h hx; exact absurd h.1.symm hx.1
  | a :: x, b :: y, _, _, hx, hy, h => by
    simp at h hx hy
    obtain ⟨h1, h2⟩ := quote_uniq hx.2 hy.2 h.2
    exact ⟨by rw [h.1, h1], h2⟩
/-- with as many nodes, or before a closing bracket, a list has one reading -/
def UnP (f : Fo) : Prop := ∀ g seps t t', Tx f → Tx g → f.len = g.len → fmS f seps ++ t = fmS g seps ++ t' → f = g ∧ t = t'
def UnJ (f : Fo) : Prop := ∀ g t t', Tx f → Tx g → fmS f [] ++ 41 :: t = fmS g [] ++ 41 :: t' → f = g ∧ t = t'
theorem u1_of {k k' : Int} {s s' : ByteArray} {ks ks' : Fo} {t t' : List UInt8} (ih : UnP ks ∧ UnJ ks) (h : TxN k s ks.len) (hk : Tx ks) (h' : TxN k' s' ks'.len) (hk' : Tx ks') (e : fm1 k s ks ++ t = fm1 k' s' ks' ++ t') : k = k' ∧ s = s' ∧ ks = ks' ∧ t = t' := by
  rw [fm1_hd, fm1_hd, List.cons_append, List.cons_append] at e
  injection e with e1 e2
  obtain rfl := hd_inj (txN_kind h) (txN_kind h') e1
  rcases h with ⟨rfl, h0, hq⟩ | ⟨rfl, hs⟩ | ⟨rfl, h0, hs⟩ | ⟨hk7, h0, hs⟩
  · obtain ⟨h0', hq'⟩ : ks'.len = 0 ∧ (39 : UInt8) ∉ s'.data.toList := by
      rcases h' with ⟨_, h1, h2⟩ | ⟨h', _⟩ | ⟨h', _⟩ | ⟨h', _⟩
      · exact ⟨h1, h2⟩
      all_goals omega
    simp only [tlB, if_true, List.append_assoc, List.singleton_append] at e2
    obtain ⟨h1, h2⟩ := quote_uniq hq hq' e2
    exact ⟨rfl, ba_ext h1, by rw [len_zero h0, len_zero h0'], h2⟩
  · have hs' : s' = .empty := by
      rcases h' with ⟨h', _⟩ | ⟨_, h1⟩ | ⟨h', _⟩ | ⟨h', _⟩
      · omega
      · exact h1
      all_goals omega
    simp only [tlB, if_true, show ¬ ((3 : Int) = 1) from by decide, if_false, List.append_assoc, List.singleton_append] at e2
    obtain ⟨h1, h2⟩ := ih.2 _ _ _ hk hk' e2
    exact ⟨rfl, hs.trans hs'.symm, h1, h2⟩
  · obtain ⟨h0', hs'⟩ : ks'.len = 4 ∧ s' = .empty := by
      rcases h' with ⟨h', _⟩ | ⟨h', _⟩ | ⟨_, h1, h2⟩ | ⟨h', _⟩
      · omega
      · omega
      · exact ⟨h1, h2⟩
      · omega
    simp only [tlB, if_true, show ¬ ((4 : Int) = 1) from by decide, show ¬ ((4 : Int) = 3) from by decide, if_false] at e2
    obtain ⟨h1, h2⟩ := ih.1 _ _ _ _ hk hk' (h0.trans h0'.symm) e2
    exact ⟨rfl, hs.trans hs'.symm, h1, h2⟩
  · obtain ⟨h0', hs'⟩ : ks'.len = 1 ∧ s' = .empty := by
      rcases h' with ⟨h', _⟩ | ⟨h', _⟩ | ⟨h', _⟩ | ⟨_, h1, h2⟩
      · omega
      · omega
      · omega
      · exact ⟨h1, h2⟩
    unfold tlB at e2
    rw [if_neg (by omega), if_neg (by omega), if_neg (by omega), if_neg (by omega), if_neg (by omega), if_neg (by omega)] at e2
    obtain ⟨h1, h2⟩ := ih.1 _ _ _ _ hk hk' (h0.trans h0'.symm) e2
    exact ⟨rfl, hs.trans hs'.symm, h1, h2⟩
theorem un_all : ∀ f : Fo, UnP f ∧ UnJ f
  | .nil => by
    refine ⟨fun g seps t t' _ _ hl e => ?_, fun g t t' _ hg e => ?_⟩
    · obtain rfl := len_zero (ks := g) hl.symm
      exact ⟨rfl, by simpa [fmS] using e⟩
    · match g, hg, e with
      | .nil, _, e => exact ⟨rfl, by simpa [fmS] using e⟩
      | .node k s ks r, hg, e =>
        rw [fmS_node, fm1_hd] at e
        simp only [fmS, List.nil_append, List.cons_append] at e
        injection e with e1 _
        exact absurd e1.symm (hd_not (txN_kind hg.1))
  | .node k s ks r => by
    have ihk := un_all ks
    have ihr := un_all r
    refine ⟨fun g seps t t' hf hg hl e => ?_, fun g t t' hf hg e => ?_⟩
    · match g, hg, hl, e with
      | .nil, _, hl, _ => simp [Fo.len] at hl
      | .node k' s' ks' r', hg, hl, e =>
        rw [fmS_node, fmS_node, List.append_assoc, List.append_assoc, List.append_assoc, List.append_assoc] at e
        obtain ⟨rfl, rfl, rfl, e2⟩ := u1_of ihk hf.1 hf.2.1 hg.1 hg.2.1 e
        have e3 := List.append_cancel_left e2
        obtain ⟨rfl, h2⟩ := ihr.1 r' seps.tail t t' hf.2.2 hg.2.2 (by simp only [Fo.len] at hl; omega) e3
        exact ⟨rfl, h2⟩
    · match g, hg, e with
      | .nil, _, e =>
        rw [fmS_node, fm1_hd] at e
        simp only [fmS, List.nil_append, List.cons_append] at e
        injection e with e1 _
        exact absurd e1 (hd_not (txN_kind hf.1))
      | .node k' s' ks' r', hg, e =>
        rw [fmS_node, fmS_node, List.append_assoc, List.append_assoc, List.append_assoc, List.append_assoc] at e
        obtain ⟨rfl, rfl, rfl, e2⟩ := u1_of ihk hf.1 hf.2.1 hg.1 hg.2.1 e
        simp only [List.headD_nil, List.tail_nil, List.nil_append] at e2
        obtain ⟨rfl, h2⟩ := ihr.2 r' t t' hf.2.2 hg.2.2 e2
        exact ⟨rfl, h2⟩
theorem u1 {k k' : Int} {s s' : ByteArray} {ks ks' : Fo} {t t' : List UInt8} (h : TxN k s ks.len) (hk : Tx ks) (h' : TxN k' s' ks'.len) (hk' : Tx ks') (e : fm1 k s ks ++ t = fm1 k' s' ks' ++ t') : k = k' ∧ s = s' ∧ ks = ks' ∧ t = t' := u1_of (un_all ks) h hk h' hk' e

namespace Fo
/-- two lists, one behind the other -/
def app : Fo → Fo → Fo
  | .nil, g => g
  | .node k s ks r, g => .node k s ks (r.app g)
theorem app_size : ∀ f g : Fo, (f.app g).size = f.size + g.size
  | .nil, g => by simp [app, size]
  | .node k s ks r, g => by simp only [app, size, app_size r]; omega
theorem app_len : ∀ f g : Fo, (f.app g).len = f.len + g.len
  | .nil, g => by simp [app, len]
  | .node k s ks r, g => by simp only [app, len, app_len r]; omega
theorem app_nil : ∀ f : Fo, f.app .nil = f
  | .nil => rfl
  | .node k s ks r => by simp only [app, app_nil r]
end Fo
theorem tx_app : ∀ {f g : Fo}, Tx (f.app g) → Tx g
  | .nil, _, h => h
  | .node k s ks r, _, h => tx_app (f := r) h.2.2
/-- what stands behind the nodes that were read is the text of the others -/
theorem read_on : ∀ {f ks : Fo} {seps : List (List UInt8)} {cur tail : List UInt8}, Tx f → Tx ks → f.len ≤ ks.len → fmS f seps ++ cur = fmS ks seps ++ tail → ∃ g, ks = f.app g ∧ cur = fmS g (seps.drop f.len) ++ tail
  | .nil, ks, seps, cur, tail, _, _, _, e => ⟨ks, rfl, by simpa [fmS, Fo.len] using e⟩
  | .node k s k1 r, .nil, _, _, _, _, _, hl, _ => absurd hl (by simp [Fo.len])
  | .node k s k1 r, .node k' s' k1' r', seps, cur, tail, hf, hg, hl, e => by
    rw [fmS_node, fmS_node, List.append_assoc, List.append_assoc, List.append_assoc, List.append_assoc] at e
    obtain ⟨rfl, rfl, rfl, e2⟩ := u1 hf.1 hf.2.1 hg.1 hg.2.1 e
    obtain ⟨g, rfl, h2⟩ := read_on (f := r) (ks := r') hf.2.2 hg.2.2 (by simp only [Fo.len] at hl; omega) (List.append_cancel_left e2)
    refine ⟨g, rfl, ?_⟩
    rw [h2]
    cases seps with
    | nil => simp [Fo.len]
    | cons a l => simp [Fo.len]
theorem read_join : ∀ {f ks : Fo} {cur tail : List UInt8}, Tx f → Tx ks → fmS f [] ++ cur = fmS ks [] ++ 41 :: tail → ∃ g, ks = f.app g ∧ cur = fmS g [] ++ 41 :: tail
  | .nil, ks, cur, tail, _, _, e => ⟨ks, rfl, by simpa [fmS] using e⟩
  | .node k s k1 r, .nil, cur, tail, hf, _, e => by
    rw [fmS_node, fm1_hd] at e
    simp only [fmS, List.nil_append, List.cons_append] at e
    injection e with e1 _
    exact absurd e1 (hd_not (txN_kind hf.1))
  | .node k s k1 r, .node k' s' k1' r', cur, tail, hf, hg, e => by
    rw [fmS_node, fmS_node, List.append_assoc, List.append_assoc, List.append_assoc, List.append_assoc] at e
    obtain ⟨rfl, rfl, rfl, e2⟩ := u1 hf.1 hf.2.1 hg.1 hg.2.1 e
    simp only [List.headD_nil, List.tail_nil, List.nil_append] at e2
    obtain ⟨g, rfl, h2⟩ := read_join (f := r) (ks := r') hf.2.2 hg.2.2 e2
    exact ⟨g, rfl, h2⟩

/-- no node of at most this size can be read off the text -/
def NoRead (l : List UInt8) (n : Nat) : Prop := ∀ (k : Int) (s : ByteArray) (ks : Fo) (tail : List UInt8), TxN k s ks.len → Tx ks → l = fm1 k s ks ++ tail → n < ks.size + 1
/-- a node is read off the text -/
def Reads1 (l : List UInt8) (n : Nat) (k : Int) (s : ByteArray) (ks : Fo) (tail : List UInt8) : Prop := TxN k s ks.len ∧ Tx ks ∧ l = fm1 k s ks ++ tail ∧ ks.size + 1 ≤ n
theorem noRead_zero (l : List UInt8) : NoRead l 0 := fun _ _ _ _ _ _ _ => Nat.succ_pos _
theorem noRead_nil (n : Nat) : NoRead [] n := fun k s ks tail _ _ e => by rw [fm1_hd] at e; simp at e
theorem noRead_hd {c : UInt8} {l : List UInt8} {n : Nat} (h : ∀ k : Int, (k = 1 ∨ k = 2 ∨ k = 3 ∨ k = 4 ∨ k = 5 ∨ k = 6 ∨ k = 7) → hdB k ≠ c) : NoRead (c :: l) n := fun k s ks tail h1 _ e => by
  rw [fm1_hd, List.cons_append] at e
  injection e with e1 _
  exact absurd e1.symm (h k (txN_kind h1))
/-- a list of nodes that is read off the text: so far -/
def ReadsS (l : List UInt8) (n : Nat) (seps : List (List UInt8)) (f : Fo) (cur : List UInt8) : Prop := Tx f ∧ l = fmS f seps ++ cur ∧ f.size ≤ n
def NoJoin (l : List UInt8) (n : Nat) : Prop := ∀ (ks : Fo) (tail : List UInt8), Tx ks → l = fmS ks [] ++ 41 :: tail → n < ks.size
def NoSeps (l : List UInt8) (n : Nat) (seps : List (List UInt8)) : Prop := ∀ (ks : Fo) (tail : List UInt8), Tx ks → ks.len = seps.length → l = fmS ks seps ++ tail → n < ks.size
theorem noJoin_of {l : List UInt8} {n : Nat} {f : Fo} {cur : List UInt8} (h : ReadsS l n [] f cur) (h1 : ∀ t, cur ≠ 41 :: t) (h2 : NoRead cur (n - f.size)) : NoJoin l n := by
  intro ks tail hk e
  obtain ⟨hf, hl, hz⟩ := h
  obtain ⟨g, rfl, hc⟩ := read_join hf hk (hl.symm.trans e)
  match g, hk, hc with
  | .nil, _, hc => exact absurd (by simpa [fmS] using hc) (h1 tail)
  | .node k s k1 r, hk, hc =>
    have hg := tx_app hk
    rw [fmS_node, List.append_assoc, List.append_assoc] at hc
    have := h2 k s k1 _ hg.1 hg.2.1 hc
    rw [Fo.app_size]
    simp only [Fo.size]
    omega
theorem noSeps_expr {l : List UInt8} {n : Nat} {seps : List (List UInt8)} {f : Fo} {cur : List UInt8} (h : ReadsS l n seps f cur) (hj : f.len < seps.length) (h2 : NoRead cur (n - f.size)) : NoSeps l n seps := by
  intro ks tail hk hlen e
  obtain ⟨hf, hl, hz⟩ := h
  obtain ⟨g, rfl, hc⟩ := read_on hf hk (by omega) (hl.symm.trans e)
  rw [Fo.app_len] at hlen
  match g, hk, hc with
  | .nil, _, _ => simp only [Fo.len] at hlen; omega
  | .node k s k1 r, hk, hc =>
    have hg := tx_app hk
    rw [fmS_node, List.append_assoc, List.append_assoc] at hc
    have := h2 k s k1 _ hg.1 hg.2.1 hc
    rw [Fo.app_size]
    simp only [Fo.size]
    omega
theorem noSeps_mark {l : List UInt8} {n : Nat} {seps : List (List UInt8)} {f : Fo} {cur cur2 : List UInt8} {k : Int} {s : ByteArray} {ks1 : Fo} {m : List UInt8} (h : ReadsS l n seps f cur) (hj : seps[f.len]? = some m) (h2 : Reads1 cur (n - f.size) k s ks1 cur2) (h3 : ∀ t, cur2 ≠ m ++ t) : NoSeps l n seps := by
  intro ks tail hk hlen e
  obtain ⟨hf, hl, hz⟩ := h
  have hjl := (List.getElem?_eq_some_iff.1 hj).1
  obtain ⟨g, rfl, hc⟩ := read_on hf hk (by omega) (hl.symm.trans e)
  rw [Fo.app_len] at hlen
  match g, hk, hc with
  | .nil, _, _ => simp only [Fo.len] at hlen; omega
  | .node k' s' k1 r, hk, hc =>
    have hg := tx_app hk
    rw [fmS_node, List.append_assoc, List.append_assoc, h2.2.2.1] at hc
    obtain ⟨rfl, rfl, rfl, e2⟩ := u1 h2.1 h2.2.1 hg.1 hg.2.1 hc
    have hd : seps.drop f.len = m :: seps.drop (f.len + 1) := by
      obtain ⟨h5, h6⟩ := List.getElem?_eq_some_iff.1 hj
      rw [List.drop_eq_getElem_cons h5, h6]
    rw [hd] at e2
    exact absurd (by simpa using e2) (h3 _)
end Go.Proofs.Ytecekkmagldpoaa

namespace Go.Proofs.Ytecekkmagldpoaa
set_option linter.unusedVariables false
open Go.RowKit Go.Maps

/-! ### the order of strings -/
theorem sLess_lt (a b : ByteArray) : sLess a b = decide (a.data.toList < b.data.toList) := by
  unfold sLess
  rw [Lib.toList_data, Lib.toList_data]
  generalize a.data.toList = x
  generalize b.data.toList = y
  induction x generalizing y with
  | nil => cases y with
    | nil => simp [Op.bytesLess]
    | cons b bs => simp [Op.bytesLess]
  | cons a ts ih =>
    cases y with
    | nil => simp [Op.bytesLess]
    | cons b bs =>
      rw [Op.bytesLess, ih bs]
      by_cases h1 : a < b
      · simp [h1, List.cons_lt_cons_iff]
      · by_cases h2 : a = b
        · subst h2; simp
        · simp [h1, h2, List.cons_lt_cons_iff]
theorem sLess_iff {a b : ByteArray} : sLess a b = true ↔ a.data.toList < b.data.toList := by rw [sLess_lt]; simp
theorem bytes_ext {a b : ByteArray} (h : a.data.toList = b.data.toList) : a = b := WideShapes.bytes_inj h
theorem sLess_irrefl (a : ByteArray) : sLess a a = false := by rw [sLess_lt]; simp
theorem sLess_trans {a b c : ByteArray} (h1 : sLess a b = true) (h2 : sLess b c = true) : sLess a c = true := by
  rw [sLess_iff] at *; exact List.lt_trans h1 h2
theorem sLess_total {a b : ByteArray} (h : sLess a b = false) (hne : a ≠ b) : sLess b a = true := by
  rw [sLess_lt, decide_eq_false_iff_not] at h
  rw [sLess_iff]
  have h2 : b.data.toList ≤ a.data.toList := h
  rcases List.le_iff_lt_or_eq.1 h2 with h3 | h3
  · exact h3
  · exact absurd (bytes_ext h3.symm) hne
theorem sLess_ne {a b : ByteArray} (h : sLess a b = true) : a ≠ b := by rintro rfl; rw [sLess_irrefl] at h; cases h
theorem sLess_asymm {a b : ByteArray} (h : sLess a b = true) : sLess b a = false := by
  cases h2 : sLess b a
  · rfl
  · have := sLess_trans h h2; rw [sLess_irrefl] at this; cases this
theorem leB_iff {a b : ByteArray} : leB a.data.toList b.data.toList = !sLess b a := by
  rw [sLess_lt]
  generalize a.data.toList = x
  generalize b.data.toList = y
  show decide (x ≤ y) = _
  by_cases h : y < x
  · rw [decide_eq_true h, decide_eq_false (fun hle : x ≤ y => hle h)]; rfl
  · rw [decide_eq_false h, decide_eq_true (show x ≤ y from h)]; rfl

/-! ### lists in order -/
/-- the paths ascend -/
def Asc (fs : List Fl) : Prop := fs.Pairwise fun a b => sLess a.1 b.1 = true
/-- no path stands twice -/
def Once (fs : List Fl) : Prop := fs.Pairwise fun a b => a.1 ≠ b.1
theorem Asc.once {fs : List Fl} (h : Asc fs) : Once fs := h.imp fun h => sLess_ne h
theorem Once.perm {fs gs : List Fl} (h : Once fs) (hp : fs.Perm gs) : Once gs := (hp.pairwise_iff (fun {_ _} hne => Ne.symm hne)).1 h
theorem Once.filter {fs : List Fl} (h : Once fs) (q : Fl → Bool) : Once (fs.filter q) := List.Pairwise.filter q h
theorem Asc.filter {fs : List Fl} (h : Asc fs) (q : Fl → Bool) : Asc (fs.filter q) := List.Pairwise.filter q h
theorem Once.inj {fs : List Fl} (h : Once fs) {f g : Fl} (hf : f ∈ fs) (hg : g ∈ fs) (he : f.1 = g.1) : f = g := by
  induction fs with
  | nil => cases hf
  | cons x fs ih =>
    obtain ⟨h1, h2⟩ := List.pairwise_cons.1 h
    rcases List.mem_cons.1 hf with e1 | m1 <;> rcases List.mem_cons.1 hg with e2 | m2
    · rw [e1, e2]
    · subst e1; exact absurd he (h1 _ m2)
    · subst e2; exact absurd he.symm (h1 _ m1)
    · exact ih h2 m1 m2
/-- two ascending lists that hold the same files are one -/
theorem Asc.eq {fs gs : List Fl} (h1 : Asc fs) (h2 : Asc gs) (hp : fs.Perm gs) : fs = gs :=
  List.Perm.eq_of_pairwise (le := fun a b : Fl => sLess a.1 b.1 = true) (fun a b _ _ h h' => by rw [sLess_asymm h] at h'; cases h') h1 h2 hp

/-- one put in, in whatever place -/
def putU (f : Fl) (fs : List Fl) : List Fl := f :: fs.filter fun g => decide (g.1 ≠ f.1)
/-- one struck out -/
def delU (p : ByteArray) (fs : List Fl) : List Fl := fs.filter fun g => decide (g.1 ≠ p)
theorem putU_once {f : Fl} {fs : List Fl} (h : Once fs) : Once (putU f fs) :=
  List.pairwise_cons.2 ⟨fun g hg => by have := (List.mem_filter.1 hg).2; simp at this; exact fun e => this e.symm, h.filter _⟩
theorem putU_perm {f : Fl} {fs gs : List Fl} (h : fs.Perm gs) : (putU f fs).Perm (putU f gs) := (h.filter _).cons _
theorem delU_perm {p : ByteArray} {fs gs : List Fl} (h : fs.Perm gs) : (delU p fs).Perm (delU p gs) := h.filter _
theorem putU_new {f : Fl} {fs : List Fl} (h : ∀ g ∈ fs, g.1 ≠ f.1) : (putU f fs).Perm (fs ++ [f]) := by
  unfold putU
  rw [List.filter_eq_self.2 fun g hg => by simpa using h g hg]
  exact (List.perm_append_singleton f fs).symm
theorem mem_putU {f g : Fl} {fs : List Fl} : g ∈ putU f fs ↔ g = f ∨ (g ∈ fs ∧ g.1 ≠ f.1) := by simp [putU]
theorem mem_delU {p : ByteArray} {g : Fl} {fs : List Fl} : g ∈ delU p fs ↔ g ∈ fs ∧ g.1 ≠ p := by simp [delU]

/-- the files in the order of their paths -/
def srtF (fs : List Fl) : List Fl := fs.mergeSort fun a b => leB a.1.data.toList b.1.data.toList
theorem leB_trans (a b c : List UInt8) (h1 : leB a b = true) (h2 : leB b c = true) : leB a c = true := by simp only [leB, decide_eq_true_eq] at *; exact List.le_trans h1 h2
theorem leB_total (a b : List UInt8) : (leB a b || leB b a) = true := by simp only [leB, Bool.or_eq_true, decide_eq_true_eq]; exact List.le_total a b
theorem srtF_perm (fs : List Fl) : (srtF fs).Perm fs := List.mergeSort_perm _ _
theorem srtF_pw (fs : List Fl) : (srtF fs).Pairwise fun a b => leB a.1.data.toList b.1.data.toList = true :=
  List.pairwise_mergeSort (le := fun a b : Fl => leB a.1.data.toList b.1.data.toList) (fun a b c => leB_trans a.1.data.toList b.1.data.toList c.1.data.toList) (fun a b => leB_total a.1.data.toList b.1.data.toList) fs
theorem srtF_asc {fs : List Fl} (h : Once fs) : Asc (srtF fs) := by
  have h1 : (srtF fs).Pairwise fun a b => leB a.1.data.toList b.1.data.toList = true := srtF_pw fs
  have h2 : Once (srtF fs) := h.perm (srtF_perm fs).symm
  refine (h1.and h2).imp ?_
  rintro a b ⟨hle, hne⟩
  rw [leB_iff] at hle
  exact sLess_total (by simpa using hle) (fun e => hne e.symm)
theorem srtF_eq {fs gs : List Fl} (h : Once fs) (hp : fs.Perm gs) (ha : Asc gs) : srtF fs = gs := (srtF_asc h).eq ha ((srtF_perm fs).trans hp)
theorem srtF_keys {fs : List Fl} {ss : List (List UInt8)} (hp : ss.Perm (fs.map fun f => f.1.data.toList)) : ss.mergeSort (fun x y => decide (x ≤ y)) = (srtF fs).map fun f => f.1.data.toList := by
  refine List.Perm.eq_of_pairwise (le := fun a b => leB a b = true) (fun a b _ _ h1 h2 => ?_) (List.pairwise_mergeSort leB_trans leB_total ss) ?_ (((List.mergeSort_perm ss _).trans hp).trans ((srtF_perm fs).symm.map _))
  · simp only [leB, decide_eq_true_eq] at h1 h2
    exact List.le_antisymm h1 h2
  · exact List.pairwise_map.2 (srtF_pw fs)

/-! ### a map as read -/
section
variable {H : Type}
def ent (f : Fl) : Lit × DataW H := (.string f.1.data.toList, .lit (.string f.2.data.toList))
/-- the map D holds just the files of gs -/
def Rep (D : DataW H) (gs : List Fl) : Prop := ∃ es, D = .map es ∧ es.Perm (gs.map ent) ∧ Once gs
theorem rep_empty : Rep (.map [] : DataW H) [] := ⟨[], rfl, .nil, List.Pairwise.nil⟩
theorem Rep.once {D : DataW H} {gs : List Fl} (h : Rep D gs) : Once gs := let ⟨_, _, _, h⟩ := h; h
theorem Rep.perm {D : DataW H} {gs hs : List Fl} (h : Rep D gs) (hp : gs.Perm hs) : Rep D hs := by
  obtain ⟨es, rfl, h1, h2⟩ := h
  exact ⟨es, rfl, h1.trans (hp.map _), h2.perm hp⟩
theorem insert_perm (x : Lit × DataW H) : ∀ l : List (Lit × DataW H), (DataW.insert x l).Perm (x :: l)
  | [] => .refl _
  | y :: r => by
    unfold DataW.insert
    split
    · exact .refl _
    · exact ((insert_perm x r).cons y).trans (.swap x y r)
theorem sameKey_str (a b : List UInt8) : (Lit.string a).sameKey (.string b) = decide (a = b) := by
  by_cases h : a = b <;> simp [Lit.sameKey, h]
theorem ent_filter (p : ByteArray) (gs : List Fl) : ((gs.map ent : List (Lit × DataW H)).filter fun e => !e.1.sameKey (.string p.data.toList)) = (delU p gs).map ent := by
  unfold delU
  rw [List.filter_map]
  congr 1
  refine List.filter_congr fun g _ => ?_
  show (!(Lit.string g.1.data.toList).sameKey _) = _
  rw [sameKey_str]
  by_cases h : g.1 = p
  · simp [h]
  · have : ¬ g.1.data.toList = p.data.toList := fun e => h (bytes_ext e)
    simp only [this, h, decide_false, Bool.not_false, ne_eq, not_false_eq_true, decide_true]
theorem Rep.put {D : DataW H} {gs : List Fl} (h : Rep D gs) (f : Fl) : Rep (D.put (.string f.1.data.toList) (.lit (.string f.2.data.toList))) (putU f gs) := by
  obtain ⟨es, rfl, h1, h2⟩ := h
  refine ⟨_, rfl, (insert_perm _ _).trans ?_, putU_once h2⟩
  have h3 := h1.filter fun e => !e.1.sameKey (.string f.1.data.toList)
  rw [ent_filter] at h3
  exact h3.cons _
theorem Rep.del {D : DataW H} {gs : List Fl} (h : Rep D gs) (p : ByteArray) : Rep (D.del (.string p.data.toList)) (delU p gs) := by
  obtain ⟨es, rfl, h1, h2⟩ := h
  refine ⟨_, rfl, ?_, h2.filter _⟩
  have h3 := h1.filter fun e => !e.1.sameKey (.string p.data.toList)
  rwa [ent_filter] at h3
theorem Rep.keys {D : DataW H} {gs : List Fl} (h : Rep D gs) : (strKeys D).Perm (gs.map fun f => f.1.data.toList) := by
  obtain ⟨es, rfl, h1, _⟩ := h
  have := h1.map fun p : Lit × DataW H => strOf p.1
  rw [List.map_map] at this
  exact this
theorem Rep.size {D : DataW H} {gs : List Fl} (h : Rep D gs) : Maps.size D = gs.length := by
  obtain ⟨es, rfl, h1, _⟩ := h
  rw [size_eq, h1.length_eq, List.length_map]
theorem Rep.has {D : DataW H} {gs : List Fl} (h : Rep D gs) (p : ByteArray) : Maps.has D (.string p.data.toList) = gs.any fun g => decide (g.1 = p) := by
  obtain ⟨es, rfl, h1, _⟩ := h
  rw [has_eq, h1.any_eq, List.any_map]
  congr 1
  funext g
  show (Lit.string g.1.data.toList).sameKey (.string p.data.toList) = decide (g.1 = p)
  rw [sameKey_str]
  by_cases hg : g.1 = p
  · simp [hg]
  · have : ¬ g.1.data.toList = p.data.toList := fun e => hg (bytes_ext e)
    simp [hg, this]
theorem Rep.at_ {D : DataW H} {gs : List Fl} (h : Rep D gs) {p t : ByteArray} (hm : (p, t) ∈ gs) (z : DataW H) : D.atKey (.string p.data.toList) z = .lit (.string t.data.toList) := by
  obtain ⟨es, rfl, h1, h2⟩ := h
  show (match es.find? (fun e => e.1.sameKey (.string p.data.toList)) with | some e => e.2 | none => z) = _
  cases hf : es.find? (fun e => e.1.sameKey (.string p.data.toList)) with
  | none =>
    rw [List.find?_eq_none] at hf
    have := hf (ent (p, t)) (h1.mem_iff.2 (List.mem_map.2 ⟨_, hm, rfl⟩))
    simp [ent, sameKey_str] at this
  | some e =>
    have hk := List.find?_some hf
    obtain ⟨g, hg, rfl⟩ := List.mem_map.1 (h1.mem_iff.1 (List.mem_of_find?_eq_some hf))
    simp [ent, sameKey_str] at hk
    obtain rfl : g = (p, t) := h2.inj hg hm (bytes_ext (by simpa using hk))
    rfl
end

/-! ### what valid lists are -/
theorem okTo_iff {fs : List Fl} {n : Nat} : okTo fs n = true ↔ ∀ k, k < n → okAt fs k = true := by
  unfold okTo
  rw [List.all_eq_true]
  exact ⟨fun h k hk => h k (by simpa using hk), fun h k hk => h k (by simpa using hk)⟩
theorem asc_of_next {fs : List Fl} (h : ∀ k p t q r, fs[k + 1]? = some (p, t) → fs[k]? = some (q, r) → sLess q p = true) : Asc fs := by
  induction fs with
  | nil => exact List.Pairwise.nil
  | cons x fs ih =>
    have hi := ih fun k p t q r h1 h2 => h (k + 1) p t q r (by simpa using h1) (by simpa using h2)
    refine List.pairwise_cons.2 ⟨fun y hy => ?_, hi⟩
    cases fs with
    | nil => cases hy
    | cons z fs =>
      have hz : sLess x.1 z.1 = true := h 0 z.1 z.2 x.1 x.2 rfl rfl
      rcases List.mem_cons.1 hy with rfl | hy
      · exact hz
      · exact sLess_trans hz ((List.pairwise_cons.1 hi).1 y hy)
theorem validB_iff {fs : List Fl} : validB fs = true ↔ fs.length ≤ 12 ∧ (∀ f ∈ fs, pathB f.1 = true ∧ textB f.2 = true) ∧ Asc fs := by
  unfold validB
  rw [Bool.and_eq_true, decide_eq_true_eq, okTo_iff]
  refine and_congr_right fun _ => ⟨fun h => ⟨fun f hf => ?_, asc_of_next fun k p t q r h1 h2 => ?_⟩, fun ⟨h1, h2⟩ k hk => ?_⟩
  · obtain ⟨k, hk⟩ := List.getElem?_of_mem hf
    have := h k (List.getElem?_eq_some_iff.1 hk).1
    unfold okAt at this
    rw [hk] at this
    simp only [Bool.and_eq_true] at this
    exact this.1
  · have := h (k + 1) (List.getElem?_eq_some_iff.1 h1).1
    unfold okAt at this
    rw [h1] at this
    simp only [h2, Bool.and_eq_true] at this
    exact this.2
  · have hg : fs[k]? = some (fs[k].1, fs[k].2) := List.getElem?_eq_getElem hk
    have hv := h1 fs[k] (List.getElem_mem _)
    cases k with
    | zero => exact okAt_zero hg hv.1 hv.2
    | succ k =>
      have hq : fs[k]? = some (fs[k].1, fs[k].2) := List.getElem?_eq_getElem (by omega)
      rw [okAt_succ hg hq hv.1 hv.2]
      exact (List.pairwise_iff_getElem.1 h2) k (k + 1) (by omega) hk (by omega)
theorem valid_asc {fs : List Fl} (h : validB fs = true) : Asc fs := (validB_iff.1 h).2.2

theorem findF_mem {fs : List Fl} (h : Once fs) {p t : ByteArray} (hm : (p, t) ∈ fs) : findF fs p = (t, true) := by
  induction fs with
  | nil => cases hm
  | cons x fs ih =>
    obtain ⟨h1, h2⟩ := List.pairwise_cons.1 h
    rw [findF]
    rcases List.mem_cons.1 hm with rfl | hm
    · simp
    · rw [if_neg (h1 _ hm)]
      exact ih h2 hm
theorem findF_not {fs : List Fl} {p : ByteArray} (h : ∀ g ∈ fs, g.1 ≠ p) : findF fs p = (.empty, false) :=
  findF_none fun j q t hj => h _ (List.mem_of_getElem? hj)
theorem findF_cases (fs : List Fl) (p : ByteArray) : ((∃ t, (p, t) ∈ fs ∧ findF fs p = (t, true)) ∨ ((∀ g ∈ fs, g.1 ≠ p) ∧ findF fs p = (.empty, false))) := by
  induction fs with
  | nil => exact .inr ⟨by simp, rfl⟩
  | cons x fs ih =>
    rw [findF]
    by_cases h : x.1 = p
    · rw [if_pos h]; exact .inl ⟨x.2, by rw [← h]; simp, rfl⟩
    · rw [if_neg h]
      rcases ih with ⟨t, hm, hf⟩ | ⟨hn, hf⟩
      · exact .inl ⟨t, List.mem_cons_of_mem _ hm, hf⟩
      · refine .inr ⟨fun g hg => ?_, hf⟩
        rcases List.mem_cons.1 hg with e | hg
        · rw [e]; exact h
        · exact hn g hg
end Go.Proofs.Ytecekkmagldpoaa

namespace Go.Proofs.Ytecekkmagldpoaa
set_option linter.unusedVariables false
open Go.RowKit

theorem split_unique {a : UInt8} : ∀ {x x' y y' : List UInt8}, x ++ a :: y = x' ++ a :: y' → a ∉ x → a ∉ x' → x = x' ∧ y = y'
  | [], [], y, y', h, _, _ => ⟨rfl, by simpa using h⟩
  | [], b :: x', y, y', h, _, h2 => by
    simp at h
    exact absurd (by simp [h.1]) h2
  | b :: x, [], y, y', h, h1, _ => by
    simp at h
    exact absurd (by simp [← h.1]) h1
  | b :: x, b' :: x', y, y', h, h1, h2 => by
    simp at h h1 h2
    obtain ⟨rfl, h⟩ := h
    obtain ⟨rfl, rfl⟩ := split_unique h h1.2 h2.2
    exact ⟨rfl, rfl⟩

/-- no blank in the path, no newline anywhere -/
def Clean (f : Fl) : Prop := (32 : UInt8) ∉ f.1.data.toList ∧ (10 : UInt8) ∉ f.1.data.toList ∧ (10 : UInt8) ∉ f.2.data.toList
def lineF (f : Fl) : List UInt8 := f.1.data.toList ++ 32 :: f.2.data.toList
theorem fmtF_cons (f : Fl) (fs : List Fl) : fmtF (f :: fs) = lineF f ++ 10 :: fmtF fs := by simp [fmtF, lineF]
theorem fmtF_nil : fmtF [] = [] := rfl
theorem fmtF_append (a b : List Fl) : fmtF (a ++ b) = fmtF a ++ fmtF b := by simp [fmtF]
theorem lineF_clean {f : Fl} (h : Clean f) : (10 : UInt8) ∉ lineF f := by
  unfold lineF; simp [h.2.1, h.2.2]
theorem lineF_inj {f g : Fl} (hf : Clean f) (hg : Clean g) (h : lineF f = lineF g) : f = g := by
  obtain ⟨h1, h2⟩ := split_unique h hf.1 hg.1
  exact Prod.ext (bytes_ext h1) (bytes_ext h2)
theorem path_clean {p : ByteArray} (h : pathB p = true) : (32 : UInt8) ∉ p.data.toList ∧ (10 : UInt8) ∉ p.data.toList := by
  have h3 := (btw_iff _ _ _).1 ((pathB_iff p).1 h).2.2
  exact ⟨fun hm => by have := h3 _ hm; revert this; decide, fun hm => by have := h3 _ hm; revert this; decide⟩
theorem text_clean {t : ByteArray} (h : textB t = true) : (10 : UInt8) ∉ t.data.toList := by
  have h3 := (btw_iff _ _ _).1 ((textB_iff t).1 h).2
  exact fun hm => by have := h3 _ hm; revert this; decide
theorem valid_clean {fs : List Fl} (h : validB fs = true) : ∀ f ∈ fs, Clean f := fun f hf => by
  have := (validB_iff.1 h).2.1 f hf
  exact ⟨(path_clean this.1).1, (path_clean this.1).2, text_clean this.2⟩

/-- a list whose text begins as another's -/
theorem fmt_prefix : ∀ {l fs : List Fl} {r : List UInt8}, (∀ f ∈ l, Clean f) → (∀ f ∈ fs, Clean f) → fmtF fs = fmtF l ++ r → ∃ gs, fs = l ++ gs ∧ r = fmtF gs
  | [], fs, r, _, _, h => ⟨fs, rfl, by rw [h]; rfl⟩
  | g :: l, [], r, _, _, h => by
    rw [fmtF_cons] at h
    have := congrArg List.length h
    simp [fmtF_nil] at this
  | g :: l, f :: fs, r, hl, hf, h => by
    rw [fmtF_cons, fmtF_cons, List.append_assoc, List.cons_append] at h
    obtain ⟨h1, h2⟩ := split_unique h (lineF_clean (hf f (by simp))) (lineF_clean (hl g (by simp)))
    obtain rfl := lineF_inj (hf f (by simp)) (hl g (by simp)) h1
    obtain ⟨gs, rfl, rfl⟩ := fmt_prefix (fun x hx => hl x (by simp [hx])) (fun x hx => hf x (by simp [hx])) h2
    exact ⟨gs, rfl, rfl⟩
theorem fmtF_eq_nil {fs : List Fl} (h : fmtF fs = []) : fs = [] := by
  cases fs with
  | nil => rfl
  | cons f fs => rw [fmtF_cons] at h; simp at h
theorem fmt_inj {fs gs : List Fl} (hf : ∀ f ∈ fs, Clean f) (hg : ∀ f ∈ gs, Clean f) (h : fmtF fs = fmtF gs) : fs = gs := by
  obtain ⟨ks, rfl, hk⟩ := fmt_prefix (r := []) hg hf (by simpa using h)
  rw [fmtF_eq_nil hk.symm, List.append_nil]

open Classical in
/-- what parsing answers -/
noncomputable def parseR (s : List UInt8) : List Fl × Bool := if h : ∃ fs, validB fs = true ∧ fmtF fs = s then (h.choose, true) else ([], false)
theorem parseR_fine {s : List UInt8} {fs : List Fl} (h1 : validB fs = true) (h2 : fmtF fs = s) : parseR s = (fs, true) := by
  unfold parseR
  have h : ∃ fs, validB fs = true ∧ fmtF fs = s := ⟨fs, h1, h2⟩
  rw [dif_pos h]
  have hc := h.choose_spec
  rw [fmt_inj (valid_clean hc.1) (valid_clean h1) (hc.2.trans h2.symm)]
theorem parseR_bad {s : List UInt8} (h : ∀ fs, validB fs = true → fmtF fs = s → False) : parseR s = ([], false) := by
  unfold parseR
  rw [dif_neg (fun ⟨fs, h1, h2⟩ => h fs h1 h2)]
theorem parseR_true {s : List UInt8} {xs : List Fl} (h : parseR s = (xs, true)) : validB xs = true ∧ fmtF xs = s := by
  unfold parseR at h
  split at h
  · rename_i hx; cases h; exact hx.choose_spec
  · cases h
theorem parseR_nil {s : List UInt8} {xs : List Fl} (h : parseR s = (xs, false)) : xs = [] := by
  unfold parseR at h
  split at h
  · cases h
  · cases h; rfl

/-! ### the ways of the program's loop -/
theorem way_miss {s r : List UInt8} {l : List Fl} (hl : ∀ f ∈ l, Clean f) (hs : fmtF l ++ r = s) (hr : r ≠ []) (hn : (10 : UInt8) ∉ r) : parseR s = ([], false) :=
  parseR_bad fun fs h1 h2 => by
    obtain ⟨gs, rfl, rfl⟩ := fmt_prefix hl (valid_clean h1) (h2.trans hs.symm)
    cases gs with
    | nil => exact hr rfl
    | cons g gs => exact hn (by rw [fmtF_cons]; simp)
theorem way_blank {s x y : List UInt8} {l : List Fl} (hl : ∀ f ∈ l, Clean f) (hs : fmtF l ++ (x ++ 10 :: y) = s) (hx : (10 : UInt8) ∉ x) (hn : (32 : UInt8) ∉ x) : parseR s = ([], false) :=
  parseR_bad fun fs h1 h2 => by
    obtain ⟨gs, rfl, hr⟩ := fmt_prefix hl (valid_clean h1) (h2.trans hs.symm)
    cases gs with
    | nil => simp [fmtF_nil] at hr
    | cons g gs =>
      rw [fmtF_cons] at hr
      obtain ⟨rfl, _⟩ := split_unique hr hx (lineF_clean (valid_clean h1 g (by simp)))
      exact hn (by unfold lineF; simp)
theorem way_long {s r : List UInt8} {l : List Fl} (hl : ∀ f ∈ l, Clean f) (hs : fmtF l ++ r = s) (hr : r ≠ []) (hn : l.length = 12) : parseR s = ([], false) :=
  parseR_bad fun fs h1 h2 => by
    obtain ⟨gs, rfl, rfl⟩ := fmt_prefix hl (valid_clean h1) (h2.trans hs.symm)
    have := valid_length h1
    rw [List.length_append, hn] at this
    cases gs with
    | nil => exact hr rfl
    | cons g gs => simp only [List.length_cons] at this; omega
theorem way_end {s : List UInt8} {l : List Fl} (hl : ∀ f ∈ l, Clean f) (hs : fmtF l = s) (hv : validB l = false) : parseR s = ([], false) :=
  parseR_bad fun fs h1 h2 => by
    rw [fmt_inj (valid_clean h1) hl (h2.trans hs.symm), hv] at h1
    cases h1
theorem way_on {s x y z : List UInt8} {l : List Fl} (hl : ∀ f ∈ l, Clean f) (hs : fmtF l ++ ((x ++ 32 :: z) ++ 10 :: y) = s) (hx : (10 : UInt8) ∉ x ++ 32 :: z) (hn : (32 : UInt8) ∉ x) :
    (∀ f ∈ l ++ [((⟨x.toArray⟩, ⟨z.toArray⟩) : Fl)], Clean f) ∧ fmtF (l ++ [((⟨x.toArray⟩, ⟨z.toArray⟩) : Fl)]) ++ y = s := by
  refine ⟨fun f hf => ?_, ?_⟩
  · rcases List.mem_append.1 hf with hf | hf
    · exact hl f hf
    · obtain rfl : f = (⟨x.toArray⟩, ⟨z.toArray⟩) := by simpa using hf
      simp at hx
      exact ⟨by simpa using hn, by simpa using hx.1, by simpa using hx.2⟩
  · rw [fmtF_append, fmtF_cons, fmtF_nil, ← hs]
    simp [lineF]

/-! ### the model's way: lines, each parted at its first blank -/
/-- newline behind each -/
def flat (ls : List (List UInt8)) : List UInt8 := ls.flatMap fun l => l ++ [10]
theorem flat_append (a b : List (List UInt8)) : flat (a ++ b) = flat a ++ flat b := by simp [flat]
theorem flat_cons (l : List UInt8) (ls : List (List UInt8)) : flat (l :: ls) = l ++ 10 :: flat ls := by simp [flat]
theorem fmtF_flat (fs : List Fl) : fmtF fs = flat (fs.map lineF) := by
  induction fs with
  | nil => rfl
  | cons f fs ih => rw [fmtF_cons, List.map_cons, flat_cons, ih]
theorem flat_unique : ∀ {ls ks : List (List UInt8)} {z : List UInt8}, (∀ l ∈ ls, (10 : UInt8) ∉ l) → (∀ l ∈ ks, (10 : UInt8) ∉ l) → (10 : UInt8) ∉ z → flat ls ++ z = flat ks → ls = ks ∧ z = []
  | [], [], z, _, _, _, h => ⟨rfl, by simpa [flat] using h⟩
  | [], k :: ks, z, _, _, hz, h => by
    rw [flat_cons] at h
    have : (10 : UInt8) ∈ z := by
      have h' : z = k ++ 10 :: flat ks := by simpa [flat] using h
      rw [h']; simp
    exact absurd this hz
  | l :: ls, [], z, _, _, _, h => by
    rw [flat_cons] at h
    simp [flat] at h
  | l :: ls, k :: ks, z, h1, h2, hz, h => by
    rw [flat_cons, flat_cons, List.append_assoc, List.cons_append] at h
    obtain ⟨rfl, h5⟩ := split_unique h (h1 l (by simp)) (h2 k (by simp))
    obtain ⟨e1, e2⟩ := flat_unique (ls := ls) (ks := ks) (fun x hx => h1 x (by simp [hx])) (fun x hx => h2 x (by simp [hx])) hz h5
    exact ⟨by rw [e1], e2⟩
/-- a line parted at its first blank -/
def partB (l : List UInt8) : List UInt8 × List UInt8 := if (32 : UInt8) ∈ l then (l.takeWhile (· != 32), (l.dropWhile (· != 32)).drop 1) else (l, [])
theorem partB_hit {x y : List UInt8} (h : (32 : UInt8) ∉ x) : partB (x ++ 32 :: y) = (x, y) := by
  unfold partB
  rw [if_pos (by simp)]
  have h1 : ∀ b ∈ x, (b != 32) = true := fun b hb => by simp; rintro rfl; exact h hb
  rw [List.takeWhile_append_of_pos h1, List.dropWhile_append_of_pos h1]
  simp
theorem partB_miss {x : List UInt8} (h : (32 : UInt8) ∉ x) : partB x = (x, []) := by unfold partB; rw [if_neg h]
def fileOf (l : List UInt8) : Fl := (⟨(partB l).1.toArray⟩, ⟨(partB l).2.toArray⟩)
theorem fileOf_line {f : Fl} (h : Clean f) : fileOf (lineF f) = f := by
  unfold fileOf lineF
  rw [partB_hit h.1]
/-- what the lines of a text tell of it -/
theorem lines_of {s z : List UInt8} {ls : List (List UInt8)} (h : flat ls ++ z = s) (hl : ∀ l ∈ ls, (10 : UInt8) ∉ l) (hz : (10 : UInt8) ∉ z) {fs : List Fl} (h1 : validB fs = true) (h2 : fmtF fs = s) : ls = fs.map lineF ∧ ls.map fileOf = fs ∧ ls.length = fs.length := by
  rw [fmtF_flat] at h2
  obtain ⟨rfl, _⟩ := flat_unique hl (fun l hl => by obtain ⟨f, hf, rfl⟩ := List.mem_map.1 hl; exact lineF_clean (valid_clean h1 f hf)) hz (h.trans h2.symm)
  refine ⟨rfl, ?_, by simp⟩
  rw [List.map_map]
  exact (List.map_congr_left fun f hf => fileOf_line (valid_clean h1 f hf)).trans (List.map_id fs)
theorem spec_long {s z : List UInt8} {ls : List (List UInt8)} (h : flat ls ++ z = s) (hl : ∀ l ∈ ls, (10 : UInt8) ∉ l) (hz : (10 : UInt8) ∉ z) (hn : 12 < ls.length) : parseR s = ([], false) :=
  parseR_bad fun fs h1 h2 => by have := (lines_of h hl hz h1 h2).2.2; have := valid_length h1; omega
theorem spec_bad {s z : List UInt8} {ls : List (List UInt8)} (h : flat ls ++ z = s) (hl : ∀ l ∈ ls, (10 : UInt8) ∉ l) (hz : (10 : UInt8) ∉ z) (hn : ¬ ((fmtS (ls.map fileOf)).data.toList = s ∧ validB (ls.map fileOf) = true)) : parseR s = ([], false) :=
  parseR_bad fun fs h1 h2 => by
    have := (lines_of h hl hz h1 h2).2.1
    rw [this] at hn
    exact hn ⟨by unfold fmtS; rw [if_pos h1]; simpa using h2, h1⟩
theorem spec_fine {s : List UInt8} {gs : List Fl} (h : (fmtS gs).data.toList = s) (hv : validB gs = true) : parseR s = (gs, true) :=
  parseR_fine hv (by unfold fmtS at h; rw [if_pos hv] at h; simpa using h)
end Go.Proofs.Ytecekkmagldpoaa

namespace Go.Proofs.Ytecekkmagldpoaa
set_option linter.unusedVariables false
open Go.RowKit

/-- the decimal digits of k ahead of acc -/
def mkD : Nat → Nat → List UInt8 → List UInt8
  | 0, _, acc => acc
  | fuel + 1, k, acc => if k = 0 then acc else mkD fuel (k / 10) (UInt8.ofNat (48 + k % 10) :: acc)
/-- the mark k -/
def mkS (k : Nat) : ByteArray := ⟨#[109]⟩ ++ ⟨(mkD k k []).toArray⟩

theorem conv_digit (k : Nat) (w : World) : (convert 22 9 (.slice (some ⟨w.heap.size, 0, none⟩) 1 1)).run Try.prog (w.alloc (.cells #[.int .u8 (48 + (k : Int) % 10)] 5)) = .ok (.string ⟨#[UInt8.ofNat (48 + k % 10)]⟩) (w.alloc (.cells #[.int .u8 (48 + (k : Int) % 10)] 5)) := by
  refine run_convert_bytes_back _ 22 9 5 ⟨w.heap.size, 0, none⟩ 1 [UInt8.ofNat (48 + k % 10)] Try.underlying22 Try.underlying5 Try.underlying9 (fun j hj => ?_)
  obtain rfl : j = 0 := by simpa using hj
  rw [add_none, cell_of_row _ _ _ _ _ _ (heap_alloc_new w _)]
  have h : (UInt8.ofNat (48 + k % 10)).toNat = 48 + k % 10 := by rw [UInt8.toNat_ofNat']; omega
  simp only [List.getElem_cons_zero, h]
  simp

end Go.Proofs.Ytecekkmagldpoaa

namespace Go.Proofs.Ytecekkmagldpoaa
set_option linter.unusedVariables false
open Go.RowKit

/-- block b is a row of n expressions -/
def RowE (w : World) (b n : Nat) : Prop := ∃ cs : Array Value, w.heap[b]? = some (.cells cs 25 (0, 0)) ∧ cs.size = n * 3
/-- the slices of operands, from a place of a row on: each begins a row of its own -/
def SkS (w : World) (L B : Nat) : Fo → Nat → Nat → Prop
  | .nil, _, _ => True
  | .node k s ks r, b, j => (∃ a n c, w.cell? ⟨b, j * 3 + 2, none⟩ = some (.slice a n c) ∧ ks.len = n ∧ (0 < n → ∃ b', a = some ⟨b', 0, none⟩ ∧ L ≤ b' ∧ b' < B ∧ RowE w b' n ∧ SkS w L B ks b' 0)) ∧ SkS w L B r b (j + 1)
def SkA (w : World) (L B : Nat) (f : Fo) (a : Option Addr) (n : Nat) : Prop := f.len = n ∧ (0 < n → ∃ b, a = some ⟨b, 0, none⟩ ∧ L ≤ b ∧ b < B ∧ RowE w b n ∧ SkS w L B f b 0)
/-- what marks may turn: kinds and texts of expressions in blocks from L to B -/
structure MkStep (L B : Nat) (w w' : World) : Prop where
  os : w'.os = w.os
  tape : w'.tape = w.tape
  output : w'.output = w.output
  size : w.heap.size ≤ w'.heap.size
  out : ∀ g : Nat, g < w.heap.size → g < L ∨ B ≤ g → w'.heap[g]? = w.heap[g]?
  row : ∀ (g : Nat) (cs : Array Value), w.heap[g]? = some (.cells cs 25 (0, 0)) → ∃ cs' : Array Value, w'.heap[g]? = some (.cells cs' 25 (0, 0)) ∧ cs'.size = cs.size ∧ ∀ i, i % 3 = 2 → cs'[i]? = cs[i]?
section
variable {w w' w'' : World} {L B b j n i : Nat} {f ks : Fo} {k : Int} {s : ByteArray} {a : Option Addr}
theorem MkStep.refl (L B : Nat) (w : World) : MkStep L B w w := ⟨rfl, rfl, rfl, Nat.le_refl _, fun _ _ _ => rfl, fun g cs h => ⟨cs, h, rfl, fun _ _ => rfl⟩⟩
theorem MkStep.trans (h : MkStep L B w w') (h2 : MkStep L B w' w'') : MkStep L B w w'' := ⟨h2.os.trans h.os, h2.tape.trans h.tape, h2.output.trans h.output, Nat.le_trans h.size h2.size,
  fun g hg ho => (h2.out g (Nat.lt_of_lt_of_le hg h.size) ho).trans (h.out g hg ho), fun g cs hg => by
    obtain ⟨c1, h3, h4, h5⟩ := h.row g cs hg
    obtain ⟨c2, h6, h7, h8⟩ := h2.row g c1 h3
    exact ⟨c2, h6, h7.trans h4, fun i hi => (h8 i hi).trans (h5 i hi)⟩⟩
theorem MkStep.of (h : Below w.heap.size w w') : MkStep L B w w' := ⟨h.os, h.tape, h.output, h.size, fun g hg _ => h.block g hg, fun g cs hg => ⟨cs, (h.block g (Array.getElem?_eq_some_iff.1 hg).1).trans hg, rfl, fun _ _ => rfl⟩⟩
theorem set_block (w : World) (g i : Nat) (v : Value) (h : g < w.heap.size) : (w.setCell ⟨g, i, none⟩ v).heap[g]? = match w.heap[g]? with
    | some (.cells c e fr) => some (.cells (c.setIfInBounds i v) e fr)
    | o => o := by
  simp only [World.setCell]
  rw [Array.getElem?_modify, if_pos rfl]
  cases hx : w.heap[g]? with
  | none => rfl
  | some o => cases o <;> rfl
theorem MkStep.set (hL : L ≤ b) (hB : b < B) (hi : i % 3 ≠ 2) (v : Value) : MkStep L B w (w.setCell ⟨b, i, none⟩ v) := by
  refine ⟨rfl, rfl, rfl, by simp, fun g hg ho => Below.heap_setCell w ⟨b, i, none⟩ v g (by show g ≠ b; omega), fun g cs hg => ?_⟩
  by_cases hgb : g = b
  · subst hgb
    refine ⟨cs.setIfInBounds i v, ?_, by simp, fun i' hi' => by rw [Array.getElem?_setIfInBounds_ne (by rintro rfl; exact hi hi')]⟩
    have := (Array.getElem?_eq_some_iff.1 hg).1
    rw [set_block w g i v this, hg]
  · exact ⟨cs, (Below.heap_setCell w ⟨b, i, none⟩ v g hgb).trans hg, rfl, fun _ _ => rfl⟩
theorem RowE.step (h : RowE w b n) (hs : MkStep L B w w') : RowE w' b n := by
  obtain ⟨cs, h1, h2⟩ := h
  obtain ⟨c2, h3, h4, _⟩ := hs.row b cs h1
  exact ⟨c2, h3, h4.trans h2⟩
theorem RowE.slice (h : RowE w b n) (hs : MkStep L B w w') {v : Value} (hc : w.cell? ⟨b, j * 3 + 2, none⟩ = some v) : w'.cell? ⟨b, j * 3 + 2, none⟩ = some v := by
  obtain ⟨cs, h1, h2⟩ := h
  obtain ⟨c2, h3, h4, h5⟩ := hs.row b cs h1
  rw [cell_of_row _ _ _ _ _ _ h3, h5 _ (by omega), ← cell_of_row _ _ _ _ _ _ h1]
  exact hc
theorem sk_step (hs : MkStep L B w w') : ∀ {f : Fo} {b j n : Nat}, RowE w b n → SkS w L B f b j → SkS w' L B f b j
  | .nil, _, _, _, _, _ => trivial
  | .node k s ks r, b, j, n, hr, ⟨⟨a, m, c, h1, h2, h3⟩, h4⟩ => ⟨⟨a, m, c, hr.slice hs h1, h2, fun hm => let ⟨b', e, hl, hb, hr', hk⟩ := h3 hm; ⟨b', e, hl, hb, hr'.step hs, sk_step hs hr' hk⟩⟩, sk_step hs hr h4⟩
theorem SkA.step (h : SkA w L B f a n) (hs : MkStep L B w w') : SkA w' L B f a n := ⟨h.1, fun hn => let ⟨b, e, hl, hb, hr, hk⟩ := h.2 hn; ⟨b, e, hl, hb, hr.step hs, sk_step hs hr hk⟩⟩
theorem sk_get : ∀ {f : Fo} {b j i : Nat}, SkS w L B f b j → i < f.len → ∃ k s ks a n c, f.get i = some (k, s, ks) ∧ w.cell? ⟨b, (j + i) * 3 + 2, none⟩ = some (.slice a n c) ∧ SkA w L B ks a n
  | .node k s ks r, b, j, 0, ⟨⟨a, m, c, h1, h2, h3⟩, _⟩, _ => ⟨k, s, ks, a, m, c, rfl, h1, h2, h3⟩
  | .node k s ks r, b, j, i + 1, ⟨_, h4⟩, hi => by
    obtain ⟨k', s', ks', a, n, c, h1, h2, h3⟩ := sk_get (f := r) (i := i) h4 (by simp only [Fo.len] at hi; omega)
    exact ⟨k', s', ks', a, n, c, h1, by rw [show j + (i + 1) = j + 1 + i from by omega]; exact h2, h3⟩
  | .nil, _, _, _, _, h => absurd h (by simp [Fo.len])
theorem RowE.cells (h : RowE w b n) (hi : i < n * 3) : ∃ v, w.cell? ⟨b, i, none⟩ = some v := by
  obtain ⟨cs, h1, h2⟩ := h
  rw [cell_of_row _ _ _ _ _ _ h1]
  exact ⟨_, Array.getElem?_eq_getElem (by omega)⟩
theorem RowE.frozen (h : RowE w b n) (i : Nat) : w.frozen? ⟨b, i, none⟩ = false := by
  obtain ⟨cs, h1, h2⟩ := h
  exact blk_frozen h1 i
end
end Go.Proofs.Ytecekkmagldpoaa

namespace Go.Proofs.Ytecekkmagldpoaa
set_option linter.unusedVariables false
set_option linter.unusedSimpArgs false
open Go.RowKit

/-- the blocks of the rows below (a node's kind is the block of its operands' row) -/
def Fo.blks : Fo → List Nat
  | .nil => []
  | .node k _ ks r => (if ks.len = 0 then [] else k.toNat :: ks.blks) ++ r.blks
/-- the blocks of a list whose row is block g -/
def blksA (g : Nat) (bk : Fo) : List Nat := if bk.len = 0 then [] else g :: bk.blks
/-- block b is a row with room for n expressions -/
def RowC (w : World) (b n : Nat) : Prop := ∃ cs : Array Value, w.heap[b]? = some (.cells cs 25 (0, 0)) ∧ n * 3 ≤ cs.size
/-- the slices of operands, each with a row of its own -/
def Sep (w : World) : Fo → Nat → Nat → Prop
  | .nil, _, _ => True
  | .node k _ ks r, b, j => (∃ a c, w.cell? ⟨b, j * 3 + 2, none⟩ = some (.slice a ks.len c) ∧ (0 < ks.len → a = some ⟨k.toNat, 0, none⟩ ∧ RowC w k.toNat ks.len ∧ Sep w ks k.toNat 0)) ∧ Sep w r b (j + 1)
def SepA (w : World) (bk : Fo) (g : Nat) (a : Option Addr) (n : Nat) : Prop := bk.len = n ∧ (0 < n → a = some ⟨g, 0, none⟩ ∧ RowC w g n ∧ Sep w bk g 0)
def SepN (w : World) (b i g : Nat) (ks : Fo) : Prop := ∃ a c, w.cell? ⟨b, i * 3 + 2, none⟩ = some (.slice a ks.len c) ∧ SepA w ks g a ks.len
/-- the same rows, marked -/
def Mkd (w : World) : Fo → Nat → Nat → Nat → Prop
  | .nil, _, _, _ => True
  | .node k _ ks r, b, j, m => (w.cell? ⟨b, j * 3, none⟩ = some (.int .i64 m) ∧ w.cell? ⟨b, j * 3 + 1, none⟩ = some (.string (mkS (m + 1))) ∧
      ∃ a c, w.cell? ⟨b, j * 3 + 2, none⟩ = some (.slice a ks.len c) ∧ (0 < ks.len → a = some ⟨k.toNat, 0, none⟩ ∧ RowC w k.toNat ks.len ∧ Mkd w ks k.toNat 0 (m + 2))) ∧ Mkd w r b (j + 1) (m + 2 + 2 * ks.size)
def MkdA (w : World) (bk : Fo) (g : Nat) (a : Option Addr) (n m : Nat) : Prop := bk.len = n ∧ (0 < n → a = some ⟨g, 0, none⟩ ∧ RowC w g n ∧ Mkd w bk g 0 m)
def MkdN (w : World) (b i m g : Nat) (ks : Fo) : Prop := w.cell? ⟨b, i * 3, none⟩ = some (.int .i64 m) ∧ w.cell? ⟨b, i * 3 + 1, none⟩ = some (.string (mkS (m + 1))) ∧ ∃ a c, w.cell? ⟨b, i * 3 + 2, none⟩ = some (.slice a ks.len c) ∧ MkdA w ks g a ks.len (m + 2)
section
variable {w w' w'' : World} {b j i g n m : Nat} {bk ks : Fo} {k : Int} {s : ByteArray} {a : Option Addr}
theorem RowC.lt (h : RowC w b n) : b < w.heap.size := by
  obtain ⟨cs, h1, _⟩ := h
  exact blk_lt h1
theorem RowC.keep (h : RowC w b n) (hb : w'.heap[b]? = w.heap[b]?) : RowC w' b n := by
  obtain ⟨cs, h1, h2⟩ := h
  exact ⟨cs, hb.trans h1, h2⟩
theorem RowC.cells (h : RowC w b n) (hi : i < n * 3) : ∃ v, w.cell? ⟨b, i, none⟩ = some v := by
  obtain ⟨cs, h1, h2⟩ := h
  rw [cell_of_row _ _ _ _ _ _ h1]
  exact ⟨_, Array.getElem?_eq_getElem (by omega)⟩
theorem RowC.frozen (h : RowC w b n) (i : Nat) : w.frozen? ⟨b, i, none⟩ = false := by
  obtain ⟨cs, h1, h2⟩ := h
  exact blk_frozen h1 i
theorem RowC.set (h : RowC w b n) (g i : Nat) (v : Value) : RowC (w.setCell ⟨g, i, none⟩ v) b n := by
  obtain ⟨cs, h1, h2⟩ := h
  by_cases e : b = g
  · subst e
    exact ⟨_, blk_set h1 i v, by simpa using h2⟩
  · exact ⟨cs, (Below.heap_setCell w ⟨g, i, none⟩ v b e).trans h1, h2⟩
theorem cell_same (hb : w'.heap[b]? = w.heap[b]?) : w'.cell? ⟨b, i, none⟩ = w.cell? ⟨b, i, none⟩ := World.cell?_of_block hb
theorem blks_mem (h : bk.get i = some (k, s, ks)) : ∀ x, x ∈ blksA k.toNat ks → x ∈ bk.blks := by
  induction bk generalizing i with
  | nil => simp [Fo.get] at h
  | node k' s' ks' r _ ih =>
    intro x hx
    cases i with
    | zero =>
      simp only [Fo.get, Option.some.injEq, Prod.mk.injEq] at h
      obtain ⟨rfl, rfl, rfl⟩ := h
      exact List.mem_append_left _ hx
    | succ i => exact List.mem_append_right _ (ih h x hx)
theorem blks_nodup (hn : bk.blks.Nodup) (h : bk.get i = some (k, s, ks)) : (blksA k.toNat ks).Nodup := by
  induction bk generalizing i with
  | nil => simp [Fo.get] at h
  | node k' s' ks' r _ ih =>
    have hn' := List.nodup_append.1 hn
    cases i with
    | zero =>
      simp only [Fo.get, Option.some.injEq, Prod.mk.injEq] at h
      obtain ⟨rfl, rfl, rfl⟩ := h
      exact hn'.1
    | succ i => exact ih hn'.2.1 h
theorem blks_apart {i' : Nat} {k' : Int} {s' : ByteArray} {ks' : Fo} (hn : bk.blks.Nodup) (h : bk.get i = some (k, s, ks)) (h' : bk.get i' = some (k', s', ks')) (hi : i ≠ i') : ∀ x, x ∈ blksA k.toNat ks → x ∉ blksA k'.toNat ks' := by
  induction bk generalizing i i' with
  | nil => simp [Fo.get] at h
  | node k0 s0 ks0 r _ ih =>
    have hn' := List.nodup_append.1 hn
    intro x hx hx'
    cases i with
    | zero =>
      cases i' with
      | zero => exact hi rfl
      | succ i' =>
        simp only [Fo.get, Option.some.injEq, Prod.mk.injEq] at h
        obtain ⟨rfl, rfl, rfl⟩ := h
        exact hn'.2.2 x hx x (blks_mem (bk := r) h' x hx') rfl
    | succ i =>
      cases i' with
      | zero =>
        simp only [Fo.get, Option.some.injEq, Prod.mk.injEq] at h'
        obtain ⟨rfl, rfl, rfl⟩ := h'
        exact hn'.2.2 x hx' x (blks_mem (bk := r) h x hx) rfl
      | succ i' => exact ih hn'.2.1 h h' (by omega) x hx hx'
theorem sep_keep : ∀ {bk : Fo} {b j : Nat}, b < w.heap.size → (∀ x, x ∈ b :: bk.blks → x < w.heap.size → w'.heap[x]? = w.heap[x]?) → Sep w bk b j → Sep w' bk b j
  | .nil, _, _, _, _, _ => trivial
  | .node k s ks r, b, j, hb, hk, ⟨⟨a, c, h1, h2⟩, h3⟩ => by
    refine ⟨⟨a, c, (cell_same (hk b (List.mem_cons_self ..) hb)).trans h1, fun hn => ?_⟩, sep_keep hb (fun x hx => hk x ?_) h3⟩
    · obtain ⟨h4, h5, h6⟩ := h2 hn
      have hin : ∀ x, x ∈ k.toNat :: ks.blks → x ∈ b :: (Fo.node k s ks r).blks := fun x hx => List.mem_cons_of_mem _ (List.mem_append_left _ (by rw [if_neg (by omega)]; exact hx))
      exact ⟨h4, h5.keep (hk _ (hin _ (List.mem_cons_self ..)) h5.lt), sep_keep h5.lt (fun x hx => hk x (hin x hx)) h6⟩
    · rcases List.mem_cons.1 hx with rfl | hx
      · exact List.mem_cons_self ..
      · exact List.mem_cons_of_mem _ (List.mem_append_right _ hx)
theorem SepA.keep (h : SepA w bk g a n) (hk : ∀ x, x ∈ blksA g bk → x < w.heap.size → w'.heap[x]? = w.heap[x]?) : SepA w' bk g a n := by
  refine ⟨h.1, fun hn => ?_⟩
  obtain ⟨h4, h5, h6⟩ := h.2 hn
  have e : blksA g bk = g :: bk.blks := by unfold blksA; rw [if_neg (by have := h.1; omega)]
  rw [e] at hk
  exact ⟨h4, h5.keep (hk _ (List.mem_cons_self ..) h5.lt), sep_keep h5.lt hk h6⟩
theorem mkd_keep : ∀ {bk : Fo} {b j m : Nat}, b < w.heap.size → (∀ x, x ∈ b :: bk.blks → x < w.heap.size → w'.heap[x]? = w.heap[x]?) → Mkd w bk b j m → Mkd w' bk b j m
  | .nil, _, _, _, _, _, _ => trivial
  | .node k s ks r, b, j, m, hb, hk, ⟨⟨h00, h01, a, c, h1, h2⟩, h3⟩ => by
    have hbb := hk b (List.mem_cons_self ..) hb
    refine ⟨⟨(cell_same hbb).trans h00, (cell_same hbb).trans h01, a, c, (cell_same hbb).trans h1, fun hn => ?_⟩, mkd_keep hb (fun x hx => hk x ?_) h3⟩
    · obtain ⟨h4, h5, h6⟩ := h2 hn
      have hin : ∀ x, x ∈ k.toNat :: ks.blks → x ∈ b :: (Fo.node k s ks r).blks := fun x hx => List.mem_cons_of_mem _ (List.mem_append_left _ (by rw [if_neg (by omega)]; exact hx))
      exact ⟨h4, h5.keep (hk _ (hin _ (List.mem_cons_self ..)) h5.lt), mkd_keep h5.lt (fun x hx => hk x (hin x hx)) h6⟩
    · rcases List.mem_cons.1 hx with rfl | hx
      · exact List.mem_cons_self ..
      · exact List.mem_cons_of_mem _ (List.mem_append_right _ hx)
theorem MkdA.keep (h : MkdA w bk g a n m) (hk : ∀ x, x ∈ blksA g bk → x < w.heap.size → w'.heap[x]? = w.heap[x]?) : MkdA w' bk g a n m := by
  refine ⟨h.1, fun hn => ?_⟩
  obtain ⟨h4, h5, h6⟩ := h.2 hn
  have e : blksA g bk = g :: bk.blks := by unfold blksA; rw [if_neg (by have := h.1; omega)]
  rw [e] at hk
  exact ⟨h4, h5.keep (hk _ (List.mem_cons_self ..) h5.lt), mkd_keep h5.lt hk h6⟩
theorem sep_get : ∀ {bk : Fo} {b j i : Nat} {k : Int} {s : ByteArray} {ks : Fo}, Sep w bk b j → bk.get i = some (k, s, ks) → SepN w b (j + i) k.toNat ks
  | .nil, _, _, _, _, _, _, _, h => by simp [Fo.get] at h
  | .node k s ks r, b, j, 0, _, _, _, ⟨⟨a, c, h1, h2⟩, _⟩, h => by
    simp only [Fo.get, Option.some.injEq, Prod.mk.injEq] at h
    obtain ⟨rfl, rfl, rfl⟩ := h
    exact ⟨a, c, h1, rfl, h2⟩
  | .node k s ks r, b, j, i + 1, _, _, _, ⟨_, h3⟩, h => by
    have := sep_get (bk := r) (i := i) h3 h
    rwa [show j + (i + 1) = j + 1 + i from by omega]
theorem mkd_get : ∀ {bk : Fo} {b j i m : Nat} {k : Int} {s : ByteArray} {ks : Fo}, Mkd w bk b j m → bk.get i = some (k, s, ks) → MkdN w b (j + i) (m + 2 * bk.size - 2 * (bk.drop i).size) k.toNat ks
  | .nil, _, _, _, _, _, _, _, _, h => by simp [Fo.get] at h
  | .node k s ks r, b, j, 0, m, _, _, _, ⟨⟨h00, h01, a, c, h1, h2⟩, _⟩, h => by
    simp only [Fo.get, Option.some.injEq, Prod.mk.injEq] at h
    obtain ⟨rfl, rfl, rfl⟩ := h
    rw [Fo.drop_zero, Nat.add_sub_cancel]
    exact ⟨h00, h01, a, c, h1, rfl, h2⟩
  | .node k s ks r, b, j, i + 1, m, _, _, _, ⟨_, h3⟩, h => by
    have h4 := mkd_get (bk := r) (i := i) h3 h
    have hd : (Fo.node k s ks r).drop (i + 1) = r.drop i := rfl
    rw [hd, show j + (i + 1) = j + 1 + i from by omega, show m + 2 * (Fo.node k s ks r).size - 2 * (r.drop i).size = m + 2 + 2 * ks.size + 2 * r.size - 2 * (r.drop i).size from by simp only [Fo.size]; omega]
    exact h4
theorem drop_size_le : ∀ (bk : Fo) (i : Nat), (bk.drop i).size ≤ bk.size
  | .nil, 0 => Nat.le_refl _
  | .nil, _ + 1 => Nat.le_refl _
  | .node _ _ _ _, 0 => Nat.le_refl _
  | .node k s ks r, i + 1 => by have := drop_size_le r i; simp only [Fo.drop, Fo.size]; omega
theorem mkd_of : ∀ {bk : Fo} {b j m : Nat}, (∀ i k s ks, bk.get i = some (k, s, ks) → MkdN w b (j + i) (m + 2 * bk.size - 2 * (bk.drop i).size) k.toNat ks) → Mkd w bk b j m
  | .nil, _, _, _, _ => trivial
  | .node k s ks r, b, j, m, h => by
    have h0 := h 0 k s ks rfl
    rw [Fo.drop_zero, Nat.add_sub_cancel, Nat.add_zero] at h0
    obtain ⟨h00, h01, a, c, h1, h2⟩ := h0
    refine ⟨⟨h00, h01, a, c, h1, h2.2⟩, mkd_of fun i k' s' ks' hg => ?_⟩
    have h4 := h (i + 1) k' s' ks' hg
    have hd : (Fo.node k s ks r).drop (i + 1) = r.drop i := rfl
    rw [hd, show j + (i + 1) = j + 1 + i from by omega, show m + 2 * (Fo.node k s ks r).size - 2 * (r.drop i).size = m + 2 + 2 * ks.size + 2 * r.size - 2 * (r.drop i).size from by simp only [Fo.size]; omega] at h4
    exact h4
/-- only these blocks may have been written to -/
structure TchL (bs : List Nat) (w w' : World) : Prop where
  os : w'.os = w.os
  tape : w'.tape = w.tape
  output : w'.output = w.output
  size : w.heap.size ≤ w'.heap.size
  out : ∀ g : Nat, g < w.heap.size → g ∉ bs → w'.heap[g]? = w.heap[g]?
theorem TchL.refl (bs : List Nat) (w : World) : TchL bs w w := ⟨rfl, rfl, rfl, Nat.le_refl _, fun _ _ _ => rfl⟩
theorem TchL.trans {bs : List Nat} (h : TchL bs w w') (h2 : TchL bs w' w'') : TchL bs w w'' := ⟨h2.os.trans h.os, h2.tape.trans h.tape, h2.output.trans h.output, Nat.le_trans h.size h2.size, fun g hg ho => (h2.out g (Nat.lt_of_lt_of_le hg h.size) ho).trans (h.out g hg ho)⟩
theorem TchL.of {bs : List Nat} (h : Below w.heap.size w w') : TchL bs w w' := ⟨h.os, h.tape, h.output, h.size, fun g hg _ => h.block g hg⟩
theorem TchL.set {bs : List Nat} (hL : g ∈ bs) (v : Value) : TchL bs w (w.setCell ⟨g, i, none⟩ v) := ⟨rfl, rfl, rfl, by simp, fun g' hg ho => Below.heap_setCell w ⟨g, i, none⟩ v g' (by show g' ≠ g; rintro rfl; exact ho hL)⟩
theorem TchL.more {bs bs' : List Nat} (h : TchL bs w w') (hL : ∀ x, x ∈ bs → x ∈ bs') : TchL bs' w w' := ⟨h.os, h.tape, h.output, h.size, fun g hg ho => h.out g hg fun hx => ho (hL g hx)⟩
end
end Go.Proofs.Ytecekkmagldpoaa

namespace Go.Proofs.Ytecekkmagldpoaa
set_option linter.unusedVariables false
set_option linter.unusedSimpArgs false
open Go.RowKit

/-- trees in rows that share no block lie in plain blocks -/
theorem RowC.pln {w : World} {b n : Nat} (h : RowC w b n) : Pln w b := let ⟨cs, h1, _⟩ := h; ⟨cs, _, h1⟩
theorem plS_sep {w : World} {L B : Nat} : ∀ {f bk : Fo} {b j : Nat}, f.len = bk.len → Seg w L B f b (j * 3) → Sep w bk b j → PlS w L B f b (j * 3)
  | .nil, _, _, _, _, _, _ => trivial
  | .node _ _ _ _, .nil, _, _, hl, _, _ => absurd hl (by simp [Fo.len])
  | .node k s ks r, .node k' s' ks' r', b, j, hl, ⟨h1, h2, ⟨a, n, c, h3, h4, h5, h6⟩, h7⟩, ⟨⟨a', c', h8, h9⟩, h11⟩ => by
    rw [h3] at h8
    cases h8
    refine ⟨⟨a, _, c, h3, h4, fun hn => ?_⟩, ?_⟩
    · obtain ⟨b1, o1, e1, q1, q2, hs⟩ := h6 hn
      obtain ⟨e2, hr, hk⟩ := h9 hn
      rw [e1] at e2
      cases e2
      exact ⟨_, 0, e1, q1, q2, hr.pln, by have := plS_sep (f := ks) (bk := ks') (j := 0) h4 (by simpa using hs) hk; simpa using this⟩
    · have := plS_sep (f := r) (bk := r') (j := j + 1) (by simp only [Fo.len] at hl; omega) (by rw [show (j + 1) * 3 = j * 3 + 3 from by omega]; exact h7) h11
      rwa [show (j + 1) * 3 = j * 3 + 3 from by omega] at this
theorem KA.pl {w : World} {L B g n : Nat} {f bk : Fo} {a : Option Addr} (h : KA w L B f a n) (hs : SepA w bk g a n) : KP w L B f a n := by
  refine ⟨h, h.1, fun hn => ?_⟩
  obtain ⟨b1, o1, e1, q1, q2, h1⟩ := h.2 hn
  obtain ⟨e2, hr, hk⟩ := hs.2 hn
  rw [e1] at e2
  cases e2
  exact ⟨_, 0, e1, q1, q2, hr.pln, by have := plS_sep (f := f) (bk := bk) (j := 0) (by rw [h.1, hs.1]) (by simpa using h1) hk; simpa using this⟩
/-- the cells of a row of nodes whose operands have rows of their own -/
def RowB (w : World) : Fo → List Value → Prop
  | .nil, xs => xs = []
  | .node k _ ks r, xs => ∃ x y a c ys, xs = x :: y :: .slice a ks.len c :: ys ∧ SepA w ks k.toNat a ks.len ∧ RowB w r ys
section
variable {w w' : World} {b g : Nat} {bk ks : Fo} {a : Option Addr}
theorem rowB_keep : ∀ {bk : Fo} {xs : List Value}, (∀ x, x ∈ bk.blks → x < w.heap.size → w'.heap[x]? = w.heap[x]?) → RowB w bk xs → RowB w' bk xs
  | .nil, _, _, h => h
  | .node k s ks r, _, hk, ⟨x, y, a, c, ys, e, h1, h2⟩ => ⟨x, y, a, c, ys, e, h1.keep fun x hx => hk x (List.mem_append_left _ hx), rowB_keep (fun x hx => hk x (List.mem_append_right _ hx)) h2⟩
theorem rowB_snoc {x y : Value} {c : Nat} (h1 : SepA w ks g a ks.len) : ∀ {bk : Fo} {xs : List Value}, RowB w bk xs → RowB w (bk.snoc (g : Int) .empty ks) (xs ++ [x, y, .slice a ks.len c])
  | .nil, _, h => by simp only [RowB] at h; subst h; exact ⟨x, y, a, c, [], rfl, by simpa using h1, rfl⟩
  | .node k s ks' r, _, ⟨x', y', a', c', ys, e, h2, h3⟩ => by subst e; exact ⟨x', y', a', c', _, rfl, h2, rowB_snoc h1 h3⟩
theorem rowB_sep : ∀ {bk : Fo} {xs : List Value} {j0 : Nat}, RowB w bk xs → (∀ j u, xs[j]? = some u → w.cell? ⟨b, j0 * 3 + j, none⟩ = some u) → Sep w bk b j0
  | .nil, _, _, _, _ => trivial
  | .node k s ks r, _, j0, ⟨x, y, a, c, ys, e, h1, h2⟩, hcell => by
    subst e
    refine ⟨⟨a, c, hcell 2 _ rfl, h1.2⟩, rowB_sep h2 fun j u hu => ?_⟩
    have := hcell (j + 3) u (by simpa using hu)
    rwa [show (j0 + 1) * 3 + j = j0 * 3 + (j + 3) from by omega]
theorem blks_snoc (g : Nat) (s : ByteArray) (ks : Fo) : ∀ bk : Fo, (bk.snoc (g : Int) s ks).blks = bk.blks ++ blksA g ks
  | .nil => by simp [Fo.snoc, Fo.blks, blksA]
  | .node k' s' ks' r => by simp only [Fo.snoc, Fo.blks, blks_snoc g s ks r, List.append_assoc]
end
/-- a list of expressions of one's own whose rows share no block -/
def OwnB (w : World) (base : Nat) (v : Value) (f bk : Fo) : Prop := ∃ xs, w.ownsRow base 25 3 v f.len xs ∧ RowT w base w.heap.size v.ownBlock f xs ∧ RowB w bk xs ∧ bk.len = f.len ∧ bk.size = f.size ∧ bk.blks.Nodup ∧ ∀ x ∈ bk.blks, base ≤ x ∧ x < w.heap.size ∧ v.ownBlock ≠ some x
section
variable {w w' : World} {base base' : Nat} {v v' : Value} {f bk : Fo} {r : Option Nat}
theorem OwnB.own (h : OwnB w base v f bk) : OwnT w base v f := by
  obtain ⟨xs, h1, h2, _⟩ := h
  exact ⟨xs, h1, h2⟩
theorem OwnB.nil (w : World) (base : Nat) : OwnB w base (.slice none 0 0) .nil .nil := ⟨[], World.ownsRow_nil _ _ _ _, rfl, rfl, rfl, rfl, List.nodup_nil, fun _ h => by simp [Fo.blks] at h⟩
theorem OwnB.grown (h : OwnB w base v f bk) (hg : w.grownBy w' r) (hr : ∀ g, r = some g → g < base ∨ w.heap.size ≤ g) : OwnB w' base v f bk := by
  obtain ⟨xs, h1, h2, h3, h4, h5, h6, h7⟩ := h
  refine ⟨xs, World.ownsRow.kept h1 hg ?_, rowT_keep (Nat.le_refl _) hg.size (fun g hg => .inl hg) (fun p h3 h4 _ => hg.block p h4 (fun e => by have := hr _ e.symm; omega)) h2,
    rowB_keep (fun x hx hxs => hg.block x hxs (fun e => by have := hr _ e.symm; have := h7 x hx; omega)) h3, h4, h5, h6, fun x hx => ⟨(h7 x hx).1, Nat.lt_of_lt_of_le (h7 x hx).2.1 hg.size, (h7 x hx).2.2⟩⟩
  cases hv : v.ownBlock with
  | none => exact .inl rfl
  | some g => exact .inr fun e => by have := World.ownsRow.lt h1 g hv; have := hr g e.symm; omega
theorem OwnB.alloc (h : OwnB w base v f bk) (o : Obj) : OwnB (w.alloc o) base v f bk := h.grown (World.grownBy_alloc w o none) fun g e => by cases e
theorem OwnB.below (h : OwnB w base v f bk) (hb : Below w.heap.size w w') : OwnB w' base v f bk := h.grown (r := none) ⟨hb.os, hb.tape, hb.output, hb.size, fun i hi _ => hb.block i hi⟩ fun g e => by cases e
theorem OwnB.setCell (h : OwnB w base v f bk) {g : Nat} (hg : g < base) (i : Nat) (u : Value) : OwnB (w.setCell ⟨g, i, none⟩ u) base v f bk :=
  h.grown (r := some g) (grown_set (World.grownBy.refl w _) (.inl rfl) u) fun j e => by injection e with e; omega
theorem OwnB.mono (h : OwnB w base v f bk) (hb : base' ≤ base) : OwnB w base' v f bk := by
  obtain ⟨xs, h1, h2, h3, h4, h5, h6, h7⟩ := h
  exact ⟨xs, World.ownsRow.mono h1 hb, rowT_keep hb (Nat.le_refl _) (fun g hg => .inl hg) (fun _ _ _ _ => rfl) h2, h3, h4, h5, h6, fun x hx => ⟨Nat.le_trans hb (h7 x hx).1, (h7 x hx).2⟩⟩
theorem OwnB.bound (h : OwnB w base v f bk) : ∀ x ∈ bk.blks, x < w.heap.size := by
  obtain ⟨xs, h1, h2, h3, h4, h5, h6, h7⟩ := h
  exact fun x hx => (h7 x hx).2.1
/-- what a copied list is told of -/
def CopX (w : World) (base : Nat) (f : Fo) (a : Option Addr) (c : Nat) (bk : Fo) (g : Nat) : Prop := f.len ≤ c ∧ c ≤ maxLen ∧ KA w base w.heap.size f a f.len ∧ SepA w bk g a f.len ∧ (blksA g bk).Nodup ∧ (∀ x ∈ blksA g bk, base ≤ x ∧ x < w.heap.size) ∧ bk.size = f.size
theorem CopX.setCell {w : World} {base c g g' : Nat} {f bk : Fo} {a : Option Addr} (h : CopX w base f a c bk g) (hg : g' < base) (i : Nat) (u : Value) : CopX (w.setCell ⟨g', i, none⟩ u) base f a c bk g := by
  obtain ⟨h1, h2, h3, h4, h5, h6, h7⟩ := h
  have hsz : (w.setCell ⟨g', i, none⟩ u).heap.size = w.heap.size := by simp [World.setCell]
  refine ⟨h1, h2, (h3.setCell (.inl hg) i u).more (Nat.le_refl _) (by omega), h4.keep fun x hx _ => Below.heap_setCell w _ _ x (by have := h6 x hx; show x ≠ g'; omega), h5, fun x hx => ⟨(h6 x hx).1, by rw [hsz]; exact (h6 x hx).2⟩, h7⟩
theorem CopX.mono {w : World} {base base' c g : Nat} {f bk : Fo} {a : Option Addr} (h : CopX w base f a c bk g) (hb : base' ≤ base) : CopX w base' f a c bk g := by
  obtain ⟨h1, h2, h3, h4, h5, h6, h7⟩ := h
  exact ⟨h1, h2, h3.more hb (Nat.le_refl _), h4, h5, fun x hx => ⟨Nat.le_trans hb (h6 x hx).1, (h6 x hx).2⟩, h7⟩
theorem OwnB.form (h : OwnB w base v f bk) : ∃ a c g, v = .slice a f.len c ∧ CopX w base f a c bk g := by
  obtain ⟨a, c, rfl, h8, h9, h10, _⟩ := h.own.form
  obtain ⟨xs, h1, h2, h3, h4, h5, h6, h7⟩ := h
  rcases h1.2 with ⟨e, h0⟩ | ⟨g, cap, cur, e, hb, hg, hc, hm, hcs, _⟩
  · refine ⟨a, c, 0, rfl, h8, h9, h10, ⟨h4, fun hn => absurd hn (by omega)⟩, ?_, ?_, h5⟩
    · unfold blksA; rw [if_pos (by omega)]; exact List.nodup_nil
    · unfold blksA; rw [if_pos (by omega)]; intro x hx; simp at hx
  · simp only [Value.slice.injEq] at e
    obtain ⟨rfl, -, rfl⟩ := e
    refine ⟨_, c, g, rfl, h8, h9, h10, ⟨h4, fun hn => ⟨rfl, ⟨cur, hg, by rw [hcs]; exact Nat.mul_le_mul_right _ hc⟩, rowB_sep h3 fun j u hu => ?_⟩⟩, ?_, ?_, h5⟩
    · have := World.ownsRow.cells h1 (g := g) rfl j u hu
      rw [add_none] at this
      rwa [show 0 * 3 + j = 0 + j from by omega]
    · unfold blksA
      by_cases h0 : bk.len = 0
      · rw [if_pos h0]; exact List.nodup_nil
      · rw [if_neg h0]; exact List.nodup_cons.2 ⟨fun hx => (h7 g hx).2.2 rfl, h6⟩
    · intro x hx
      unfold blksA at hx
      by_cases h0 : bk.len = 0
      · rw [if_pos h0] at hx; simp at hx
      · rw [if_neg h0] at hx
        rcases List.mem_cons.1 hx with rfl | hx
        · exact ⟨hb, blk_lt hg⟩
        · exact ⟨(h7 x hx).1, (h7 x hx).2.1⟩
end
/-- one more node -/
theorem wp_append_bk {w : World} {o : Oper} {a : Act} {K : Act → World → Prop} {Q : Exit → Act → World → Prop} (s x : Operand)
    (ho : o.op = .call { callee := .builtin .append, args := #[s, x], argTypes := #[23, 23] })
    (base : Nat) (v : Value) (f bk : Fo) (hs : a.eval s = v) (hown : OwnB w base v f bk) (g c1 : Nat) (hx : a.eval x = .slice (some ⟨g, 0, none⟩) 1 c1)
    (k : Int) (t : ByteArray) (ks : Fo) (ad : Option Addr) (c L1 : Nat) (bk1 : Fo) (g1 : Nat) {T : TypeId} (hbx : w.heap[g]? = some (.cells #[.int .i64 k, .string t, .slice ad ks.len c] T (0, 0))) (hc : ks.len ≤ c) (hk : KA w L1 w.heap.size ks ad ks.len) (hL : base ≤ L1) (hown1 : ∀ g, v.ownBlock = some g → g < L1) (hown2 : ∀ x ∈ bk.blks, x < L1)
    (hsep : SepA w bk1 g1 ad ks.len) (hnd : (blksA g1 bk1).Nodup) (hin : ∀ x ∈ blksA g1 bk1, L1 ≤ x ∧ x < w.heap.size) (hz : bk1.size = ks.size)
    (h63 : f.len ≤ 1000000000) (hbase : base ≤ w.heap.size)
    (h : ∀ g cap w', OwnB w' base (.slice (some ⟨g, 0, none⟩) (f.len + 1) cap) (f.snoc k t ks) (bk.snoc (g1 : Int) .empty bk1) → w.grownBy w' v.ownBlock → g < w'.heap.size → base ≤ g → K (a.put o.dst (.slice (some ⟨g, 0, none⟩) (f.len + 1) cap)) w') :
    Oper.wp Try.prog o a w K Q := by
  obtain ⟨i, hi, hz0, hz1, hz2⟩ := info_parts expr_info3
  obtain ⟨xs, h1, h2, h3, h4, h5, h6, h7⟩ := hown
  refine wp_append_at s x 23 ho base 25 i _ 3 48 exprs_under hi hz0 hz1 hz2 rfl (by decide) v f.len xs hs h1 ⟨g, 0, none⟩ 1 c1 [.int .i64 k, .string t, .slice ad ks.len c] hx rfl ?_ (by simp [Value.oneCell']) (by simp only [maxLen]; omega) (by omega) hbase fun v' w' h8 h9 h10 => ?_
  · intro j u hu
    rw [add_none, cell_of_row _ _ _ _ _ _ hbx]
    simpa using hu
  · have h11 : RowT w' base w'.heap.size v'.ownBlock (f.snoc k t ks) (xs ++ [.int .i64 k, .string t, .slice ad ks.len c]) := by
      refine rowT_keep (Nat.le_refl _) h9.size (fun g e => ?_) (fun p h4 h5 h6 => h9.block p h5 (fun e => h6 e.symm)) (rowT_snoc (k := k) (s := t) hc (hk.pl hsep) hL (Nat.le_refl _) (fun g hg => .inl (hown1 g hg)) h2)
      rcases h10 with ho | ho
      · exact .inl (ho ▸ e)
      · exact .inr (.inr (ho g e))
    have h12 : RowB w' (bk.snoc (g1 : Int) .empty bk1) (xs ++ [.int .i64 k, .string t, .slice ad ks.len c]) := by
      have h13 := rowB_snoc (x := .int .i64 k) (y := .string t) (c := c) (g := g1) (a := ad) (ks := bk1) (by rw [hsep.1]; exact hsep) h3
      rw [hsep.1] at h13
      refine rowB_keep (fun x hx hxs => h9.block x hxs (fun e => ?_)) h13
      rw [blks_snoc] at hx
      rcases List.mem_append.1 hx with hx | hx
      · exact (h7 x hx).2.2 e.symm
      · have := hin x hx; have := hown1 x e.symm; omega
    have h14 : w'.ownsRow base 25 3 v' (f.snoc k t ks).len (xs ++ [.int .i64 k, .string t, .slice ad ks.len c]) := by rw [Fo.snoc_len]; exact h8
    obtain ⟨g', cap', rfl, h15, h16⟩ := World.ownsRow.form h8 (by omega)
    refine h g' cap' w' ⟨_, h14, h11, h12, by rw [Fo.snoc_len, Fo.snoc_len, h4], by rw [Fo.snoc_size, Fo.snoc_size, h5, hz], ?_, fun x hx => ?_⟩ h9 h16 h15
    · rw [blks_snoc]
      exact List.nodup_append.2 ⟨h6, hnd, fun x hx y hy e => by have := hown2 x hx; have := hin y hy; omega⟩
    · rw [blks_snoc] at hx
      have hxs : base ≤ x ∧ x < w.heap.size ∧ v.ownBlock ≠ some x := by
        rcases List.mem_append.1 hx with hx | hx
        · exact h7 x hx
        · have h17 := hin x hx
          exact ⟨by omega, h17.2, fun e => by have := hown1 x e; omega⟩
      refine ⟨hxs.1, Nat.lt_of_lt_of_le hxs.2.1 h9.size, fun e => ?_⟩
      rcases h10 with ho | ho
      · exact hxs.2.2 (ho ▸ e)
      · have := ho x e; omega

theorem wpList_append_bk {w : World} {ops : Array Oper} {rest : List Oper} {o : Oper} {a : Act} {Q : Exit → Act → World → Prop} (hgd : o.guard = none) (s x : Operand)
    (ho : o.op = .call { callee := .builtin .append, args := #[s, x], argTypes := #[23, 23] })
    (base : Nat) (v : Value) (f bk : Fo) (hs : a.eval s = v) (hown : OwnB w base v f bk) (g c1 : Nat) (hx : a.eval x = .slice (some ⟨g, 0, none⟩) 1 c1)
    (k : Int) (t : ByteArray) (ks : Fo) (ad : Option Addr) (c L1 : Nat) (bk1 : Fo) (g1 : Nat) {T : TypeId} (hbx : w.heap[g]? = some (.cells #[.int .i64 k, .string t, .slice ad ks.len c] T (0, 0))) (hc : ks.len ≤ c) (hk : KA w L1 w.heap.size ks ad ks.len) (hL : base ≤ L1) (hown1 : ∀ g, v.ownBlock = some g → g < L1) (hown2 : ∀ x ∈ bk.blks, x < L1)
    (hsep : SepA w bk1 g1 ad ks.len) (hnd : (blksA g1 bk1).Nodup) (hin : ∀ x ∈ blksA g1 bk1, L1 ≤ x ∧ x < w.heap.size) (hz : bk1.size = ks.size)
    (h63 : f.len ≤ 1000000000) (hbase : base ≤ w.heap.size)
    (h : ∀ g cap w', OwnB w' base (.slice (some ⟨g, 0, none⟩) (f.len + 1) cap) (f.snoc k t ks) (bk.snoc (g1 : Int) .empty bk1) → w.grownBy w' v.ownBlock → g < w'.heap.size → base ≤ g → wpList Try.prog ops Q rest (a.put o.dst (.slice (some ⟨g, 0, none⟩) (f.len + 1) cap)) w') :
    wpList Try.prog ops Q (o :: rest) a w :=
  wpList_plain hgd fun _ hK => wp_append_bk s x ho base v f bk hs hown g c1 hx k t ks ad c L1 bk1 g1 hbx hc hk hL hown1 hown2 hsep hnd hin hz h63 hbase fun g cap w' h1 h2 h3 h4 => hK _ _ (h g cap w' h1 h2 h3 h4)
theorem bxE_three {w : World} {g : Nat} {k : Int} {s : ByteArray} {v : Value} {T : TypeId} (h : BxE w g k s v T) : w.cell? ⟨g, 0, none⟩ = some (.int .i64 k) ∧ w.cell? ⟨g, 1, none⟩ = some (.string s) ∧ w.cell? ⟨g, 2, none⟩ = some v := ⟨h.c0, h.c1, h.c2⟩
/-- what copyExpr leaves -/
def CopP (k : Int) (s : ByteArray) (ks : Fo) (w : World) (e : Ending) (w' : World) : Prop := ∃ a c bk g, e = .returned (.agg #[.int .i64 k, .string s, .slice a ks.len c]) ∧ CopX w' w.heap.size ks a c bk g ∧ Below w.heap.size w w'
/-- what copyList leaves -/
def CopL (ks : Fo) (w : World) (e : Ending) (w' : World) : Prop := ∃ a c bk g, e = .returned (.slice a ks.len c) ∧ CopX w' w.heap.size ks a c bk g ∧ Below w.heap.size w w'

end Go.Proofs.Ytecekkmagldpoaa

namespace Go.Proofs.Ytecekkmagldpoaa
set_option linter.unusedVariables false
open Go.RowKit

theorem nodeB_txN {k : Int} {s : ByteArray} {n : Nat} (h : nodeB k s n = true) : TxN k s n := by
  rcases node_kinds h with ⟨h1, h2, h3⟩ | ⟨h1, h2, h3⟩ | ⟨h1, h2, h3⟩ | ⟨h1, h2, h3⟩
  · refine .inl ⟨h1, h2, fun h4 => ?_⟩
    unfold plainB noQ at h3
    simp only [Bool.and_eq_true, List.all_eq_true, decide_eq_true_eq] at h3
    exact h3.1 39 h4 rfl
  · exact .inr (.inl ⟨h1, h3⟩)
  · exact .inr (.inr (.inl ⟨h1, h2, h3⟩))
  · exact .inr (.inr (.inr ⟨h1, h2, h3⟩))
theorem shape_tx : ∀ {f : Fo} {d : Nat}, shape f d = true → Tx f
  | .nil, _, _ => trivial
  | .node k s ks r, d, h => by
    simp only [shape, Bool.and_eq_true] at h
    exact ⟨nodeB_txN h.1.1.2, shape_tx h.1.2, shape_tx h.2⟩
theorem shape_one {k : Int} {s : ByteArray} {ks : Fo} {d : Nat} (h : shape (.node k s ks .nil) d = true) : 1 ≤ d ∧ nodeB k s ks.len = true ∧ shape ks (d - 1) = true := by
  simp only [shape, Bool.and_eq_true, decide_eq_true_eq, and_true] at h
  exact ⟨h.1.1, h.1.2, h.2⟩
theorem shape_app : ∀ {f g : Fo} {d : Nat}, shape (f.app g) d = true → shape g d = true
  | .nil, _, _, h => h
  | .node k s ks r, _, d, h => by simp only [Fo.app, shape, Bool.and_eq_true] at h; exact shape_app (f := r) h.2
theorem app_snoc (k : Int) (s : ByteArray) (ks g : Fo) (sn : Fo → Int → ByteArray → Fo → Fo) (hn : ∀ k s ks, sn .nil k s ks = .node k s ks .nil) (hc : ∀ k' s' ks' r k s ks, sn (.node k' s' ks' r) k s ks = .node k' s' ks' (sn r k s ks)) : ∀ f : Fo, f.app (.node k s ks g) = (sn f k s ks).app g
  | .nil => by rw [hn]; rfl
  | .node k' s' ks' r => by rw [hc]; simp only [Fo.app, app_snoc k s ks g sn hn hc r]
/-- how large a node may be at a depth -/
def Bd : Nat → Nat
  | 0 => 1
  | d + 1 => 1 + 5 * Bd d
theorem Bd_pos : ∀ d, 1 ≤ Bd d
  | 0 => Nat.le_refl _
  | d + 1 => by simp only [Bd]; omega
theorem Bd_mono : ∀ d, Bd d ≤ Bd (d + 1)
  | d => by have := Bd_pos d; simp only [Bd]; omega
/-- what the reference hands back is of a bounded size -/
def NOk (d : Nat) (k : Int) (s : ByteArray) (ks : Fo) : Prop := ks.size + 1 ≤ Bd d ∧ s.size ≤ 1048576 ∧ ks.Fits ∧ ks.len ≤ 5
theorem nok_zero (d : Nat) (k : Int) : NOk d k ⟨#[]⟩ .nil := ⟨by have := Bd_pos d; simp only [Fo.size]; omega, Nat.zero_le _, trivial, Nat.zero_le _⟩
/-- if the text at this place begins with a node of this depth, that is it -/
def Want (t : List UInt8) (d : Nat) (at_ : Nat) (k : Int) (s : ByteArray) (ks : Fo) (next : Int) : Prop := ∀ k' s' ks' tail, shape (.node k' s' ks' .nil) d = true → t = fm1 k' s' ks' ++ tail → k = k' ∧ s = s' ∧ ks = ks' ∧ next = at_ + (fm1 k' s' ks').length
def sp4 : List (List UInt8) := [[61], [63], [58], [93]]
def Want4 (r : List UInt8) (d : Nat) (at_ : Nat) (k : Int) (s : ByteArray) (ks : Fo) (next : Int) : Prop := ∀ ks' tail, shape ks' d = true → ks'.len = 4 → r = fmS ks' sp4 ++ tail → k = 4 ∧ s = .empty ∧ ks = ks' ∧ next = at_ + (fmS ks' sp4).length
def Want3 (r : List UInt8) (d : Nat) (at_ : Nat) (k : Int) (s : ByteArray) (ks : Fo) (next : Int) : Prop := ∀ ks' tail, shape ks' d = true → ks'.len ≤ 4 → r = fmS ks' [] ++ 41 :: tail → k = 3 ∧ s = .empty ∧ ks = ks' ∧ next = at_ + (fmS ks' []).length + 1
section
variable {t r : List UInt8} {d at_ : Nat} {k K : Int} {s : ByteArray} {ks : Fo} {next : Int}
theorem want_zero : Want t 0 at_ k s ks next := fun k' s' ks' tail h => absurd (shape_one h).1 (by omega)
theorem want_nil : Want [] d at_ k s ks next := fun k' s' ks' tail _ e => by rw [fm1_hd] at e; simp at e
theorem want_other {c : UInt8} (h : ∀ k : Int, (k = 1 ∨ k = 2 ∨ k = 3 ∨ k = 4 ∨ k = 5 ∨ k = 6 ∨ k = 7) → hdB k ≠ c) : Want (c :: r) d at_ k s ks next := fun k' s' ks' tail h1 e => by
  rw [fm1_hd, List.cons_append] at e
  injection e with e1 _
  exact absurd e1.symm (h k' (txN_kind (nodeB_txN (shape_one h1).2.1)))
theorem want_text {x y : List UInt8} (hx : (39 : UInt8) ∉ x) : Want (39 :: (x ++ 39 :: y)) d at_ 1 ⟨x.toArray⟩ .nil ((at_ : Int) + 1 + x.length + 1) := fun k' s' ks' tail h1 e => by
  have ht := nodeB_txN (shape_one h1).2.1
  have hz : TxN 1 (⟨x.toArray⟩ : ByteArray) Fo.nil.len := .inl ⟨rfl, rfl, by simpa using hx⟩
  have e2 : fm1 1 ⟨x.toArray⟩ .nil ++ y = fm1 k' s' ks' ++ tail := by rw [← e, fm1_hd]; simp [hdB, tlB]
  obtain ⟨rfl, rfl, rfl, rfl⟩ := u1 hz trivial ht (shape_tx (shape_one h1).2.2) e2
  refine ⟨rfl, rfl, rfl, ?_⟩
  rw [fm1_hd]; simp [tlB]; omega
theorem want_noquote (h : (39 : UInt8) ∉ r) : Want (39 :: r) d at_ k s ks next := fun k' s' ks' tail h1 e => by
  rw [fm1_hd, List.cons_append] at e
  injection e with e1 e2
  obtain rfl := hd_inj (txN_kind (nodeB_txN (shape_one h1).2.1)) (.inl rfl : (1 : Int) = 1 ∨ _) e1.symm
  exact absurd (by rw [e2]; simp [tlB]) h
theorem want_four (h : Want4 r d (at_ + 1) k s ks next) : Want (91 :: r) (d + 1) at_ k s ks next := fun k' s' ks' tail h1 e => by
  obtain ⟨_, h2, h3⟩ := shape_one h1
  have ht := nodeB_txN h2
  rw [fm1_hd, List.cons_append] at e
  injection e with e1 e2
  obtain rfl := hd_inj (txN_kind ht) (by omega : (4 : Int) = 1 ∨ _) e1.symm
  obtain ⟨hl, he⟩ : ks'.len = 4 ∧ s' = .empty := by
    rcases ht with ⟨h, _⟩ | ⟨h, _⟩ | ⟨_, h5, h6⟩ | ⟨h, _⟩
    · omega
    · omega
    · exact ⟨h5, h6⟩
    · omega
  have e3 : r = fmS ks' sp4 ++ tail := by simpa [tlB, sp4] using e2
  obtain ⟨h4, h5, h6, h7⟩ := h ks' tail (by simpa using h3) hl e3
  refine ⟨h4, h5.trans he.symm, h6, ?_⟩
  rw [h7, fm1_hd]; simp [tlB, sp4]; omega
theorem want_join (h : Want3 r d (at_ + 1) k s ks next) : Want (40 :: r) (d + 1) at_ k s ks next := fun k' s' ks' tail h1 e => by
  obtain ⟨_, h2, h3⟩ := shape_one h1
  have ht := nodeB_txN h2
  rw [fm1_hd, List.cons_append] at e
  injection e with e1 e2
  obtain rfl := hd_inj (txN_kind ht) (by omega : (3 : Int) = 1 ∨ _) e1.symm
  obtain ⟨hl, he⟩ : ks'.len ≤ 4 ∧ s' = .empty := by
    rcases node_kinds h2 with ⟨h, _⟩ | ⟨_, h5, h6⟩ | ⟨h, _⟩ | ⟨h, _⟩
    · omega
    · exact ⟨h5, h6⟩
    · omega
    · omega
  have e3 : r = fmS ks' [] ++ 41 :: tail := by simpa [tlB] using e2
  obtain ⟨h4, h5, h6, h7⟩ := h ks' tail (by simpa using h3) hl e3
  refine ⟨h4, h5.trans he.symm, h6, ?_⟩
  rw [h7, fm1_hd]; simp [tlB]; omega
theorem want_op (hK : K = 2 ∨ K = 5 ∨ K = 6 ∨ K = 7) (h : Want r d (at_ + 1) k s ks next) : Want (hdB K :: r) (d + 1) at_ K .empty (.node k s ks .nil) next := fun k' s' ks' tail h1 e => by
  obtain ⟨_, h2, h3⟩ := shape_one h1
  have ht := nodeB_txN h2
  rw [fm1_hd, List.cons_append] at e
  injection e with e1 e2
  obtain rfl := hd_inj (txN_kind ht) (by omega : K = 1 ∨ _) e1.symm
  obtain ⟨hl, he⟩ : ks'.len = 1 ∧ s' = .empty := by
    rcases ht with ⟨h, _⟩ | ⟨h, _⟩ | ⟨h, _⟩ | ⟨_, h5, h6⟩
    · omega
    · omega
    · omega
    · exact ⟨h5, h6⟩
  obtain ⟨k2, s2, f2, rfl⟩ := len_one hl
  have e3 : tlB k' s' (.node k2 s2 f2 .nil) = fm1 k2 s2 f2 := by
    unfold tlB
    rw [if_neg (by omega), if_neg (by omega), if_neg (by omega), fmS_one]
  rw [e3] at e2
  obtain ⟨rfl, rfl, rfl, h7⟩ := h k2 s2 f2 tail (by simpa using h3) e2
  refine ⟨rfl, he.symm, rfl, ?_⟩
  rw [h7, fm1_hd k', e3]; simp; omega
end
/-- what a list of operands that was read so far says of the rest: a comparison's -/
def R4 (l : List UInt8) (at0 d : Nat) (f : Fo) (at_ : Nat) : Prop := ∀ ks' tail, shape ks' d = true → ks'.len = 4 → l.drop at0 = fmS ks' sp4 ++ tail → ∃ g, ks' = f.app g ∧ l.drop at_ = fmS g (sp4.drop f.len) ++ tail ∧ at_ = at0 + (fmS f sp4).length
/-- .. a concatenation's -/
def R3 (l : List UInt8) (at0 d : Nat) (f : Fo) (at_ : Int) : Prop := ∀ ks' tail, shape ks' d = true → ks'.len ≤ 4 → l.drop at0 = fmS ks' [] ++ 41 :: tail → 0 ≤ at_ ∧ ∃ g, ks' = f.app g ∧ l.drop at_.toNat = fmS g [] ++ 41 :: tail ∧ at_ = at0 + (fmS f []).length
section
variable {l : List UInt8} {at0 d at_ : Nat} {f : Fo} {k : Int} {s : ByteArray} {ks : Fo} {next : Int} {sn : Fo → Int → ByteArray → Fo → Fo}
theorem r4_start : R4 l at0 d .nil at0 := fun ks' tail _ _ e => ⟨ks', rfl, by simpa [Fo.len] using e, by simp [fmS]⟩
theorem r3_start : R3 l at0 d .nil (at0 : Int) := fun ks' tail _ _ e => ⟨by omega, ks', rfl, by simpa using e, by simp [fmS]⟩
theorem fmS_snoc' (hn : ∀ k s ks, sn .nil k s ks = .node k s ks .nil) (hc : ∀ k' s' ks' r k s ks, sn (.node k' s' ks' r) k s ks = .node k' s' ks' (sn r k s ks)) (k : Int) (s : ByteArray) (ks : Fo) : ∀ (f : Fo) (sp : List (List UInt8)), fmS (sn f k s ks) sp = fmS f sp ++ fm1 k s ks ++ (sp.drop f.len).headD [] ∧ (sn f k s ks).len = f.len + 1
  | .nil, sp => by
    refine ⟨?_, by rw [hn]; rfl⟩
    rw [hn, fmS_node]
    show fm1 k s ks ++ sp.headD [] ++ [] = [] ++ fm1 k s ks ++ (sp.drop 0).headD []
    simp
  | .node k' s' ks' r, sp => by
    obtain ⟨h1, h2⟩ := fmS_snoc' hn hc k s ks r sp.tail
    rw [hc]
    simp only [fmS_node, Fo.len, h1, h2, and_true]
    cases sp with
    | nil => simp
    | cons a sp => simp
theorem drop_more {l a b : List UInt8} {n m : Nat} (h : l.drop n = a ++ b) (hm : m = n + a.length) : l.drop m = b := by
  subst hm
  rw [← List.drop_drop, h, List.drop_left]
theorem r4_next (hr : R4 l at0 d f at_) (hf : f.len < 4) (hw : Want (l.drop at_) d at_ k s ks next) {ks' : Fo} {tail : List UInt8} (h1 : shape ks' d = true) (h2 : ks'.len = 4) (h3 : l.drop at0 = fmS ks' sp4 ++ tail) :
    ∃ g m, ks' = f.app (.node k s ks g) ∧ sp4[f.len]? = some m ∧ next = at_ + (fm1 k s ks).length ∧ l.drop (at_ + (fm1 k s ks).length) = m ++ (fmS g (sp4.drop (f.len + 1)) ++ tail) ∧ at_ = at0 + (fmS f sp4).length := by
  obtain ⟨g, rfl, h4, h5⟩ := hr ks' tail h1 h2 h3
  rw [Fo.app_len] at h2
  match g, h1, h2, h4 with
  | .nil, _, h2, _ => simp only [Fo.len] at h2; omega
  | .node k' s' k1 g, h1, h2, h4 =>
    have hg := shape_app h1
    simp only [shape, Bool.and_eq_true] at hg
    have hlt : f.len < sp4.length := by show f.len < 4; exact hf
    have hd : sp4.drop f.len = sp4[f.len] :: sp4.drop (f.len + 1) := List.drop_eq_getElem_cons hlt
    rw [fmS_node, hd, List.append_assoc, List.append_assoc] at h4
    simp only [List.headD_cons, List.tail_cons] at h4
    obtain ⟨rfl, rfl, rfl, h7⟩ := hw k' s' k1 _ (by simp only [shape, Bool.and_eq_true, and_true]; exact hg.1) h4
    exact ⟨g, _, rfl, List.getElem?_eq_getElem hlt, h7, drop_more h4 rfl, h5⟩
theorem r4_step (hn : ∀ k s ks, sn .nil k s ks = .node k s ks .nil) (hc : ∀ k' s' ks' r k s ks, sn (.node k' s' ks' r) k s ks = .node k' s' ks' (sn r k s ks)) (hr : R4 l at0 d f at_) (hf : f.len < 4) {nx : Nat} (hw : Want (l.drop at_) d at_ k s ks (nx : Int)) : R4 l at0 d (sn f k s ks) (nx + 1) := fun ks' tail h1 h2 h3 => by
  obtain ⟨g, m, rfl, hm, h4, h5, h6⟩ := r4_next hr hf hw h1 h2 h3
  obtain ⟨h7, h8⟩ := fmS_snoc' hn hc k s ks f sp4
  have hml : m.length = 1 := by
    have : ∀ i (h : i < 4), (sp4[i]?.getD []).length = 1 := by decide
    have h9 := this f.len hf
    rw [hm] at h9
    exact h9
  refine ⟨g, app_snoc k s ks g sn hn hc f, ?_, ?_⟩
  · rw [h8]; exact drop_more h5 (by omega)
  · have h9 : (sp4.drop f.len).headD [] = m := by rw [List.headD_eq_head?_getD, List.head?_drop, hm]; rfl
    rw [h7, h9]; simp only [List.length_append]; omega
theorem r4_fail {k2 : Int} {s2 : ByteArray} {ks2 : Fo} {next2 : Int} (hr : R4 l at0 d f at_) (hf : f.len < 4) (hw : Want (l.drop at_) d at_ k s ks next) (hno : ∀ (nx : Nat) (m : List UInt8) (t : List UInt8), next = nx → sp4[f.len]? = some m → l.drop nx ≠ m ++ t) : Want4 (l.drop at0) d at0 k2 s2 ks2 next2 := fun ks' tail h1 h2 h3 => by
  obtain ⟨g, m, rfl, hm, h4, h5, h6⟩ := r4_next hr hf hw h1 h2 h3
  exact absurd h5 (hno _ m _ (by rw [h4]; omega) hm)
theorem r4_done (hr : R4 l at0 d f at_) (hf : f.len = 4) : Want4 (l.drop at0) d at0 4 .empty f at_ := fun ks' tail h1 h2 h3 => by
  obtain ⟨g, rfl, h4, h5⟩ := hr ks' tail h1 h2 h3
  rw [Fo.app_len] at h2
  obtain rfl := len_zero (ks := g) (by omega)
  rw [Fo.app_nil]
  exact ⟨rfl, rfl, rfl, by omega⟩
theorem r3_next (hr : R3 l at0 d f (at_ : Int)) (hw : Want (l.drop at_) d at_ k s ks next) (hc : ∀ t, l.drop at_ ≠ 41 :: t) {ks' : Fo} {tail : List UInt8} (h1 : shape ks' d = true) (h2 : ks'.len ≤ 4) (h3 : l.drop at0 = fmS ks' [] ++ 41 :: tail) :
    ∃ g, ks' = f.app (.node k s ks g) ∧ next = at_ + (fm1 k s ks).length ∧ l.drop (at_ + (fm1 k s ks).length) = fmS g [] ++ 41 :: tail ∧ at_ = at0 + (fmS f []).length := by
  obtain ⟨_, g, rfl, h4, h5⟩ := hr ks' tail h1 h2 h3
  simp only [Int.toNat_natCast] at h4
  match g, h1, h2, h4 with
  | .nil, _, _, h4 => exact absurd (by simpa [fmS] using h4) (hc tail)
  | .node k' s' k1 g, h1, h2, h4 =>
    have hg := shape_app h1
    simp only [shape, Bool.and_eq_true] at hg
    rw [fmS_node, List.append_assoc, List.append_assoc] at h4
    simp only [List.headD_nil, List.tail_nil, List.nil_append] at h4
    obtain ⟨rfl, rfl, rfl, h7⟩ := hw k' s' k1 _ (by simp only [shape, Bool.and_eq_true, and_true]; exact hg.1) h4
    exact ⟨g, rfl, h7, drop_more h4 rfl, by omega⟩
theorem r3_step (hn : ∀ k s ks, sn .nil k s ks = .node k s ks .nil) (hc : ∀ k' s' ks' r k s ks, sn (.node k' s' ks' r) k s ks = .node k' s' ks' (sn r k s ks)) (hr : R3 l at0 d f (at_ : Int)) (hw : Want (l.drop at_) d at_ k s ks next) (hno : ∀ t, l.drop at_ ≠ 41 :: t) : R3 l at0 d (sn f k s ks) next := fun ks' tail h1 h2 h3 => by
  obtain ⟨g, rfl, h4, h5, h6⟩ := r3_next hr hw hno h1 h2 h3
  obtain ⟨h7, h8⟩ := fmS_snoc' hn hc k s ks f []
  refine ⟨by omega, g, app_snoc k s ks g sn hn hc f, ?_, ?_⟩
  · rw [h4, show ((at_ : Int) + ((fm1 k s ks).length : Nat)).toNat = at_ + (fm1 k s ks).length from by omega]; exact h5
  · rw [h7]; simp only [List.drop_nil, List.headD_nil, List.append_nil, List.length_append]; omega
theorem r3_long {k2 : Int} {s2 : ByteArray} {ks2 : Fo} {next2 next : Int} (hr : R3 l at0 d f next) (hf : 4 < f.len) : Want3 (l.drop at0) d at0 k2 s2 ks2 next2 := fun ks' tail h1 h2 h3 => by
  obtain ⟨_, g, rfl, _⟩ := hr ks' tail h1 h2 h3
  rw [Fo.app_len] at h2
  omega
theorem r3_bad {k2 : Int} {s2 : ByteArray} {ks2 : Fo} {next2 next : Int} (hr : R3 l at0 d f next) (hf : next < 0 ∨ (l.length : Int) ≤ next) : Want3 (l.drop at0) d at0 k2 s2 ks2 next2 := fun ks' tail h1 h2 h3 => by
  obtain ⟨h4, g, rfl, h5, _⟩ := hr ks' tail h1 h2 h3
  have h6 : l.length ≤ next.toNat := by omega
  rw [List.drop_of_length_le h6] at h5
  exact absurd h5 (by simp)
theorem r3_done {t : List UInt8} (hr : R3 l at0 d f (at_ : Int)) (ht : l.drop at_ = 41 :: t) : Want3 (l.drop at0) d at0 3 .empty f ((at_ : Int) + 1) := fun ks' tail h1 h2 h3 => by
  obtain ⟨_, g, rfl, h4, h5⟩ := hr ks' tail h1 h2 h3
  simp only [Int.toNat_natCast] at h4
  rw [ht] at h4
  match g, h1, h4 with
  | .nil, _, _ => rw [Fo.app_nil]; exact ⟨rfl, rfl, rfl, by omega⟩
  | .node k' s' k1 g, h1, h4 =>
    have hg := shape_app h1
    simp only [shape, Bool.and_eq_true] at hg
    rw [fmS_node, fm1_hd] at h4
    simp only [List.cons_append] at h4
    injection h4 with h4 _
    exact absurd h4.symm (hd_not (txN_kind (nodeB_txN hg.1.1.2)))
end
end Go.Proofs.Ytecekkmagldpoaa

namespace Go.Proofs.Ytecekkmagldpoaa
set_option linter.unusedVariables false
open Go.ChangeShapes Go.WideShapes Go.Deep Go.RowKit Go.Joins
open Go.ChangeMaps (open_string shut_string)

/-- a slice of bytes that came in: nil, or a row of 'cap' cells, the numbers zs -/
def IsRow (k : IntKind) (w : World) (a : Option Addr) (len cap : Nat) (zs : List Int) : Prop :=
  (a = none ∧ len = 0 ∧ cap = 0 ∧ zs = []) ∨
  ∃ x, a = some x ∧ len ≤ cap ∧ cap ≤ maxLen ∧ zs.length = cap ∧ (∀ i, i < zs.length → w.cell? (x.add i) = some (.int k (zs.getD i 0))) ∧ ∀ n ∈ zs, (Lit.int k n).wf = true

theorem open_bytes {H : Type} {enc : TypeId × Value → H} {P : Program} {W : World} {t e : TypeId} {a : Option Addr} {len cap : Nat} {d : DataW H} {p : List MemPlace}
    (ht : P.underlying t = some (.slice e)) (he : P.underlying e = some (.int .u8)) (h1 : P.cellsOf e = 1) (h : DataW.Trod enc P W 0 (fun _ => true) true t (.slice a len cap) d p) :
    ∃ zs, IsRow .u8 W a len cap zs := by
  obtain ⟨fuel, hf⟩ := h
  rcases open_ints ht he h1 hf with ⟨hcs, _⟩ | ⟨x, l, c, zs, hcs, _, hl, hm, hz, _, hcell, hwz⟩
  · simp [Value.cells] at hcs
    obtain ⟨rfl, rfl, rfl⟩ := hcs
    exact ⟨[], .inl ⟨rfl, rfl, rfl, rfl⟩⟩
  · simp [Value.cells] at hcs
    obtain ⟨rfl, rfl, rfl⟩ := hcs
    exact ⟨zs, .inr ⟨_, rfl, hl, hm, by simpa using hz, hcell, hwz⟩⟩


/-- a slice of structs of one-cell fields that came in, opened to its cells -/
theorem open_rows {H : Type} {enc : TypeId × Value → H} {P : Program} {w : World} {base : Nat} {sp : Nat → Bool} {held : Bool} {t e : TypeId} {fs : Array Field} {fuel : Nat} {cs : List Value} {x : DataW H × List MemPlace}
    (ht : P.underlying t = some (.slice e)) (he : P.underlying e = some (.struct fs)) (hone : oneCellFields P fs = true) (hC : P.cellsOf e = fs.size) (h : DataW.trod enc P w base sp held fuel t cs = some x) :
    cs = [.slice none 0 0] ∨
    ∃ (a : Addr) (len cap : Nat), cs = [.slice (some a) len cap] ∧ len ≤ cap ∧ cap ≤ maxLen ∧
      ∀ i, i < len → ∀ (j : Nat) (f : Field), fs[j]? = some f → ∃ (v : Value) (y : DataW H × List MemPlace) (n : Nat), w.cell? (a.add (i * fs.size + j)) = some v ∧ DataW.trod enc P w base sp held n f.type [v] = some y := by
  rcases open_slice ht h with ⟨h0, _⟩ | ⟨a, len, cap, m, n, D, Pl, hcs, hb, hl, hm, hmm, hx, hi⟩
  · exact .inl h0
  · refine .inr ⟨a, len, cap, hcs, hl, hm, fun i hil j f hj => ?_⟩
    have him : i < m := by rw [hmm]; split <;> omega
    obtain ⟨cs', hc, ht'⟩ := hi i him
    rw [hC] at hc
    obtain ⟨ys, n', hn', hy, hlen, hyl, hf⟩ := DataW.trod_struct he ht'
    obtain ⟨_, hcl, hat⟩ := World.cells?_some hc
    obtain ⟨ho, hk⟩ := hone_of hone j f hj
    have hjl : j < fs.size := (Array.getElem?_eq_some_iff.1 hj).1
    have hcell := hat j hjl
    have hv : cs'[j]? = some (cs'[j]'(by omega)) := List.getElem?_eq_getElem (by omega)
    have h1 := hf j f hj
    rw [ho, hk] at h1
    have hone' : (cs'.drop j).take 1 = [cs'[j]'(by omega)] := by
      rw [List.drop_eq_getElem_cons (by omega)]
      rfl
    rw [hone'] at h1
    have hys : ys[j]? = some (ys[j]'(by omega)) := List.getElem?_eq_getElem (by omega)
    exact ⟨_, _, n', by rw [← Go.Deep.add_add, hcell, hv], h1.trans hys⟩

theorem open_files {H : Type} {enc : TypeId × Value → H} {P : Program} {W : World} {t e : TypeId} {a : Option Addr} {len cap : Nat} {d : DataW H} {p : List MemPlace} {f0 f1 : Field}
    (ht : P.underlying t = some (.slice e)) (he : P.underlying e = some (.struct #[f0, f1])) (h0 : P.underlying f0.type = some .string) (h1 : P.underlying f1.type = some .string)
    (hone : oneCellFields P #[f0, f1] = true) (hC : P.cellsOf e = 2) (h : DataW.Trod enc P W 0 (fun _ => true) true t (.slice a len cap) d p) :
    ∃ fs, FilesAt W W.heap.size a len fs ∧ Fits fs ∧ len ≤ maxLen := by
  obtain ⟨fuel, hf⟩ := h
  rcases open_rows ht he hone hC hf with hcs | ⟨x, l, c, hcs, hl, hm, hcell⟩
  · simp [Value.cells] at hcs
    obtain ⟨rfl, rfl, rfl⟩ := hcs
    exact ⟨[], ⟨rfl, fun hn => absurd hn (by omega)⟩, fun f hf => by simp at hf, by unfold maxLen; omega⟩
  · simp [Value.cells] at hcs
    obtain ⟨rfl, rfl, rfl⟩ := hcs
    have hget : ∀ i, i < len → ∃ q r : ByteArray, W.cell? (x.add (i * 2)) = some (.string q) ∧ W.cell? (x.add (i * 2 + 1)) = some (.string r) ∧ q.size ≤ maxLen ∧ r.size ≤ maxLen := by
      intro i hi
      obtain ⟨v, y, n, hv, hy⟩ := hcell i hi 0 f0 rfl
      obtain ⟨v', y', n', hv', hy'⟩ := hcell i hi 1 f1 rfl
      obtain ⟨q, hq, _, hql⟩ := DataW.trod_string h0 hy
      obtain ⟨r, hr, _, hrl⟩ := DataW.trod_string h1 hy'
      simp at hq hr
      subst hq hr
      exact ⟨q, r, hv, hv', hql, hrl⟩
    let F : Nat → Fl := fun i => if hi : i < len then ((hget i hi).choose, (hget i hi).choose_spec.choose) else (.empty, .empty)
    have hF : ∀ i, i < len → W.cell? (x.add (i * 2)) = some (.string (F i).1) ∧ W.cell? (x.add (i * 2 + 1)) = some (.string (F i).2) ∧ (F i).1.size ≤ maxLen ∧ (F i).2.size ≤ maxLen := by
      intro i hi
      have h := (hget i hi).choose_spec.choose_spec
      simp only [F, dif_pos hi]
      exact h
    refine ⟨(List.range len).map F, ⟨by simp, fun hn => ?_⟩, ?_, by omega⟩
    · obtain ⟨b, off, spot⟩ := x
      have hc0 := (hF 0 hn).1
      have hspot : spot = none := by simpa [Addr.add] using World.cell?_spot hc0
      subst hspot
      refine ⟨b, off, rfl, World.block_lt_of_cell? W ⟨b, off, none⟩ (by simpa [Addr.add] using hc0), fun j u hu => ?_⟩
      obtain ⟨k, q, r, hk, hh⟩ := fcells_inv _ hu
      have hkl : k < len := by have := (List.getElem?_eq_some_iff.1 hk).1; simpa using this
      have hFk : F k = (q, r) := by simpa [hkl] using hk
      have hh2 := hF k hkl
      rw [hFk, add_none, add_none] at hh2
      rcases hh with ⟨rfl, rfl⟩ | ⟨rfl, rfl⟩
      · exact hh2.1
      · exact hh2.2.1
    · intro f hf
      simp only [List.mem_map, List.mem_range] at hf
      obtain ⟨k, hk, rfl⟩ := hf
      exact (hF k hk).2.2

theorem open_file {H : Type} {enc : TypeId × Value → H} {P : Program} {W : World} {r : Reach} {b0 : Nat} {t : TypeId} {v : Value} {d : DataW H} {p : List MemPlace} {f0 f1 : Field}
    (hs : P.underlying t = some (.struct #[f0, f1])) (h0 : P.underlying f0.type = some .string) (h1 : P.underlying f1.type = some .string)
    (hone : oneCellFields P #[f0, f1] = true) (hC : P.cellsOf t = 2) (hv : Value.okWide P W r b0 t v) (h : DataW.Trod enc P W 0 (fun _ => true) true t v d p) :
    ∃ q s : ByteArray, v = .agg #[.string q, .string s] ∧ q.size ≤ maxLen ∧ s.size ≤ maxLen := by
  obtain ⟨v0, v1, y0, y1, n, rfl, _, _, hy0, hy1⟩ := open_agg2 hs hone hC hv h
  obtain ⟨q, hq, _, hql⟩ := DataW.trod_string h0 hy0
  obtain ⟨s, hs', _, hsl⟩ := DataW.trod_string h1 hy1
  simp at hq hs'
  subst hq hs'
  exact ⟨q, s, rfl, hql, hsl⟩

end Go.Proofs.Ytecekkmagldpoaa
