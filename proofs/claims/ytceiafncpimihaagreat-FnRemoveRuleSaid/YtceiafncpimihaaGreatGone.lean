/-
  The early texts of this proof in one: plain words, lists in memory, and the contracts of the small functions.
-/
import Derived.WalkKit
import Derived.WalkLawsBesides
import Derived.WalkSpells
import Derived.Lib.Hide
import Derived.Lib.IndexBytes
import Derived.WideShapes
import Derived.Below
import Derived.Laws.OwnMore
import Derived.Deep.AppendLies
import Derived.Deep.Draws
import Derived.Laws.Rows
import Derived.Laws.MakeOwn
import Derived.Laws.Entries
import Derived.Laws.AppendOwn
import Derived.OwnWalk
import Derived.Test.YtceiafncpimihaaGreatProg
import Derived.Deep.RegionLaw
import Derived.LoopNIn
import Derived.Deep.Onto
import Derived.Deep.QuietTactic
import Derived.BigQuiet
import Derived.IntWalk
import Derived.Laws.BitsAllLaws
import Derived.Laws.BitsLemmas
import Derived.RangeFuncBox
import Derived.Deep.RegionHeld3
import Derived.Maps.AppendAt
import Derived.Laws.Concat
import Derived.Outline
import Derived.Sort.KeysCollected
import Derived.StillTailTactics
import Derived.Deep.DeepCutAuto

namespace Go.Proofs.YtceiafncpimihaaGreat
set_option linter.unusedVariables false
open Go.RowKit

theorem ret_bool {a b : Bool} (h : a = b) : Ending.returned (.bool a) = .returned (.bool b) := by rw [h]
theorem ret_int {k : IntKind} {a b : Int} (h : a = b) : Ending.returned (.int k a) = .returned (.int k b) := by rw [h]
theorem ret_str {a b : ByteArray} (h : a = b) : Ending.returned (.string a) = .returned (.string b) := by rw [h]

/-- every byte of s lies between lo and hi -/
def btw (lo hi : Nat) (l : List UInt8) : Bool := l.all fun c => decide (lo ≤ c.toNat ∧ c.toNat ≤ hi)

theorem btw_take_succ (lo hi : Nat) (s : ByteArray) (k : Nat) (h : k < s.size) :
    btw lo hi (s.data.toList.take (k + 1)) = (btw lo hi (s.data.toList.take k) && decide (lo ≤ s[k].toNat ∧ s[k].toNat ≤ hi)) := by
  unfold btw
  rw [List.take_succ_eq_append_getElem (by simpa using h)]
  simp [List.all_append]
  rfl

theorem btw_false_of (lo hi : Nat) (s : ByteArray) (k : Nat) (h : k < s.size) (hb : ¬ (lo ≤ s[k].toNat ∧ s[k].toNat ≤ hi)) :
    btw lo hi s.data.toList = false := by
  unfold btw
  rw [List.all_eq_false]
  refine ⟨s.data.toList[k]'(by simpa using h), List.getElem_mem _, ?_⟩
  have hb' : ¬ (lo ≤ (s.data[k]'h).toNat ∧ (s.data[k]'h).toNat ≤ hi) := hb
  simpa using hb'

theorem sEq (a b : ByteArray) : (a.toList == b.toList) = decide (a = b) := by
  rw [Lib.toList_data, Lib.toList_data]
  by_cases h : a = b
  · subst h; simp
  · have h2 : ¬ a.data = b.data := fun e => h (WideShapes.bytes_inj (by rw [e]))
    simp [h, h2]
/-- the order of strings -/
def sLess (a b : ByteArray) : Bool := Op.bytesLess a.toList b.toList

def pathB (s : ByteArray) : Bool := decide (1 ≤ s.size) && decide (s.size ≤ 8) && btw 97 122 s.data.toList
def textB (s : ByteArray) : Bool := decide (s.size ≤ 60) && btw 32 126 s.data.toList


theorem btw_iff (lo hi : Nat) (l : List UInt8) : btw lo hi l = true ↔ ∀ c ∈ l, lo ≤ c.toNat ∧ c.toNat ≤ hi := by
  unfold btw; simp
theorem btw_append (lo hi : Nat) (a b : ByteArray) : btw lo hi (a ++ b).data.toList = (btw lo hi a.data.toList && btw lo hi b.data.toList) := by
  unfold btw; simp
theorem btw_extract {lo hi : Nat} {s : ByteArray} (h : btw lo hi s.data.toList = true) (i j : Nat) : btw lo hi (s.extract i j).data.toList = true := by
  rw [btw_iff] at h ⊢
  intro c hc
  refine h c ?_
  rw [ByteArray.data_extract, Array.toList_extract] at hc
  exact List.mem_of_mem_drop (List.mem_of_mem_take hc)
theorem pathB_iff (s : ByteArray) : pathB s = true ↔ 1 ≤ s.size ∧ s.size ≤ 8 ∧ btw 97 122 s.data.toList = true := by
  unfold pathB; simp [and_assoc]
theorem textB_iff (s : ByteArray) : textB s = true ↔ s.size ≤ 60 ∧ btw 32 126 s.data.toList = true := by
  unfold textB; simp
theorem path_q {s : ByteArray} (h : pathB s = true) : pathB (s ++ { data := #[113] }) = decide ((s.size : Int) < 8) := by
  obtain ⟨h1, h2, h3⟩ := (pathB_iff s).1 h
  unfold pathB
  rw [btw_append, h3, ByteArray.size_append, show ({ data := #[113] } : ByteArray).size = 1 from rfl, show btw 97 122 ({ data := #[113] } : ByteArray).data.toList = true from rfl]
  rw [decide_eq_true (show 1 ≤ s.size + 1 by omega)]
  simp
  omega
theorem path_tail {s : ByteArray} (h : pathB s = true) : pathB (s.extract 1 s.size) = decide ((1 : Int) < s.size) := by
  obtain ⟨h1, h2, h3⟩ := (pathB_iff s).1 h
  unfold pathB
  rw [btw_extract h3, ByteArray.size_extract, decide_eq_true (show min s.size s.size - 1 ≤ 8 by omega)]
  simp
  omega
theorem path_text {s : ByteArray} (h : pathB s = true) : textB s = true := by
  obtain ⟨h1, h2, h3⟩ := (pathB_iff s).1 h
  refine (textB_iff s).2 ⟨by omega, ?_⟩
  rw [btw_iff] at h3 ⊢
  intro c hc
  have := h3 c hc
  omega
theorem path_blank (s : ByteArray) : pathB (s ++ { data := #[32] }) = false := by
  unfold pathB
  rw [btw_append, show btw 97 122 ({ data := #[32] } : ByteArray).data.toList = false from rfl]
  simp
theorem text_tail {s : ByteArray} (h : textB s = true) (i : Nat) : textB (s.extract i s.size) = true := by
  obtain ⟨h1, h2⟩ := (textB_iff s).1 h
  exact (textB_iff _).2 ⟨by rw [ByteArray.size_extract]; omega, btw_extract h2 _ _⟩
theorem text_append {a b : ByteArray} (ha : textB a = true) (hb : textB b = true) : textB (a ++ b) = decide ((a.size : Int) + b.size ≤ 60) := by
  obtain ⟨h1, h2⟩ := (textB_iff a).1 ha
  obtain ⟨h3, h4⟩ := (textB_iff b).1 hb
  unfold textB
  rw [btw_append, h2, h4, ByteArray.size_append]
  simp
  omega
end Go.Proofs.YtceiafncpimihaaGreat

namespace Go.Proofs.YtceiafncpimihaaGreat
set_option linter.unusedVariables false
open Go.RowKit

theorem below_drewN {B : Nat} {a w : World} (h : Below B a w) (n : Nat) : Below B a (w.drewN n) := ⟨h.os, h.tape, h.output, h.size, h.block⟩

/-- a file: its path and its text -/
abbrev Fl := ByteArray × ByteArray

def fcells (fs : List Fl) : List Value := fs.flatMap fun f => [.string f.1, .string f.2]
theorem fcells_nil : fcells [] = [] := rfl
theorem fcells_cons (f : Fl) (fs : List Fl) : fcells (f :: fs) = .string f.1 :: .string f.2 :: fcells fs := rfl
theorem fcells_append (a b : List Fl) : fcells (a ++ b) = fcells a ++ fcells b := by simp [fcells]
theorem fcells_length (fs : List Fl) : (fcells fs).length = fs.length * 2 := by
  induction fs with
  | nil => rfl
  | cons f fs ih => rw [fcells_cons]; simp [ih]; omega
theorem fcells_get (fs : List Fl) : ∀ {k : Nat} {p t : ByteArray}, fs[k]? = some (p, t) → (fcells fs)[k * 2]? = some (.string p) ∧ (fcells fs)[k * 2 + 1]? = some (.string t) := by
  induction fs with
  | nil => intro k p t h; simp at h
  | cons f fs ih =>
    intro k p t h
    cases k with
    | zero => simp at h; subst h; exact ⟨rfl, rfl⟩
    | succ k =>
      have := ih (k := k) (p := p) (t := t) (by simpa using h)
      rw [fcells_cons, show (k + 1) * 2 = k * 2 + 1 + 1 from by omega]
      simpa using this
theorem fcells_inv (fs : List Fl) : ∀ {j : Nat} {u : Value}, (fcells fs)[j]? = some u → ∃ (k : Nat) (p t : ByteArray), fs[k]? = some (p, t) ∧ ((j = k * 2 ∧ u = .string p) ∨ (j = k * 2 + 1 ∧ u = .string t)) := by
  induction fs with
  | nil => intro j u h; simp [fcells] at h
  | cons f fs ih =>
    intro j u h
    rw [fcells_cons] at h
    match j with
    | 0 => simp at h; exact ⟨0, f.1, f.2, rfl, .inl ⟨rfl, h.symm⟩⟩
    | 1 => simp at h; exact ⟨0, f.1, f.2, rfl, .inr ⟨rfl, h.symm⟩⟩
    | j + 2 =>
      simp at h
      obtain ⟨k, p, t, hk, hh⟩ := ih h
      refine ⟨k + 1, p, t, by simpa using hk, ?_⟩
      rcases hh with ⟨rfl, hu⟩ | ⟨rfl, hu⟩
      · exact .inl ⟨by omega, hu⟩
      · exact .inr ⟨by omega, hu⟩
theorem fcells_oneCell (fs : List Fl) : ∀ u ∈ fcells fs, u.oneCell' = true := by
  intro u hu
  simp [fcells] at hu
  obtain ⟨a, b, _, rfl | rfl⟩ := hu <;> rfl

/-- each string of the list fits -/
def Fits (fs : List Fl) : Prop := ∀ f ∈ fs, f.1.size ≤ maxLen ∧ f.2.size ≤ maxLen
theorem Fits.get {fs : List Fl} (h : Fits fs) {k : Nat} {p t : ByteArray} (hk : fs[k]? = some (p, t)) : p.size ≤ maxLen ∧ t.size ≤ maxLen := h _ (List.mem_of_getElem? hk)

/-- the bytes of a list of files -/
def tot : List Fl → Nat
  | [] => 0
  | f :: fs => f.1.size + f.2.size + tot fs
theorem tot_append (a b : List Fl) : tot (a ++ b) = tot a + tot b := by
  induction a with
  | nil => simp [tot]
  | cons f a ih => simp only [List.cons_append, tot, ih]; omega
theorem tot_take_succ {fs : List Fl} {k : Nat} {p t : ByteArray} (h : fs[k]? = some (p, t)) : tot (fs.take (k + 1)) = tot (fs.take k) + (p.size + t.size) := by
  rw [List.take_add_one, h, tot_append]
  simp [tot]
theorem tot_take_le (fs : List Fl) (k : Nat) : tot (fs.take k) ≤ tot fs := by
  have h := tot_append (fs.take k) (fs.drop k)
  rw [List.take_append_drop] at h
  omega

/-- is the file at place k as a valid list has it? -/
def okAt (fs : List Fl) (k : Nat) : Bool :=
  match fs[k]? with
  | none => true
  | some (p, t) => pathB p && textB t && (match k with
    | 0 => true
    | j + 1 => match fs[j]? with
      | none => true
      | some (q, _) => sLess q p)
def okTo (fs : List Fl) (k : Nat) : Bool := (List.range k).all (okAt fs)
theorem okTo_succ (fs : List Fl) (k : Nat) : okTo fs (k + 1) = (okTo fs k && okAt fs k) := by
  simp [okTo, List.range_succ]
theorem okTo_step {fs : List Fl} {k : Nat} (h1 : okTo fs k = true) (h2 : okAt fs k = true) : okTo fs (k + 1) = true := by rw [okTo_succ, h1, h2]; rfl
theorem okTo_false {fs : List Fl} {k n : Nat} (hk : k < n) (h : okAt fs k = false) : okTo fs n = false := by
  unfold okTo
  rw [List.all_eq_false]
  exact ⟨k, by simpa using hk, by simp [h]⟩
theorem okAt_path {fs : List Fl} {k : Nat} {p t : ByteArray} (hg : fs[k]? = some (p, t)) (h : pathB p = false) : okAt fs k = false := by
  unfold okAt; rw [hg]; simp [h]
theorem okAt_text {fs : List Fl} {k : Nat} {p t : ByteArray} (hg : fs[k]? = some (p, t)) (h : textB t = false) : okAt fs k = false := by
  unfold okAt; rw [hg]; simp [h]
theorem okAt_zero {fs : List Fl} {p t : ByteArray} (hg : fs[0]? = some (p, t)) (h1 : pathB p = true) (h2 : textB t = true) : okAt fs 0 = true := by
  unfold okAt; rw [hg]; simp [h1, h2]
theorem okAt_succ {fs : List Fl} {k : Nat} {p t q r : ByteArray} (hg : fs[k + 1]? = some (p, t)) (hq : fs[k]? = some (q, r)) (h1 : pathB p = true) (h2 : textB t = true) : okAt fs (k + 1) = sLess q p := by
  unfold okAt; rw [hg]; simp [h1, h2, hq]
def validB (fs : List Fl) : Bool := decide (fs.length ≤ 12) && okTo fs fs.length

theorem validB_false {fs : List Fl} {n k : Nat} {p t : ByteArray} (hl : fs.length = n) (hk : k < n) (_hg : fs[k]? = some (p, t)) (h : okAt fs k = false) : validB fs = false := by
  unfold validB
  rw [okTo_false (n := fs.length) (by omega) h, Bool.and_false]
theorem validB_all {fs : List Fl} {n : Nat} (hl : fs.length = n) (h : okTo fs n = true) : validB fs = decide ((n : Int) ≤ 12) := by
  unfold validB
  rw [hl, h, Bool.and_true]
  congr 1
  exact propext (by omega)

/-- the text of the first file with this path -/
def findF : List Fl → ByteArray → ByteArray × Bool
  | [], _ => (.empty, false)
  | f :: fs, x => if f.1 = x then (f.2, true) else findF fs x
theorem findF_none {fs : List Fl} {x : ByteArray} (h : ∀ (j : Nat) (p t : ByteArray), fs[j]? = some (p, t) → p ≠ x) : findF fs x = (.empty, false) := by
  induction fs with
  | nil => rfl
  | cons f fs ih =>
    rw [findF, if_neg (h 0 f.1 f.2 rfl)]
    exact ih fun j p t hj => h (j + 1) p t (by simpa using hj)
theorem findF_at {fs : List Fl} {x t : ByteArray} : ∀ {k : Nat}, (∀ (j : Nat) (p t : ByteArray), j < k → fs[j]? = some (p, t) → p ≠ x) → fs[k]? = some (x, t) → findF fs x = (t, true) := by
  induction fs with
  | nil => intro k _ h; simp at h
  | cons f fs ih =>
    intro k h hk
    cases k with
    | zero => simp at hk; subst hk; simp [findF]
    | succ k =>
      rw [findF, if_neg (h 0 f.1 f.2 (by omega) rfl)]
      exact ih (k := k) (fun j p t hj hjj => h (j + 1) p t (by omega) (by simpa using hjj)) (by simpa using hk)

/-- none of the first k files has this path -/
def notTo (fs : List Fl) (x : ByteArray) (k : Nat) : Prop := ∀ (j : Nat) (p t : ByteArray), j < k → fs[j]? = some (p, t) → p ≠ x
theorem notTo_zero (fs : List Fl) (x : ByteArray) : notTo fs x 0 := fun j p t h => absurd h (by omega)
theorem notTo_step {fs : List Fl} {x p t : ByteArray} {k : Nat} (h : notTo fs x k) (hg : fs[k]? = some (p, t)) (hp : ¬ p = x) : notTo fs x (k + 1) := by
  intro j p' t' hj hg'
  by_cases e : j = k
  · subst e; rw [hg] at hg'; cases hg'; exact hp
  · exact h j p' t' (by omega) hg'
theorem notTo_all {fs : List Fl} {x : ByteArray} {n : Nat} (hl : fs.length = n) (h : notTo fs x n) : findF fs x = (.empty, false) :=
  findF_none fun j p t hj => h j p t (by have := (List.getElem?_eq_some_iff.1 hj).1; omega) hj

/-- the bytes of the text of a list of files -/
def fmtF (fs : List Fl) : List UInt8 := fs.flatMap fun f => f.1.data.toList ++ [32] ++ f.2.data.toList ++ [10]
def fmtS (fs : List Fl) : ByteArray := if validB fs = true then ⟨(fmtF fs).toArray⟩ else .empty
theorem fmtF_take_succ {fs : List Fl} {k : Nat} {p t : ByteArray} (h : fs[k]? = some (p, t)) : fmtF (fs.take (k + 1)) = fmtF (fs.take k) ++ p.data.toList ++ [32] ++ t.data.toList ++ [10] := by
  unfold fmtF
  rw [List.take_add_one, h]
  simp
theorem okTo_le {fs : List Fl} {k n : Nat} (h : okTo fs n = true) (hk : k < n) : okAt fs k = true := by
  unfold okTo at h
  rw [List.all_eq_true] at h
  exact h k (by simpa using hk)
theorem okAt_sizes {fs : List Fl} {k : Nat} {p t : ByteArray} (h : okAt fs k = true) (hg : fs[k]? = some (p, t)) : p.size ≤ 8 ∧ t.size ≤ 60 := by
  unfold okAt at h
  rw [hg] at h
  simp only [Bool.and_eq_true] at h
  exact ⟨((pathB_iff p).1 h.1.1).2.1, ((textB_iff t).1 h.1.2).1⟩
theorem valid_sizes {fs : List Fl} (h : validB fs = true) {k : Nat} {p t : ByteArray} (hg : fs[k]? = some (p, t)) : p.size ≤ 8 ∧ t.size ≤ 60 := by
  unfold validB at h
  simp only [Bool.and_eq_true] at h
  exact okAt_sizes (okTo_le h.2 (List.getElem?_eq_some_iff.1 hg).1) hg
theorem valid_length {fs : List Fl} (h : validB fs = true) : fs.length ≤ 12 := by
  unfold validB at h
  simp only [Bool.and_eq_true, decide_eq_true_eq] at h
  exact h.1
theorem fmtF_length {fs : List Fl} (h : validB fs = true) : ∀ {k : Nat}, k ≤ fs.length → (fmtF (fs.take k)).length ≤ 70 * k := by
  intro k
  induction k with
  | zero => intro _; simp [fmtF]
  | succ k ih =>
    intro hk
    have hg : fs[k]? = some (fs[k].1, fs[k].2) := List.getElem?_eq_getElem (by omega)
    have := ih (by omega)
    have hs := valid_sizes h hg
    have e1 : fs[k].1.data.size ≤ 8 := hs.1
    have e2 : fs[k].2.data.size ≤ 60 := hs.2
    rw [fmtF_take_succ hg]
    simp only [List.length_append, Array.length_toList, List.length_cons, List.length_nil]
    omega

theorem add_none (b off i : Nat) : (⟨b, off, none⟩ : Addr).add i = ⟨b, off + i, none⟩ := by
  unfold Addr.add; by_cases h : i = 0 <;> simp [h]

/-- the slice at a of n elements reads as the files fs and lies below block B -/
def FilesAt (w : World) (B : Nat) (a : Option Addr) (n : Nat) (fs : List Fl) : Prop :=
  fs.length = n ∧ (0 < n → ∃ b off, a = some ⟨b, off, none⟩ ∧ b < B ∧ ∀ j u, (fcells fs)[j]? = some u → w.cell? ⟨b, off + j, none⟩ = some u)

section
variable {w w' : World} {B B' n : Nat} {a : Option Addr} {fs : List Fl}
theorem FilesAt.get (h : FilesAt w B a n fs) {k : Nat} (hk : k < n) :
    ∃ b off p t, a = some ⟨b, off, none⟩ ∧ b < B ∧ fs[k]? = some (p, t) ∧ w.cell? ⟨b, off + k * 2, none⟩ = some (.string p) ∧ w.cell? ⟨b, off + k * 2 + 1, none⟩ = some (.string t) := by
  obtain ⟨b, off, ha, hb, hc⟩ := h.2 (by omega)
  have hl : k < fs.length := by have := h.1; omega
  have hg : fs[k]? = some (fs[k].1, fs[k].2) := List.getElem?_eq_getElem hl
  obtain ⟨h1, h2⟩ := fcells_get fs hg
  exact ⟨b, off, _, _, ha, hb, hg, hc _ _ h1, by have := hc _ _ h2; rwa [← Nat.add_assoc] at this⟩
theorem FilesAt.keep (h : FilesAt w B a n fs) (hk : ∀ p : Addr, p.block < B → w'.cell? p = w.cell? p) : FilesAt w' B a n fs :=
  ⟨h.1, fun hn => by
    obtain ⟨b, off, ha, hb, hc⟩ := h.2 hn
    exact ⟨b, off, ha, hb, fun j u hu => (hk ⟨b, off + j, none⟩ hb).trans (hc j u hu)⟩⟩
theorem FilesAt.more (h : FilesAt w B a n fs) (hB : B ≤ B') : FilesAt w B' a n fs :=
  ⟨h.1, fun hn => by
    obtain ⟨b, off, ha, hb, hc⟩ := h.2 hn
    exact ⟨b, off, ha, by omega, hc⟩⟩
theorem FilesAt.below (h : FilesAt w B a n fs) (hb : Below B w w') : FilesAt w' B a n fs := h.keep fun _ hp => hb.cell hp
theorem FilesAt.drew (h : FilesAt w B a n fs) : FilesAt w.drew B a n fs := h
theorem FilesAt.drewN (h : FilesAt w B a n fs) (k : Nat) : FilesAt (w.drewN k) B a n fs := h
theorem FilesAt.alloc (h : FilesAt w B a n fs) (hB : B ≤ w.heap.size) (o : Obj) : FilesAt (w.alloc o) B a n fs := h.keep fun p hp => World.cell?_alloc_lt w o p (by omega)
end

theorem make_row {P : Program} (t e : TypeId) (i : TypeInfo) (z : Value) (ht : P.underlying t = some (.slice e)) (hi : P.info? e = some i) (hz : i.zero = some z)
    (kl kc : IntKind) (n c : Nat) (hnc : n ≤ c) (hbytes : i.bytes * c ≤ 281474976710656) (h63 : c ≤ 9223372036854775807) (w : World) :
    (Instr.makeSlice t (.int kl (n : Int)) (.int kc (c : Int))).run P w = .ok (.slice (some ⟨w.heap.size, 0, none⟩) n c) (w.alloc (.cells (madeCells z.cells (c * i.size)) e)) := by
  have hb : (i.bytes : Int) * (c : Int) ≤ 281474976710656 := by
    have h : ((i.bytes * c : Nat) : Int) ≤ 281474976710656 := by omega
    rwa [Int.natCast_mul] at h
  have hr := run_make (P := P) w t e i z ht hi hz kl kc n c (by omega) (by omega) hb (by omega)
  simp only [Int.toNat_natCast] at hr
  exact hr

theorem blk_lt {w : World} {g : Nat} {o : Obj} (h : w.heap[g]? = some o) : g < w.heap.size := by
  rcases Nat.lt_or_ge g w.heap.size with hlt | hge
  · exact hlt
  · rw [Array.getElem?_eq_none hge] at h; cases h
theorem blk_frozen {w : World} {g : Nat} {e : TypeId} {cs : Array Value} (h : w.heap[g]? = some (.cells cs e (0, 0))) (i : Nat) : w.frozen? ⟨g, i, none⟩ = false := by
  simp [World.frozen?, h]

theorem blk_set {w : World} {g : Nat} {e : TypeId} {cs : Array Value} (h : w.heap[g]? = some (.cells cs e (0, 0))) (i : Nat) (u : Value) :
    (w.setCell ⟨g, i, none⟩ u).heap[g]? = some (.cells (cs.setIfInBounds i u) e (0, 0)) := by
  simp [World.setCell, Array.getElem?_modify, h]
theorem fill_two {l xs : List Value} {k : Nat} (u v : Value) (hl : k * 2 + 1 < l.length) (h : l.take (k * 2) = xs) :
    ((l.set (k * 2) u).set (k * 2 + 1) v).take ((k + 1) * 2) = xs ++ [u, v] := by
  subst h
  rw [show (k + 1) * 2 = k * 2 + 1 + 1 from by omega, List.take_add_one, List.take_add_one]
  simp [List.take_set_of_le, hl, show k * 2 < l.length from by omega]
theorem fcells_take_succ {fs : List Fl} {k : Nat} {p t : ByteArray} (h : fs[k]? = some (p, t)) : fcells (fs.take (k + 1)) = fcells (fs.take k) ++ [.string p, .string t] := by
  rw [List.take_add_one, h, fcells_append]
  simp [fcells]
theorem fill_file {cur : Array Value} {fs : List Fl} {n k : Nat} {p t : ByteArray} (hsz : cur.size = n * 2) (hk : k < n) (hcur : cur.toList.take (k * 2) = fcells (fs.take k)) (hg : fs[k]? = some (p, t)) :
    (((cur.setIfInBounds (k * 2) (.string p)).setIfInBounds (k * 2 + 1) (.string t)).toList).take ((k + 1) * 2) = fcells (fs.take (k + 1)) := by
  rw [fcells_take_succ hg]
  have := fill_two (l := cur.toList) (k := k) (.string p) (.string t) (by simp; omega) hcur
  simpa using this

theorem take_eq_succ {fs gs : List Fl} {k : Nat} {p t p' t' : ByteArray} (h : fs.take k = gs.take k) (h1 : fs[k]? = some (p, t)) (h2 : gs[k]? = some (p', t')) (he : (p, t) = (p', t')) : fs.take (k + 1) = gs.take (k + 1) := by
  rw [List.take_add_one, List.take_add_one, h1, h2, h, he]
theorem ne_of_get {fs gs : List Fl} {k : Nat} {p t p' t' : ByteArray} (h1 : fs[k]? = some (p, t)) (h2 : gs[k]? = some (p', t')) (he : ¬ (p, t) = (p', t')) : ¬ fs = gs := by
  rintro rfl
  rw [h1] at h2
  exact he (Option.some.inj h2)

/-- block g is a row of elements of type e that reads as the files fs, none of it frozen -/
def OwnF (w : World) (e : TypeId) (g : Nat) (fs : List Fl) : Prop := w.heap[g]? = some (.cells (fcells fs).toArray e (0, 0))

section
variable {w w' : World} {g : Nat} {e : TypeId} {fs : List Fl}
theorem OwnF.lt (h : OwnF w e g fs) : g < w.heap.size := by
  rcases Nat.lt_or_ge g w.heap.size with hlt | hge
  · exact hlt
  · unfold OwnF at h; rw [Array.getElem?_eq_none hge] at h; cases h
theorem OwnF.cell (h : OwnF w e g fs) (i : Nat) : w.cell? ⟨g, i, none⟩ = (fcells fs)[i]? := by
  have := cell_of_row w g i (fcells fs).toArray e (0, 0) h
  simpa using this
theorem OwnF.frozen (h : OwnF w e g fs) (i : Nat) : w.frozen? ⟨g, i, none⟩ = false := by
  unfold OwnF at h
  simp [World.frozen?, h]
theorem OwnF.drew (h : OwnF w e g fs) : OwnF w.drew e g fs := h
theorem OwnF.drewN (h : OwnF w e g fs) (n : Nat) : OwnF (w.drewN n) e g fs := h
theorem OwnF.alloc (h : OwnF w e g fs) (o : Obj) : OwnF (w.alloc o) e g fs := (Below.heap_alloc w o g h.lt).trans h
theorem OwnF.below {B : Nat} (h : OwnF w e g fs) (hb : Below B w w') (hg : g < B) : OwnF w' e g fs := (hb.block g hg).trans h
theorem OwnF.far (h : OwnF w e g fs) {p : Addr} (hp : g ≠ p.block) (u : Value) : OwnF (w.setCell p u) e g fs := (Below.heap_setCell w p u g hp).trans h
theorem OwnF.in_ {n : Nat} (h : OwnF w e g fs) (hl : fs.length = n) : FilesAt w w.heap.size (some ⟨g, 0, none⟩) n fs :=
  ⟨hl, fun _ => ⟨g, 0, rfl, h.lt, fun j u hu => by rw [Nat.zero_add, h.cell, hu]⟩⟩
theorem OwnF.at_ (h : OwnF w e g fs) : FilesAt w (g + 1) (some ⟨g, 0, none⟩) fs.length fs :=
  ⟨rfl, fun _ => ⟨g, 0, rfl, by omega, fun j u hu => by rw [Nat.zero_add, h.cell, hu]⟩⟩
end

theorem fcells_set1 {s t : ByteArray} : ∀ {fs : List Fl} {k : Nat} {p : ByteArray}, fs[k]? = some (p, t) → fcells (fs.set k (s, t)) = (fcells fs).set (k * 2) (.string s) := by
  intro fs
  induction fs with
  | nil => intro k p h; simp at h
  | cons f fs ih =>
    intro k p h
    cases k with
    | zero => simp at h; subst h; rfl
    | succ k =>
      rw [List.set_cons_succ, fcells_cons, fcells_cons, show (k + 1) * 2 = k * 2 + 1 + 1 from by omega, List.set_cons_succ, List.set_cons_succ, ih (by simpa using h)]
theorem fcells_set2 {s p : ByteArray} : ∀ {fs : List Fl} {k : Nat} {t : ByteArray}, fs[k]? = some (p, t) → fcells (fs.set k (p, s)) = (fcells fs).set (k * 2 + 1) (.string s) := by
  intro fs
  induction fs with
  | nil => intro k t h; simp at h
  | cons f fs ih =>
    intro k t h
    cases k with
    | zero => simp at h; subst h; rfl
    | succ k =>
      rw [List.set_cons_succ, fcells_cons, fcells_cons, show (k + 1) * 2 + 1 = k * 2 + 1 + 1 + 1 from by omega, List.set_cons_succ, List.set_cons_succ, ih (by simpa using h)]
end Go.Proofs.YtceiafncpimihaaGreat

namespace Go.Proofs.YtceiafncpimihaaGreat
set_option linter.unusedVariables false
open Go.RowKit

/-- a list of expressions: none, or a node with its operands, and the nodes behind it -/
inductive Fo where
  | nil
  | node (k : Int) (s : ByteArray) (ks rest : Fo)

namespace Fo
/-- how many nodes stand side by side -/
def len : Fo → Nat
  | .nil => 0
  | .node _ _ _ r => r.len + 1
/-- how many nodes there are at all -/
def size : Fo → Nat
  | .nil => 0
  | .node _ _ ks r => ks.size + r.size + 1
/-- the bytes and operands below -/
def tot : Fo → Nat
  | .nil => 0
  | .node _ s ks r => s.size + ks.len + ks.tot + r.tot
/-- the node at a place -/
def get : Fo → Nat → Option (Int × ByteArray × Fo)
  | .nil, _ => none
  | .node k s ks r, 0 => some (k, s, ks)
  | .node k s ks r, j + 1 => r.get j
/-- texts and lists that a machine holds -/
def Fits : Fo → Prop
  | .nil => True
  | .node _ s ks r => s.size ≤ maxLen ∧ ks.len ≤ maxLen ∧ ks.Fits ∧ r.Fits
theorem size_le : ∀ f : Fo, f.size ≤ f.len + f.tot
  | .nil => Nat.le_refl _
  | .node k s ks r => by have := size_le ks; have := size_le r; simp only [size, len, tot]; omega
theorem len_size : ∀ f : Fo, f.len ≤ f.size
  | .nil => Nat.le_refl _
  | .node k s ks r => by have := len_size r; simp only [size, len]; omega
theorem get_some : ∀ {f : Fo} {j : Nat}, j < f.len → ∃ x, f.get j = some x
  | .node k s ks r, 0, _ => ⟨_, rfl⟩
  | .node k s ks r, j + 1, h => get_some (f := r) (j := j) (by simp only [len] at h; omega)
  | .nil, _, h => absurd h (by simp [len])
theorem get_lt : ∀ {f : Fo} {j : Nat} {x : Int × ByteArray × Fo}, f.get j = some x → j < f.len
  | .nil, _, _, h => by simp [get] at h
  | .node k s ks r, 0, _, _ => by simp [len]
  | .node k s ks r, j + 1, x, h => by have := get_lt (f := r) (j := j) h; simp only [len]; omega
theorem get_size : ∀ {f : Fo} {j : Nat} {k : Int} {s : ByteArray} {ks : Fo}, f.get j = some (k, s, ks) → ks.size + 1 ≤ f.size
  | .nil, _, _, _, _, h => by simp [get] at h
  | .node k s ks r, 0, _, _, _, h => by simp only [get, Option.some.injEq, Prod.mk.injEq] at h; obtain ⟨_, _, rfl⟩ := h; simp only [size]; omega
  | .node k s ks r, j + 1, _, _, _, h => by have := get_size (f := r) (j := j) h; simp only [size]; omega
theorem get_tot : ∀ {f : Fo} {j : Nat} {k : Int} {s : ByteArray} {ks : Fo}, f.get j = some (k, s, ks) → s.size + ks.len + ks.tot ≤ f.tot
  | .nil, _, _, _, _, h => by simp [get] at h
  | .node k s ks r, 0, _, _, _, h => by simp only [get, Option.some.injEq, Prod.mk.injEq] at h; obtain ⟨_, rfl, rfl⟩ := h; simp only [tot]; omega
  | .node k s ks r, j + 1, _, _, _, h => by have := get_tot (f := r) (j := j) h; simp only [tot]; omega
theorem Fits.get : ∀ {f : Fo} {j : Nat} {k : Int} {s : ByteArray} {ks : Fo}, f.Fits → f.get j = some (k, s, ks) → s.size ≤ maxLen ∧ ks.len ≤ maxLen ∧ ks.Fits
  | .nil, _, _, _, _, _, h => by simp [Fo.get] at h
  | .node k s ks r, 0, _, _, _, hf, h => by simp only [Fo.get, Option.some.injEq, Prod.mk.injEq] at h; obtain ⟨_, rfl, rfl⟩ := h; exact ⟨hf.1, hf.2.1, hf.2.2.1⟩
  | .node k s ks r, j + 1, _, _, _, hf, h => Fits.get (f := r) (j := j) hf.2.2.2 h
/-- the nodes from a place on -/
def drop : Fo → Nat → Fo
  | f, 0 => f
  | .nil, _ + 1 => .nil
  | .node _ _ _ r, j + 1 => r.drop j
theorem drop_zero (f : Fo) : f.drop 0 = f := by cases f <;> rfl
theorem drop_get : ∀ {f : Fo} {j : Nat} {k : Int} {s : ByteArray} {ks : Fo}, f.get j = some (k, s, ks) → f.drop j = .node k s ks (f.drop (j + 1))
  | .nil, _, _, _, _, h => by simp [get] at h
  | .node k s ks r, 0, _, _, _, h => by simp only [get, Option.some.injEq, Prod.mk.injEq] at h; obtain ⟨rfl, rfl, rfl⟩ := h; simp [drop, drop_zero]
  | .node k s ks r, j + 1, _, _, _, h => drop_get (f := r) (j := j) h
theorem drop_all : ∀ {f : Fo} {j : Nat}, f.len ≤ j → f.drop j = .nil
  | .nil, 0, _ => rfl
  | .nil, _ + 1, _ => rfl
  | .node k s ks r, 0, h => absurd h (by simp [len])
  | .node k s ks r, j + 1, h => drop_all (f := r) (j := j) (by simp only [len] at h; omega)
/-- two lists with the same nodes at each place are one list -/
theorem ext : ∀ {f g : Fo}, (∀ j, f.get j = g.get j) → f = g
  | .nil, .nil, _ => rfl
  | .nil, .node .., h => by have := h 0; simp [get] at this
  | .node .., .nil, h => by have := h 0; simp [get] at this
  | .node k s ks r, .node k' s' ks' r', h => by
    have h0 := h 0
    simp only [get, Option.some.injEq, Prod.mk.injEq] at h0
    obtain ⟨rfl, rfl, rfl⟩ := h0
    rw [ext (f := r) (g := r') fun j => h (j + 1)]
/-- a list out of its nodes -/
def ofFn (F : Nat → Int × ByteArray × Fo) : Nat → Nat → Fo
  | 0, _ => .nil
  | n + 1, i => .node (F i).1 (F i).2.1 (F i).2.2 (ofFn F n (i + 1))
theorem ofFn_len (F : Nat → Int × ByteArray × Fo) : ∀ n i, (ofFn F n i).len = n
  | 0, _ => rfl
  | n + 1, i => by simp only [ofFn, len, ofFn_len F n]
theorem ofFn_get (F : Nat → Int × ByteArray × Fo) : ∀ {n i j : Nat} {x : Int × ByteArray × Fo}, (ofFn F n i).get j = some x → j < n ∧ x = F (i + j)
  | 0, _, _, _, h => by simp [ofFn, get] at h
  | n + 1, i, 0, x, h => by simp only [ofFn, get, Option.some.injEq] at h; exact ⟨by omega, h.symm⟩
  | n + 1, i, j + 1, x, h => by
    obtain ⟨h1, h2⟩ := ofFn_get F (n := n) (i := i + 1) (j := j) h
    exact ⟨by omega, by rw [h2]; congr 1; omega⟩
theorem ofFn_fits (F : Nat → Int × ByteArray × Fo) : ∀ {n i : Nat}, (∀ j, i ≤ j → j < i + n → (F j).2.1.size ≤ maxLen ∧ (F j).2.2.len ≤ maxLen ∧ (F j).2.2.Fits) → (ofFn F n i).Fits
  | 0, _, _ => trivial
  | n + 1, i, h => ⟨(h i (by omega) (by omega)).1, (h i (by omega) (by omega)).2.1, (h i (by omega) (by omega)).2.2, ofFn_fits F fun j h1 h2 => h j (by omega) (by omega)⟩
end Fo

/-- these nodes lie side by side from a place on; all that they lead to lies in blocks from L to B -/
def Seg (w : World) (L B : Nat) : Fo → Nat → Nat → Prop
  | .nil, _, _ => True
  | .node k s ks r, b, off => w.cell? ⟨b, off, none⟩ = some (.int .i64 k) ∧ w.cell? ⟨b, off + 1, none⟩ = some (.string s) ∧
      (∃ a n c, w.cell? ⟨b, off + 2, none⟩ = some (.slice a n c) ∧ ks.len = n ∧ n ≤ c ∧ (0 < n → ∃ b' off', a = some ⟨b', off', none⟩ ∧ L ≤ b' ∧ b' < B ∧ Seg w L B ks b' off')) ∧
      Seg w L B r b (off + 3)
/-- a slice whose elements are these nodes -/
def KA (w : World) (L B : Nat) (f : Fo) (a : Option Addr) (n : Nat) : Prop := f.len = n ∧ (0 < n → ∃ b off, a = some ⟨b, off, none⟩ ∧ L ≤ b ∧ b < B ∧ Seg w L B f b off)
/-- one node -/
def NodeAt (w : World) (L B : Nat) (k : Int) (s : ByteArray) (ks : Fo) (b off : Nat) : Prop :=
  w.cell? ⟨b, off, none⟩ = some (.int .i64 k) ∧ w.cell? ⟨b, off + 1, none⟩ = some (.string s) ∧ ∃ a n c, w.cell? ⟨b, off + 2, none⟩ = some (.slice a n c) ∧ n ≤ c ∧ KA w L B ks a n
section
variable {w w' : World} {L L' B B' b off n : Nat} {a : Option Addr} {f ks : Fo} {k : Int} {s : ByteArray}
theorem seg_node {r : Fo} : Seg w L B (.node k s ks r) b off ↔ NodeAt w L B k s ks b off ∧ Seg w L B r b (off + 3) :=
  ⟨fun ⟨h1, h2, ⟨a, n, c, h3, h4, h5, h6⟩, h7⟩ => ⟨⟨h1, h2, a, n, c, h3, h5, h4, h6⟩, h7⟩, fun ⟨⟨h1, h2, a, n, c, h3, h5, h4, h6⟩, h7⟩ => ⟨h1, h2, ⟨a, n, c, h3, h4, h5, h6⟩, h7⟩⟩
theorem seg_get : ∀ {f : Fo} {b off j : Nat} {k : Int} {s : ByteArray} {ks : Fo}, Seg w L B f b off → f.get j = some (k, s, ks) → NodeAt w L B k s ks b (off + j * 3)
  | .nil, _, _, _, _, _, _, _, h => by simp [Fo.get] at h
  | .node k s ks r, _, _, 0, _, _, _, hs, h => by
    simp only [Fo.get, Option.some.injEq, Prod.mk.injEq] at h
    obtain ⟨rfl, rfl, rfl⟩ := h
    rw [Nat.zero_mul]
    exact (seg_node.1 hs).1
  | .node k s ks r, b, off, j + 1, _, _, _, hs, h => by
    have := seg_get (f := r) (j := j) (seg_node.1 hs).2 h
    rwa [show off + (j + 1) * 3 = off + 3 + j * 3 from by omega]
theorem seg_of : ∀ {f : Fo} {b off : Nat}, (∀ j k s ks, f.get j = some (k, s, ks) → NodeAt w L B k s ks b (off + j * 3)) → Seg w L B f b off
  | .nil, _, _, _ => trivial
  | .node k s ks r, b, off, h => by
    refine seg_node.2 ⟨?_, seg_of (f := r) fun j k s ks hg => ?_⟩
    · have := h 0 k s ks rfl
      rwa [Nat.zero_mul] at this
    · have := h (j + 1) k s ks hg
      rwa [show off + (j + 1) * 3 = off + 3 + j * 3 from by omega] at this
theorem seg_keep (hL : L' ≤ L) (hB : B ≤ B') (hk : ∀ p : Addr, L ≤ p.block → p.block < B → w'.cell? p = w.cell? p) : ∀ {f : Fo} {b off : Nat}, L ≤ b → b < B → Seg w L B f b off → Seg w' L' B' f b off
  | .nil, _, _, _, _, _ => trivial
  | .node k s ks r, b, off, h1, h2, ⟨c1, c2, ⟨a, n, c, c3, hl, hc, hs⟩, hr⟩ => by
    refine ⟨(hk ⟨b, off, none⟩ h1 h2).trans c1, (hk ⟨b, off + 1, none⟩ h1 h2).trans c2, ⟨a, n, c, (hk ⟨b, off + 2, none⟩ h1 h2).trans c3, hl, hc, fun hn => ?_⟩, seg_keep hL hB hk h1 h2 hr⟩
    obtain ⟨b', off', ha, hb1, hb2, hs'⟩ := hs hn
    exact ⟨b', off', ha, by omega, by omega, seg_keep hL hB hk hb1 hb2 hs'⟩
theorem KA.keep (h : KA w L B f a n) (hL : L' ≤ L) (hB : B ≤ B') (hk : ∀ p : Addr, L ≤ p.block → p.block < B → w'.cell? p = w.cell? p) : KA w' L' B' f a n :=
  ⟨h.1, fun hn => let ⟨b, off, ha, h1, h2, hs⟩ := h.2 hn; ⟨b, off, ha, by omega, by omega, seg_keep hL hB hk h1 h2 hs⟩⟩
theorem KA.more (h : KA w L B f a n) (hL : L' ≤ L) (hB : B ≤ B') : KA w L' B' f a n := h.keep hL hB fun _ _ _ => rfl
theorem KA.below (h : KA w L B f a n) (hb : Below B w w') : KA w' L B f a n := h.keep (Nat.le_refl _) (Nat.le_refl _) fun _ _ hp => hb.cell hp
theorem KA.next (h : KA w L w.heap.size f a n) (hb : Below w.heap.size w w') : KA w' L w'.heap.size f a n := (h.below hb).more (Nat.le_refl _) hb.size
theorem KA.nextB (h : KA w L B f a n) (hB : B ≤ w.heap.size) (hb : Below w.heap.size w w') : KA w' L B f a n := h.below (hb.mono hB)
theorem KA.alloc (h : KA w L B f a n) (hB : B ≤ w.heap.size) (o : Obj) : KA (w.alloc o) L B f a n := h.keep (Nat.le_refl _) (Nat.le_refl _) fun p _ hp => World.cell?_alloc_lt w o p (by omega)
theorem KA.setCell (h : KA w L B f a n) {g : Nat} (hg : g < L ∨ B ≤ g) (i : Nat) (u : Value) : KA (w.setCell ⟨g, i, none⟩ u) L B f a n :=
  h.keep (Nat.le_refl _) (Nat.le_refl _) fun p h1 h2 => World.cell?_setCell_other w _ _ _ (by rintro rfl; simp at h1 h2; omega)
theorem KA.nil : KA w L B .nil a 0 := ⟨rfl, fun h => absurd h (by omega)⟩
theorem KA.get (h : KA w L B f a n) {j : Nat} (hj : j < n) :
    ∃ b off k s ks a' n' c', a = some ⟨b, off, none⟩ ∧ L ≤ b ∧ b < B ∧ f.get j = some (k, s, ks) ∧ w.cell? ⟨b, off + j * 3, none⟩ = some (.int .i64 k) ∧ w.cell? ⟨b, off + j * 3 + 1, none⟩ = some (.string s) ∧
      w.cell? ⟨b, off + j * 3 + 2, none⟩ = some (.slice a' n' c') ∧ n' ≤ c' ∧ KA w L B ks a' n' := by
  obtain ⟨b, off, ha, hb, hc, hs⟩ := h.2 (by omega)
  obtain ⟨⟨k, s, ks⟩, hg⟩ := Fo.get_some (f := f) (j := j) (by have := h.1; omega)
  obtain ⟨h1, h2, a', n', c', h3, h4, h5⟩ := seg_get hs hg
  exact ⟨b, off, k, s, ks, a', n', c', ha, hb, hc, hg, h1, h2, h3, h4, h5⟩
end
end Go.Proofs.YtceiafncpimihaaGreat

namespace Go.Proofs.YtceiafncpimihaaGreat
set_option linter.unusedVariables false
open Go.RowKit

theorem run_append_at {P : Program} (w : World) (base : Nat) (t ty e : TypeId) (i : TypeInfo) (z : Value) (size bytes : Nat) (ht : P.underlying t = some (.slice e)) (hi : P.info? e = some i) (hz : i.zero = some z)
    (hsize : i.size = size) (hby : i.bytes = bytes) (hzs : z.cells.size = size) (hsz : 0 < size)
    (v : Value) (n : Nat) (xs : List Value) (hown : w.ownsRow base e size v n xs)
    (a : Addr) (m c : Nat) (news : List Value) (hl : news.length = m * size) (hnews : ∀ j u, news[j]? = some u → w.cell? (a.add j) = some u) (h1 : ∀ u ∈ news, u.oneCell' = true)
    (h63 : n + m ≤ maxLen) (hbytes : (n + m) * bytes ≤ 140737488355328) (hbase : base ≤ w.heap.size) :
    ∃ v' w', (Builtin.append_ #[t, t] ty #[v, .slice (some a) m c]).run P w = .ok v' w' ∧ w'.ownsRow base e size v' (n + m) (xs ++ news) ∧ w.grownBy w' v.ownBlock ∧
      (v'.ownBlock = v.ownBlock ∨ ∀ g, v'.ownBlock = some g → w.heap.size ≤ g) := by
  obtain ⟨v', w', hr, h2, h3, _⟩ := run_append_own (P := P) w base t ty e i z size bytes ht hi hz hsize hby hzs hsz v n xs hown a m c news hl hnews h1 h63 hbytes hbase
  refine ⟨v', w', hr, h2, h3, ?_⟩
  rcases hown.2 with ⟨rfl, rfl⟩ | ⟨g, cap, cur, rfl, hbg, hg, hnc, hcm, hcs, htake⟩
  · have hx : xs = [] := List.eq_nil_of_length_eq_zero (by simpa using hown.1)
    subst hx
    obtain ⟨v2, w2, hr2, h4, _, _⟩ := run_append_own (P := P) w w.heap.size t ty e i z size bytes ht hi hz hsize hby hzs hsz (.slice none 0 0) 0 [] (World.ownsRow_nil w _ _ _) a m c news hl hnews h1 h63 hbytes (Nat.le_refl _)
    rw [hr2] at hr
    cases hr
    exact .inr fun g hg => (World.ownsRow.lt h4 g hg).1
  · by_cases hroom : n + m ≤ cap
    · have hfit : n * i.size + news.length ≤ cur.size := by rw [hl, hcs, hsize, ← Nat.add_mul]; exact Nat.mul_le_mul_right _ hroom
      have hr2 := run_append_room (P := P) w t ty e i ht hi g n cap cur hg a m c news (by rw [hsize]; exact hl) hnews h1 hroom hfit
      rw [hr2] at hr
      cases hr
      exact .inl rfl
    · have holds : ∀ j u, xs[j]? = some u → w.cell? ((⟨g, 0, none⟩ : Addr).add j) = some u := hown.cells (g := g) rfl
      have hsmall : n + m ≤ 9223372036854775807 := by simp only [maxLen] at h63; omega
      have hr2 := run_append_grow (P := P) w t ty e i z ht hi hz ⟨g, 0, none⟩ n cap xs (by rw [hsize]; exact hown.1) holds a m c news (by rw [hsize]; exact hl) hnews (by omega) (by omega) (growslice_fits (by omega) (by rw [hby]; exact hbytes))
      rw [hr2] at hr
      cases hr
      refine .inr fun g' hg' => ?_
      simp [Value.ownBlock] at hg'
      omega

theorem wp_append_at {P : Program} {o : Oper} {a : Act} {w : World} {K : Act → World → Prop} {Q : Exit → Act → World → Prop} (s x : Operand) (t : TypeId)
    (ho : o.op = .call { callee := .builtin .append, args := #[s, x], argTypes := #[t, t] })
    (base : Nat) (e : TypeId) (i : TypeInfo) (z : Value) (size bytes : Nat) (ht : P.underlying t = some (.slice e)) (hi : P.info? e = some i) (hz : i.zero = some z)
    (hsize : i.size = size) (hby : i.bytes = bytes) (hzs : z.cells.size = size) (hsz : 0 < size)
    (v : Value) (n : Nat) (xs : List Value) (hs : a.eval s = v) (hown : w.ownsRow base e size v n xs)
    (ad : Addr) (m c : Nat) (news : List Value) (hx : a.eval x = .slice (some ad) m c) (hl : news.length = m * size) (hnews : ∀ j u, news[j]? = some u → w.cell? (ad.add j) = some u) (h1 : ∀ u ∈ news, u.oneCell' = true)
    (h63 : n + m ≤ maxLen) (hbytes : (n + m) * bytes ≤ 140737488355328) (hbase : base ≤ w.heap.size)
    (h : ∀ v' w', w'.ownsRow base e size v' (n + m) (xs ++ news) → w.grownBy w' v.ownBlock → (v'.ownBlock = v.ownBlock ∨ ∀ g, v'.ownBlock = some g → w.heap.size ≤ g) → K (a.put o.dst v') w') : o.wp P a w K Q := by
  obtain ⟨v', w', hr, h2, h3, h4⟩ := run_append_at (P := P) w base t o.type e i z size bytes ht hi hz hsize hby hzs hsz v n xs hown ad m c news hl hnews h1 h63 hbytes hbase
  unfold Oper.wp execOp
  simp only [ho, resolve, invoke, builtin, Sem.run_bind, Sem.run_pure, Result.andThen_ok, List.map_toArray, List.map_cons, List.map_nil, hs, hx, hr]
  exact h v' w' h2 h3 h4

theorem wpList_append_at {P : Program} {w : World} {ops : Array Oper} {rest : List Oper} {o : Oper} {a : Act} {Q : Exit → Act → World → Prop} (hgd : o.guard = none) (s x : Operand) (t : TypeId)
    (ho : o.op = .call { callee := .builtin .append, args := #[s, x], argTypes := #[t, t] })
    (base : Nat) (e : TypeId) (i : TypeInfo) (z : Value) (size bytes : Nat) (ht : P.underlying t = some (.slice e)) (hi : P.info? e = some i) (hz : i.zero = some z)
    (hsize : i.size = size) (hby : i.bytes = bytes) (hzs : z.cells.size = size) (hsz : 0 < size)
    (v : Value) (n : Nat) (xs : List Value) (hs : a.eval s = v) (hown : w.ownsRow base e size v n xs)
    (ad : Addr) (m c : Nat) (news : List Value) (hx : a.eval x = .slice (some ad) m c) (hl : news.length = m * size) (hnews : ∀ j u, news[j]? = some u → w.cell? (ad.add j) = some u) (h1 : ∀ u ∈ news, u.oneCell' = true)
    (h63 : n + m ≤ maxLen) (hbytes : (n + m) * bytes ≤ 140737488355328) (hbase : base ≤ w.heap.size)
    (h : ∀ v' w', w'.ownsRow base e size v' (n + m) (xs ++ news) → w.grownBy w' v.ownBlock → (v'.ownBlock = v.ownBlock ∨ ∀ g, v'.ownBlock = some g → w.heap.size ≤ g) → wpList P ops Q rest (a.put o.dst v') w') : wpList P ops Q (o :: rest) a w :=
  wpList_plain hgd fun _ hK => wp_append_at s x t ho base e i z size bytes ht hi hz hsize hby hzs hsz v n xs hs hown ad m c news hx hl hnews h1 h63 hbytes hbase fun v' w' h2 h3 h4 => hK _ _ (h v' w' h2 h3 h4)
end Go.Proofs.YtceiafncpimihaaGreat

namespace Go.Proofs.YtceiafncpimihaaGreat
set_option linter.unusedVariables false
open Go.RowKit

section
variable {w w' : World}
theorem grown_drewN {row : Option Nat} (h : w.grownBy w' row) (n : Nat) : w.grownBy (w'.drewN n) row := ⟨h.os, h.tape, h.output, h.size, h.block⟩
theorem grown_alloc {row : Option Nat} (h : w.grownBy w' row) (o : Obj) : w.grownBy (w'.alloc o) row :=
  ⟨h.os, h.tape, h.output, Nat.le_trans h.size (by simp), fun i hi hne => (Below.heap_alloc w' o i (Nat.lt_of_lt_of_le hi h.size)).trans (h.block i hi hne)⟩
theorem grown_set {g : Nat} (h : w.grownBy w' (some g)) {p : Addr} (hp : p.block = g ∨ w.heap.size ≤ p.block) (u : Value) : w.grownBy (w'.setCell p u) (some g) :=
  ⟨h.os, h.tape, h.output, by simpa [World.setCell] using h.size, fun i hi hne => (Below.heap_setCell w' p u i (by
    rintro rfl
    rcases hp with hp | hp
    · exact hne (by rw [hp])
    · omega)).trans (h.block i hi hne)⟩
end
end Go.Proofs.YtceiafncpimihaaGreat

namespace Go.Proofs.YtceiafncpimihaaGreat
set_option linter.unusedVariables false
set_option linter.unusedSimpArgs false
open Go.RowKit

/-- a block of cells that nothing has frozen -/
def Pln (w : World) (b : Nat) : Prop := ∃ cs T, w.heap[b]? = some (.cells cs T (0, 0))
theorem Pln.block {w w' : World} {b : Nat} (h : Pln w b) (e : w'.heap[b]? = w.heap[b]?) : Pln w' b := let ⟨cs, T, h⟩ := h; ⟨cs, T, e.trans h⟩
theorem Pln.lt {w : World} {b : Nat} (h : Pln w b) : b < w.heap.size := let ⟨_, _, h⟩ := h; blk_lt h
/-- these nodes lie side by side from a place on, in blocks that nothing has frozen -/
def RdF (w : World) : Fo → Nat → Nat → Prop
  | .nil, _, _ => True
  | .node k s ks r, b, off => w.cell? ⟨b, off, none⟩ = some (.int .i64 k) ∧ w.cell? ⟨b, off + 1, none⟩ = some (.string s) ∧
      (∃ a n c, w.cell? ⟨b, off + 2, none⟩ = some (.slice a n c) ∧ ks.len = n ∧ n ≤ c ∧ (0 < n → ∃ b' off', a = some ⟨b', off', none⟩ ∧ Pln w b' ∧ RdF w ks b' off')) ∧ RdF w r b (off + 3)
/-- a slice of such nodes -/
def RdA (w : World) (f : Fo) (a : Option Addr) (n : Nat) : Prop := f.len = n ∧ (0 < n → ∃ b off, a = some ⟨b, off, none⟩ ∧ Pln w b ∧ RdF w f b off)
/-- such a node at a place -/
def RdN (w : World) (k : Int) (s : ByteArray) (ks : Fo) (p : Nat × Nat) : Prop := Pln w p.1 ∧ w.cell? ⟨p.1, p.2, none⟩ = some (.int .i64 k) ∧ w.cell? ⟨p.1, p.2 + 1, none⟩ = some (.string s) ∧
  ∃ a n c, w.cell? ⟨p.1, p.2 + 2, none⟩ = some (.slice a n c) ∧ n ≤ c ∧ RdA w ks a n
/-- the place of an operand -/
def kid : Option Addr → Nat → Nat × Nat
  | some ad, i => (ad.block, ad.off + i * 3)
  | none, _ => (0, 0)
theorem fo_none : ∀ {f : Fo} {j : Nat}, f.len ≤ j → f.get j = none
  | .nil, _, _ => rfl
  | .node _ _ _ r, 0, h => absurd h (by simp [Fo.len])
  | .node _ _ _ r, j + 1, h => fo_none (f := r) (by simp only [Fo.len] at h; omega)
section
variable {w w' : World}
theorem rdF_get : ∀ {f : Fo} {b off j : Nat} {k : Int} {s : ByteArray} {ks : Fo}, Pln w b → RdF w f b off → f.get j = some (k, s, ks) → RdN w k s ks (b, off + j * 3)
  | .nil, _, _, _, _, _, _, _, _, h => by simp [Fo.get] at h
  | .node k s ks r, b, off, 0, _, _, _, hb, ⟨h1, h2, ⟨a, n, c, h3, h4, h5, h6⟩, h7⟩, h => by
    simp only [Fo.get, Option.some.injEq, Prod.mk.injEq] at h
    obtain ⟨rfl, rfl, rfl⟩ := h
    rw [Nat.zero_mul]
    exact ⟨hb, h1, h2, a, n, c, h3, h5, h4, h6⟩
  | .node k s ks r, b, off, j + 1, _, _, _, hb, ⟨_, _, _, h7⟩, h => by
    have := rdF_get (f := r) (j := j) hb h7 h
    rwa [show off + (j + 1) * 3 = off + 3 + j * 3 from by omega]
theorem RdA.get {f : Fo} {a : Option Addr} {n j : Nat} (h : RdA w f a n) (hj : j < n) : ∃ k s ks, f.get j = some (k, s, ks) ∧ RdN w k s ks (kid a j) := by
  obtain ⟨h1, h2⟩ := h
  obtain ⟨b, off, rfl, hb, hf⟩ := h2 (by omega)
  obtain ⟨⟨k, s, ks⟩, hg⟩ := Fo.get_some (f := f) (j := j) (by omega)
  exact ⟨k, s, ks, hg, rdF_get hb hf hg⟩
theorem rdF_keep (hk : ∀ b : Nat, b < w.heap.size → w'.heap[b]? = w.heap[b]?) : ∀ {f : Fo} {b off : Nat}, b < w.heap.size → RdF w f b off → RdF w' f b off
  | .nil, _, _, _, _ => trivial
  | .node k s ks r, b, off, hb, ⟨h1, h2, ⟨a, n, c, h3, h4, h5, h6⟩, h7⟩ => by
    have hc : ∀ i, w'.cell? ⟨b, i, none⟩ = w.cell? ⟨b, i, none⟩ := fun i => World.cell?_of_block (hk b hb)
    refine ⟨(hc _).trans h1, (hc _).trans h2, ⟨a, n, c, (hc _).trans h3, h4, h5, fun hn => ?_⟩, rdF_keep hk hb h7⟩
    obtain ⟨b', off', e, hp, hf⟩ := h6 hn
    exact ⟨b', off', e, hp.block (hk b' hp.lt), rdF_keep hk hp.lt hf⟩
theorem RdA.keep {f : Fo} {a : Option Addr} {n : Nat} (h : RdA w f a n) (hk : ∀ b : Nat, b < w.heap.size → w'.heap[b]? = w.heap[b]?) : RdA w' f a n :=
  ⟨h.1, fun hn => let ⟨b, off, e, hp, hf⟩ := h.2 hn; ⟨b, off, e, hp.block (hk b hp.lt), rdF_keep hk hp.lt hf⟩⟩
theorem RdN.keep {k : Int} {s : ByteArray} {ks : Fo} {p : Nat × Nat} (h : RdN w k s ks p) (hk : ∀ b : Nat, b < w.heap.size → w'.heap[b]? = w.heap[b]?) : RdN w' k s ks p := by
  obtain ⟨h0, h1, h2, a, n, c, h3, h4, h5⟩ := h
  have hc : ∀ i, w'.cell? ⟨p.1, i, none⟩ = w.cell? ⟨p.1, i, none⟩ := fun i => World.cell?_of_block (hk p.1 h0.lt)
  exact ⟨h0.block (hk p.1 h0.lt), (hc _).trans h1, (hc _).trans h2, a, n, c, (hc _).trans h3, h4, h5.keep hk⟩
theorem rdA_inj (N : Nat) : ∀ {ks ks' : Fo} {a : Option Addr} {n : Nat}, ks.size ≤ N → RdA w ks a n → RdA w ks' a n → ks = ks' := by
  induction N with
  | zero =>
    intro ks ks' a n hN h h'
    have := ks.len_size
    have h0 : n = 0 := by rw [← h.1]; omega
    refine Fo.ext fun j => ?_
    rw [fo_none (by rw [h.1]; omega), fo_none (by rw [h'.1]; omega)]
  | succ N ih =>
    intro ks ks' a n hN h h'
    refine Fo.ext fun j => ?_
    by_cases hj : j < n
    · obtain ⟨k, s, f, hg, hr⟩ := h.get hj
      obtain ⟨k', s', f', hg', hr'⟩ := h'.get hj
      obtain ⟨_, h1, h2, a1, n1, c1, h3, _, h5⟩ := hr
      obtain ⟨_, h1', h2', a2, n2, c2, h3', _, h5'⟩ := hr'
      rw [h1] at h1'
      rw [h2] at h2'
      rw [h3] at h3'
      cases h1'
      cases h2'
      cases h3'
      rw [hg, hg', ih (by have := Fo.get_size hg; omega) h5 h5']
    · rw [fo_none (by rw [h.1]; omega), fo_none (by rw [h'.1]; omega)]
/-- one place holds one node -/
theorem RdN.inj {k k' : Int} {s s' : ByteArray} {ks ks' : Fo} {p : Nat × Nat} (h : RdN w k s ks p) (h' : RdN w k' s' ks' p) : k = k' ∧ s = s' ∧ ks = ks' := by
  obtain ⟨_, h1, h2, a1, n1, c1, h3, _, h5⟩ := h
  obtain ⟨_, h1', h2', a2, n2, c2, h3', _, h5'⟩ := h'
  rw [h1] at h1'
  rw [h2] at h2'
  rw [h3] at h3'
  cases h1'
  cases h2'
  cases h3'
  exact ⟨rfl, rfl, rdA_inj ks.size (Nat.le_refl _) h5 h5'⟩
end
end Go.Proofs.YtceiafncpimihaaGreat

namespace Go.Proofs.YtceiafncpimihaaGreat
set_option linter.unusedVariables false
open Go.RowKit

/-- the blocks of the operands of these nodes are plain -/
def PlS (w : World) (L B : Nat) : Fo → Nat → Nat → Prop
  | .nil, _, _ => True
  | .node k s ks r, b, off => (∃ a n c, w.cell? ⟨b, off + 2, none⟩ = some (.slice a n c) ∧ ks.len = n ∧ (0 < n → ∃ b' off', a = some ⟨b', off', none⟩ ∧ L ≤ b' ∧ b' < B ∧ Pln w b' ∧ PlS w L B ks b' off')) ∧ PlS w L B r b (off + 3)
/-- a slice of such nodes -/
def PlA (w : World) (L B : Nat) (f : Fo) (a : Option Addr) (n : Nat) : Prop := f.len = n ∧ (0 < n → ∃ b off, a = some ⟨b, off, none⟩ ∧ L ≤ b ∧ b < B ∧ Pln w b ∧ PlS w L B f b off)
/-- a tree in a range of plain blocks -/
def KP (w : World) (L B : Nat) (f : Fo) (a : Option Addr) (n : Nat) : Prop := KA w L B f a n ∧ PlA w L B f a n
section
variable {w w' : World} {L L' B B' b off n : Nat} {a : Option Addr} {f : Fo}
theorem plS_keep (hL : L' ≤ L) (hB : B ≤ B') (hk : ∀ g : Nat, L ≤ g → g < B → w'.heap[g]? = w.heap[g]?) : ∀ {f : Fo} {b off : Nat}, L ≤ b → b < B → PlS w L B f b off → PlS w' L' B' f b off
  | .nil, _, _, _, _, _ => trivial
  | .node k s ks r, b, off, h1, h2, ⟨⟨a, n, c, h3, hl, h4⟩, h5⟩ => by
    refine ⟨⟨a, n, c, (show w'.cell? ⟨b, off + 2, none⟩ = w.cell? ⟨b, off + 2, none⟩ from World.cell?_of_block (hk b h1 h2)).trans h3, hl, fun hn => ?_⟩, plS_keep hL hB hk h1 h2 h5⟩
    obtain ⟨b', off', e, q1, q2, hp, hs⟩ := h4 hn
    exact ⟨b', off', e, by omega, by omega, hp.block (hk b' q1 q2), plS_keep hL hB hk q1 q2 hs⟩
theorem PlA.keep (h : PlA w L B f a n) (hL : L' ≤ L) (hB : B ≤ B') (hk : ∀ g : Nat, L ≤ g → g < B → w'.heap[g]? = w.heap[g]?) : PlA w' L' B' f a n :=
  ⟨h.1, fun hn => let ⟨b, off, e, q1, q2, hp, hs⟩ := h.2 hn; ⟨b, off, e, by omega, by omega, hp.block (hk b q1 q2), plS_keep hL hB hk q1 q2 hs⟩⟩
theorem KP.keep (h : KP w L B f a n) (hL : L' ≤ L) (hB : B ≤ B') (hk : ∀ g : Nat, L ≤ g → g < B → w'.heap[g]? = w.heap[g]?) : KP w' L' B' f a n :=
  ⟨h.1.keep hL hB fun p h1 h2 => World.cell?_of_block (hk p.block h1 h2), h.2.keep hL hB hk⟩
theorem KP.more (h : KP w L B f a n) (hL : L' ≤ L) (hB : B ≤ B') : KP w L' B' f a n := h.keep hL hB fun _ _ _ => rfl
theorem KP.below (h : KP w L B f a n) (hb : Below B w w') : KP w' L B f a n := h.keep (Nat.le_refl _) (Nat.le_refl _) fun g _ hg => hb.block g hg
theorem KP.alloc (h : KP w L B f a n) (hB : B ≤ w.heap.size) (o : Obj) : KP (w.alloc o) L B f a n := h.keep (Nat.le_refl _) (Nat.le_refl _) fun g _ hg => Below.heap_alloc w o g (by omega)
theorem KP.setCell (h : KP w L B f a n) {g : Nat} (hg : g < L ∨ B ≤ g) (i : Nat) (u : Value) : KP (w.setCell ⟨g, i, none⟩ u) L B f a n :=
  h.keep (Nat.le_refl _) (Nat.le_refl _) fun j h1 h2 => Below.heap_setCell w _ _ j (show j ≠ g by omega)
theorem KP.nil : KP w L B .nil a 0 := ⟨KA.nil, rfl, fun h => absurd h (by omega)⟩
theorem KP.next (h : KP w L w.heap.size f a n) (hb : Below w.heap.size w w') : KP w' L w'.heap.size f a n := (h.below hb).more (Nat.le_refl _) hb.size
/-- a row of one node -/
theorem KP.one {g c : Nat} {k : Int} {s : ByteArray} {ks : Fo} {T : TypeId} {a : Option Addr} (hb : w.heap[g]? = some (.cells #[.int .i64 k, .string s, .slice a ks.len c] T (0, 0))) (hL : L ≤ g) (hB : g < B) (hc : ks.len ≤ c) (hk : KP w L B ks a ks.len) : KP w L B (.node k s ks .nil) (some ⟨g, 0, none⟩) 1 :=
  have h2 : w.cell? ⟨g, 0 + 2, none⟩ = some (.slice a ks.len c) := by rw [cell_of_row _ _ _ _ _ _ hb]; rfl
  ⟨⟨rfl, fun _ => ⟨g, 0, rfl, hL, hB, seg_node.2 ⟨⟨by rw [cell_of_row _ _ _ _ _ _ hb]; rfl, by rw [cell_of_row _ _ _ _ _ _ hb]; rfl, a, ks.len, c, h2, hc, hk.1⟩, trivial⟩⟩⟩, rfl, fun _ => ⟨g, 0, rfl, hL, hB, ⟨_, _, hb⟩, ⟨a, ks.len, c, h2, hk.2.1, hk.2.2⟩, trivial⟩⟩
theorem rdF_ofP : ∀ {f : Fo} {b off : Nat}, Seg w L B f b off → PlS w L' B' f b off → RdF w f b off
  | .nil, _, _, _, _ => trivial
  | .node k s ks r, b, off, ⟨h1, h2, ⟨a, n, c, h3, h4, h5, h6⟩, h7⟩, ⟨⟨a', n', c', h8, _, h10⟩, h11⟩ => by
    rw [h3] at h8
    cases h8
    refine ⟨h1, h2, ⟨a, n, c, h3, h4, h5, fun hn => ?_⟩, rdF_ofP h7 h11⟩
    obtain ⟨b1, o1, e1, _, _, hs⟩ := h6 hn
    obtain ⟨b2, o2, e2, _, _, hp, hk⟩ := h10 hn
    rw [e1] at e2
    cases e2
    exact ⟨b1, o1, e1, hp, rdF_ofP hs hk⟩
/-- .. as eqI_any takes it -/
theorem KP.rd (h : KP w L B f a n) : RdA w f a n := by
  refine ⟨h.1.1, fun hn => ?_⟩
  obtain ⟨b1, o1, e1, _, _, hs⟩ := h.1.2 hn
  obtain ⟨b2, o2, e2, _, _, hp, hk⟩ := h.2.2 hn
  rw [e1] at e2
  cases e2
  exact ⟨b1, o1, e1, hp, rdF_ofP hs hk⟩
end
/-- a row of nodes whose operands are such trees is one -/
theorem plS_of {w : World} {L B : Nat} : ∀ {f : Fo} {b off : Nat}, (∀ j k s ks, f.get j = some (k, s, ks) → ∃ a n c, w.cell? ⟨b, off + j * 3 + 2, none⟩ = some (.slice a n c) ∧ PlA w L B ks a n) → PlS w L B f b off
  | .nil, _, _, _ => trivial
  | .node k s ks r, b, off, h => by
    obtain ⟨a, n, c, h1, h2, h3⟩ := h 0 k s ks rfl
    refine ⟨⟨a, n, c, by simpa using h1, h2, h3⟩, plS_of (f := r) fun j k s ks hg => ?_⟩
    obtain ⟨a, n, c, q1, q2⟩ := h (j + 1) k s ks hg
    exact ⟨a, n, c, by rwa [show off + (j + 1) * 3 + 2 = off + 3 + j * 3 + 2 from by omega] at q1, q2⟩
end Go.Proofs.YtceiafncpimihaaGreat

namespace Go.Proofs.YtceiafncpimihaaGreat
set_option linter.unusedVariables false
set_option linter.unusedSimpArgs false
open Go.RowKit

namespace Fo
/-- one more node behind the others -/
def snoc : Fo → Int → ByteArray → Fo → Fo
  | .nil, k, s, ks => .node k s ks .nil
  | .node k' s' ks' r, k, s, ks => .node k' s' ks' (r.snoc k s ks)
theorem snoc_len : ∀ (f : Fo) (k : Int) (s : ByteArray) (ks : Fo), (f.snoc k s ks).len = f.len + 1
  | .nil, _, _, _ => rfl
  | .node _ _ _ r, k, s, ks => by simp only [snoc, len, snoc_len r]
theorem snoc_size : ∀ (f : Fo) (k : Int) (s : ByteArray) (ks : Fo), (f.snoc k s ks).size = f.size + ks.size + 1
  | .nil, _, _, _ => by simp [snoc, size]
  | .node _ _ _ r, k, s, ks => by simp only [snoc, size, snoc_size r]; omega
theorem snoc_fits : ∀ {f : Fo} {k : Int} {s : ByteArray} {ks : Fo}, f.Fits → s.size ≤ maxLen → ks.len ≤ maxLen → ks.Fits → (f.snoc k s ks).Fits
  | .nil, _, _, _, _, h1, h2, h3 => ⟨h1, h2, h3, trivial⟩
  | .node _ _ _ r, _, _, _, h, h1, h2, h3 => ⟨h.1, h.2.1, h.2.2.1, snoc_fits (f := r) h.2.2.2 h1 h2 h3⟩
theorem snoc_drop : ∀ {f : Fo} {j : Nat} {k : Int} {s : ByteArray} {ks : Fo}, f.get j = some (k, s, ks) → ∀ g : Fo, (∀ i, i < j → g.get i = f.get i) → g.len = j → ∀ i, i < j + 1 → (g.snoc k s ks).get i = f.get i := by
  have key : ∀ (g : Fo) (k : Int) (s : ByteArray) (ks : Fo), (∀ i, i < g.len → (g.snoc k s ks).get i = g.get i) ∧ (g.snoc k s ks).get g.len = some (k, s, ks) := by
    intro g
    induction g with
    | nil => exact fun k s ks => ⟨fun i h => absurd h (by simp [len]), rfl⟩
    | node k' s' ks' r _ ih =>
      refine fun k s ks => ⟨fun i h => ?_, (ih k s ks).2⟩
      cases i with
      | zero => rfl
      | succ i => exact (ih k s ks).1 i (by simp only [len] at h; omega)
  intro f j k s ks hg g h1 h2 i hi
  subst h2
  by_cases e : i = g.len
  · subst e
    rw [(key g k s ks).2, hg]
  · rw [(key g k s ks).1 i (by omega)]
    exact h1 i (by omega)
end Fo

/-- the cells of a row of nodes; og: the block of the row -/
def RowT (w : World) (L B : Nat) (og : Option Nat) : Fo → List Value → Prop
  | .nil, xs => xs = []
  | .node k s ks r, xs => (∃ a n c ys, xs = .int .i64 k :: .string s :: .slice a n c :: ys ∧ n ≤ c ∧ (∃ L1 B1, KP w L1 B1 ks a n ∧ L ≤ L1 ∧ B1 ≤ B ∧ ∀ g, og = some g → g < L1 ∨ B1 ≤ g) ∧ RowT w L B og r ys)
section
variable {w w' : World} {L L' B B' b off : Nat} {og og' : Option Nat} {k : Int} {s : ByteArray} {ks : Fo}
theorem rowT_len : ∀ {f : Fo} {xs : List Value}, RowT w L B og f xs → xs.length = f.len * 3
  | .nil, _, h => by simp only [RowT] at h; subst h; rfl
  | .node k s ks r, _, ⟨a, n, c, ys, e, _, _, h⟩ => by subst e; have := rowT_len h; simp only [List.length_cons, Fo.len, this]; omega
theorem rowT_keep (hL : L' ≤ L) (hB : B ≤ B') (ho : ∀ g, og' = some g → og = some g ∨ g < L ∨ B ≤ g) (hk : ∀ g : Nat, L ≤ g → g < B → og ≠ some g → w'.heap[g]? = w.heap[g]?) : ∀ {f : Fo} {xs : List Value}, RowT w L B og f xs → RowT w' L' B' og' f xs
  | .nil, _, h => h
  | .node k s ks r, _, ⟨a, n, c, ys, e, hc, ⟨L1, B1, h1, h2, h3, h4⟩, h⟩ =>
    ⟨a, n, c, ys, e, hc, ⟨L1, B1, h1.keep (Nat.le_refl _) (Nat.le_refl _) fun g h5 h6 => hk g (by omega) (by omega) (fun e => by have := h4 _ e; omega), by omega, by omega, fun g hg => by
      rcases ho g hg with h | h | h
      · exact h4 g h
      · exact .inl (by omega)
      · exact .inr (by omega)⟩, rowT_keep hL hB ho hk h⟩
theorem rowT_snoc {a : Option Addr} {n c L1 B1 : Nat} (hc : n ≤ c) (h1 : KP w L1 B1 ks a n) (h2 : L ≤ L1) (h3 : B1 ≤ B) (h4 : ∀ g, og = some g → g < L1 ∨ B1 ≤ g) :
    ∀ {f : Fo} {xs : List Value}, RowT w L B og f xs → RowT w L B og (f.snoc k s ks) (xs ++ [.int .i64 k, .string s, .slice a n c])
  | .nil, _, h => by simp only [RowT] at h; subst h; exact ⟨a, n, c, [], rfl, hc, ⟨L1, B1, h1, h2, h3, h4⟩, rfl⟩
  | .node k s ks r, _, ⟨a', n', c', ys, e, hc', h5, h⟩ => by subst e; exact ⟨a', n', c', _, rfl, hc', h5, rowT_snoc hc h1 h2 h3 h4 h⟩
theorem rowT_seg : ∀ {f : Fo} {xs : List Value} {off : Nat}, RowT w L B og f xs → (∀ j u, xs[j]? = some u → w.cell? ⟨b, off + j, none⟩ = some u) → Seg w L B f b off
  | .nil, _, _, _, _ => trivial
  | .node k s ks r, _, off, ⟨a, n, c, ys, e, hc, ⟨L1, B1, h1, h2, h3, h4⟩, h⟩, hcell => by
    subst e
    refine seg_node.2 ⟨⟨hcell 0 _ rfl, hcell 1 _ rfl, a, n, c, hcell 2 _ rfl, hc, (h1.more h2 h3).1⟩, rowT_seg h fun j u hu => ?_⟩
    have := hcell (j + 3) u (by simpa using hu)
    rwa [show off + 3 + j = off + (j + 3) from by omega]
end

section
variable {w : World} {L B b off : Nat} {og : Option Nat}
theorem rowT_pl : ∀ {f : Fo} {xs : List Value} {off : Nat}, RowT w L B og f xs → (∀ j u, xs[j]? = some u → w.cell? ⟨b, off + j, none⟩ = some u) → PlS w L B f b off
  | .nil, _, _, _, _ => trivial
  | .node k s ks r, _, off, ⟨a, n, c, ys, e, hc, ⟨L1, B1, h1, h2, h3, h4⟩, h⟩, hcell => by
    subst e
    refine ⟨⟨a, n, c, hcell 2 _ rfl, (h1.more h2 h3).2.1, (h1.more h2 h3).2.2⟩, rowT_pl h fun j u hu => ?_⟩
    have := hcell (j + 3) u (by simpa using hu)
    rwa [show off + 3 + j = off + (j + 3) from by omega]
end
/-- a list of expressions of one's own -/
def OwnT (w : World) (base : Nat) (v : Value) (f : Fo) : Prop := ∃ xs, w.ownsRow base 43 3 v f.len xs ∧ RowT w base w.heap.size v.ownBlock f xs
theorem exprs_under : Tryz.prog.underlying 41 = some (.slice 43) := by kernel_rfl
theorem expr_info3 : (Tryz.prog.info? 43).map (fun i => (i.zero, i.size, i.bytes)) = some (some (.agg #[.int .i64 0, .string .empty, .slice none 0 0]), 3, 48) := by kernel_rfl
section
variable {w w' : World} {base base' : Nat} {v v' : Value} {f : Fo} {r : Option Nat}
theorem OwnT.nil (w : World) (base : Nat) : OwnT w base (.slice none 0 0) .nil := ⟨[], World.ownsRow_nil _ _ _ _, rfl⟩
theorem OwnT.lt (h : OwnT w base v f) : ∀ g, v.ownBlock = some g → base ≤ g ∧ g < w.heap.size := by
  obtain ⟨xs, h1, _⟩ := h
  exact World.ownsRow.lt h1
theorem OwnT.grown (h : OwnT w base v f) (hg : w.grownBy w' r) (hr : ∀ g, r = some g → g < base ∨ w.heap.size ≤ g) : OwnT w' base v f := by
  obtain ⟨xs, h1, h2⟩ := h
  refine ⟨xs, World.ownsRow.kept h1 hg ?_, rowT_keep (Nat.le_refl _) hg.size (fun g hg => .inl hg) (fun g h3 h4 _ => hg.block g h4 (fun e => by have := hr _ e.symm; omega)) h2⟩
  cases hv : v.ownBlock with
  | none => exact .inl rfl
  | some g => exact .inr fun e => by have := World.ownsRow.lt h1 g hv; have := hr g e.symm; omega
theorem OwnT.alloc (h : OwnT w base v f) (o : Obj) : OwnT (w.alloc o) base v f := h.grown (World.grownBy_alloc w o none) fun g e => by cases e
theorem OwnT.below (h : OwnT w base v f) (hb : Below w.heap.size w w') : OwnT w' base v f := h.grown (r := none) ⟨hb.os, hb.tape, hb.output, hb.size, fun i hi _ => hb.block i hi⟩ fun g e => by cases e
theorem OwnT.setCell (h : OwnT w base v f) {g : Nat} (hg : g < base) (i : Nat) (u : Value) : OwnT (w.setCell ⟨g, i, none⟩ u) base v f :=
  h.grown (r := some g) (grown_set (World.grownBy.refl w _) (.inl rfl) u) fun j e => by injection e with e; omega
theorem OwnT.drewN (h : OwnT w base v f) (m : Nat) : OwnT (w.drewN m) base v f := h.grown (grown_drewN (World.grownBy.refl w none) m) fun j e => by cases e
theorem OwnT.mono (h : OwnT w base v f) (hb : base' ≤ base) : OwnT w base' v f := by
  obtain ⟨xs, h1, h2⟩ := h
  exact ⟨xs, World.ownsRow.mono h1 hb, rowT_keep hb (Nat.le_refl _) (fun g hg => .inl hg) (fun _ _ _ _ => rfl) h2⟩
/-- as a slice that can be read -/
theorem OwnT.form (h : OwnT w base v f) : ∃ a c, v = .slice a f.len c ∧ f.len ≤ c ∧ c ≤ maxLen ∧ KP w base w.heap.size f a f.len := by
  obtain ⟨xs, h1, h2⟩ := h
  rcases h1.2 with ⟨rfl, h0⟩ | ⟨g, cap, cur, rfl, hb, hg, hc, hm, _⟩
  · exact ⟨none, 0, by rw [h0], by omega, by simp [maxLen], ⟨rfl, fun h => absurd h (by omega)⟩, rfl, fun h => absurd h (by omega)⟩
  · have hcell : ∀ j u, xs[j]? = some u → w.cell? ⟨g, 0 + j, none⟩ = some u := fun j u hu => by
      have := World.ownsRow.cells h1 (g := g) rfl j u hu
      rwa [add_none] at this
    exact ⟨_, cap, rfl, hc, hm, ⟨rfl, fun _ => ⟨g, 0, rfl, hb, blk_lt hg, rowT_seg h2 hcell⟩⟩, rfl, fun _ => ⟨g, 0, rfl, hb, blk_lt hg, ⟨_, _, hg⟩, rowT_pl h2 hcell⟩⟩
/-- one more node -/
theorem OwnT.snoc {k : Int} {s : ByteArray} {ks : Fo} {a : Option Addr} {n c L1 B1 : Nat} {xs : List Value} (h2 : RowT w base w.heap.size v.ownBlock f xs) (hown : w'.ownsRow base 43 3 v' (f.len + 1) (xs ++ [.int .i64 k, .string s, .slice a n c]))
    (hg : w.grownBy w' v.ownBlock) (ho : v'.ownBlock = v.ownBlock ∨ ∀ g, v'.ownBlock = some g → w.heap.size ≤ g) (hc : n ≤ c) (hk : KP w L1 B1 ks a n) (hL : base ≤ L1) (hB : B1 ≤ w.heap.size) (hown1 : ∀ g, v.ownBlock = some g → g < L1 ∨ B1 ≤ g) : OwnT w' base v' (f.snoc k s ks) := by
  refine ⟨_, by rw [Fo.snoc_len]; exact hown, ?_⟩
  have h3 := rowT_snoc (k := k) (s := s) hc hk hL hB hown1 h2
  refine rowT_keep (Nat.le_refl _) hg.size (fun g e => ?_) (fun g h4 h5 h6 => hg.block g h5 (fun e => h6 e.symm)) h3
  rcases ho with ho | ho
  · exact .inl (ho ▸ e)
  · exact .inr (.inr (ho g e))
end
theorem wpList_append_node {w : World} {ops : Array Oper} {rest : List Oper} {o : Oper} {a : Act} {Q : Exit → Act → World → Prop} (hgd : o.guard = none) (s x : Operand)
    (ho : o.op = .call { callee := .builtin .append, args := #[s, x], argTypes := #[41, 41] })
    (base : Nat) (v : Value) (f : Fo) (hs : a.eval s = v) (hown : OwnT w base v f) (g c1 : Nat) (hx : a.eval x = .slice (some ⟨g, 0, none⟩) 1 c1)
    (k : Int) (t : ByteArray) (ks : Fo) (ad : Option Addr) (n c L1 B1 : Nat) {T : TypeId} (hbx : w.heap[g]? = some (.cells #[.int .i64 k, .string t, .slice ad n c] T (0, 0))) (hc : n ≤ c) (hk : KP w L1 B1 ks ad n) (hL : base ≤ L1) (hB : B1 ≤ w.heap.size) (hown1 : ∀ g, v.ownBlock = some g → g < L1 ∨ B1 ≤ g)
    (h63 : f.len ≤ 1000000000) (hbase : base ≤ w.heap.size)
    (h : ∀ v' w', OwnT w' base v' (f.snoc k t ks) → w.grownBy w' v.ownBlock → (v'.ownBlock = v.ownBlock ∨ ∀ g, v'.ownBlock = some g → w.heap.size ≤ g) → wpList Tryz.prog ops Q rest (a.put o.dst v') w') : wpList Tryz.prog ops Q (o :: rest) a w := by
  obtain ⟨i, hi, hz0, hz1, hz2⟩ := info_parts expr_info3
  obtain ⟨xs, h1, h2⟩ := hown
  refine wpList_append_at hgd s x 41 ho base 43 i _ 3 48 exprs_under hi hz0 hz1 hz2 rfl (by decide) v f.len xs hs h1 ⟨g, 0, none⟩ 1 c1 [.int .i64 k, .string t, .slice ad n c] hx rfl ?_ (by simp [Value.oneCell']) (by simp only [maxLen]; omega) (by omega) hbase fun v' w' h3 h4 h5 => h v' w' (OwnT.snoc h2 h3 h4 h5 hc hk hL hB hown1) h4 h5
  intro j u hu
  rw [add_none, cell_of_row _ _ _ _ _ _ hbx]
  simpa using hu
theorem OwnT.some {w : World} {base : Nat} {v : Value} {f : Fo} (h : OwnT w base v f) (hn : 0 < f.len) : ∃ g cap, v = .slice (some ⟨g, 0, none⟩) f.len cap ∧ base ≤ g ∧ g < w.heap.size := by
  obtain ⟨xs, h1, _⟩ := h
  exact World.ownsRow.form h1 hn
/-- one more node, at a step of a region that draws -/
theorem step_append_node {w : World} {ops : Array Oper} {o : Oper} {a : Act} {K : Act → World → Prop} {Q : Exit → Act → World → Prop} {E : Prop} (hgd : o.guard = none) (s x : Operand)
    (ho : o.op = .call { callee := .builtin .append, args := #[s, x], argTypes := #[41, 41] })
    (base : Nat) (v : Value) (f : Fo) (hs : a.eval s = v) (hown : OwnT w base v f) (g c1 : Nat) (hx : a.eval x = .slice (some ⟨g, 0, none⟩) 1 c1)
    (k : Int) (t : ByteArray) (ks : Fo) (ad : Option Addr) (n c L1 B1 : Nat) {T : TypeId} (hbx : w.heap[g]? = some (.cells #[.int .i64 k, .string t, .slice ad n c] T (0, 0))) (hc : n ≤ c) (hk : KP w L1 B1 ks ad n) (hL : base ≤ L1) (hB : B1 ≤ w.heap.size) (hown1 : ∀ g, v.ownBlock = some g → g < L1 ∨ B1 ≤ g)
    (h63 : f.len ≤ 1000000000) (hbase : base ≤ w.heap.size)
    (h : ∀ g cap w', OwnT w' base (.slice (some ⟨g, 0, none⟩) (f.len + 1) cap) (f.snoc k t ks) → w.grownBy w' v.ownBlock → g < w'.heap.size → base ≤ g → K (a.put o.dst (.slice (some ⟨g, 0, none⟩) (f.len + 1) cap)) w') :
    if Region.wanted o (yielded ops a.tmps) = true then Oper.wp Tryz.prog o a w K Q else E := by
  have hw : Region.wanted o (yielded ops a.tmps) = true := by simp [Region.wanted, hgd]
  rw [if_pos hw]
  obtain ⟨i, hi, hz0, hz1, hz2⟩ := info_parts expr_info3
  obtain ⟨xs, h1, h2⟩ := hown
  refine wp_append_at s x 41 ho base 43 i _ 3 48 exprs_under hi hz0 hz1 hz2 rfl (by decide) v f.len xs hs h1 ⟨g, 0, none⟩ 1 c1 [.int .i64 k, .string t, .slice ad n c] hx rfl ?_ (by simp [Value.oneCell']) (by simp only [maxLen]; omega) (by omega) hbase fun v' w' h3 h4 h5 => ?_
  · intro j u hu
    rw [add_none, cell_of_row _ _ _ _ _ _ hbx]
    simpa using hu
  · have h6 := OwnT.snoc h2 h3 h4 h5 hc hk hL hB hown1
    obtain ⟨g', cap', rfl, h7, h8⟩ := h6.some (by rw [Fo.snoc_len]; omega)
    rw [Fo.snoc_len] at h6 ⊢
    exact h g' cap' w' h6 h4 h8 h7
end Go.Proofs.YtceiafncpimihaaGreat

namespace Go.Proofs.YtceiafncpimihaaGreat
set_option linter.unusedVariables false
open Go.RowKit

/-- the slice at a of n bytes is readable below block B -/
def BytesAt (w : World) (B : Nat) (a : Option Addr) (n : Nat) : Prop :=
  0 < n → ∃ b off, a = some ⟨b, off, none⟩ ∧ b < B ∧ ∀ i, i < n → ∃ z : Int, 0 ≤ z ∧ z ≤ 255 ∧ w.cell? ⟨b, off + i, none⟩ = some (.int .u8 z)

/-- block R is a reader: its bytes (at most 2000) lie below B, it has been asked p times -/
structure Rd (w : World) (B R : Nat) (a : Option Addr) (n c p : Nat) : Prop where
  le : B ≤ R
  bytes : BytesAt w B a n
  small : n ≤ 2000
  b : w.cell? ⟨R, 0, none⟩ = some (.slice a n c)
  p : w.cell? ⟨R, 1, none⟩ = some (.int .i64 p)
  fb : w.frozen? ⟨R, 0, none⟩ = false
  fp : w.frozen? ⟨R, 1, none⟩ = false
  two : ∀ i, w.cell? ⟨R, i + 2, none⟩ = none

theorem ofInt_i64 (a : Nat) (ha : a < 9223372036854775808) : (BitVec.ofInt 64 (a : Int)).toNat = a := by
  rw [BitVec.ofInt_natCast, BitVec.toNat_ofNat]; exact Nat.mod_eq_of_lt (by omega)
theorem i64_xor_nat (a b : Nat) (ha : a < 9223372036854775808) (hb : b < 9223372036854775808) : bits .xor .i64 (a : Int) (b : Int) = ((a ^^^ b : Nat) : Int) := by
  have hx : a ^^^ b < 2 ^ 63 := Nat.xor_lt_two_pow (by omega) (by omega)
  show IntKind.i64.wrap ((BitVec.ofInt 64 (a : Int) ^^^ BitVec.ofInt 64 (b : Int)).toNat : Int) = _
  rw [BitVec.toNat_xor, ofInt_i64 a ha, ofInt_i64 b hb, IntKind.wrap_i64]
  omega
theorem xor_pos (a b : Int) (ha : 0 ≤ a) (hb : 0 ≤ b) (ha2 : a ≤ 1099511627776) (hb2 : b ≤ 1099511627776) : 0 ≤ bits .xor .i64 a b := by
  obtain ⟨x, rfl⟩ := Int.eq_ofNat_of_zero_le ha
  obtain ⟨y, rfl⟩ := Int.eq_ofNat_of_zero_le hb
  rw [i64_xor_nat x y (by omega) (by omega)]
  exact Int.natCast_nonneg _

/-- what pick leaves: a number below m, the reader asked once more -/
def PickPost (m : Int) (R p : Nat) (w : World) (e : Ending) (w' : World) : Prop :=
  (∃ x : Int, e = .returned (.int .i64 x) ∧ 0 ≤ x ∧ (1 ≤ m → x < m) ∧ (m < 1 → x = 0)) ∧ ∃ k, w' = (w.setCell ⟨R, 1, none⟩ (.int .i64 ((p : Int) + 1))).drewN k

theorem tmod_nat (p n : Nat) : (p : Int).tmod (n : Int) = ((p % n : Nat) : Int) := rfl
theorem tdiv_nat (p n : Nat) : (p : Int).tdiv (n : Int) = ((p / n : Nat) : Int) := rfl

set_option maxHeartbeats 1000000 in
theorem pick_far (n c p b off R r1 r2 d : Nat) (m z1 z2 : Int) (w : World) (hn : n ≤ 2000) (hn0 : 0 < n) (hp : p ≤ 1073741824) (hm1 : 1 ≤ m) (hm2 : m ≤ 1048576) (hnp : n ≤ p) (hbR : b < R)
    (hr1 : r1 < n) (hr2 : r2 < n) (hd : d ≤ 1073741824) (e1 : (p : Int).tmod n = (r1 : Int)) (e2 : ((p : Int) * 7 + 3).tmod n = (r2 : Int)) (e3 : (p : Int).tdiv n = (d : Int))
    (hb : w.cell? ⟨R, 0, none⟩ = some (.slice (some ⟨b, off, none⟩) n c)) (hpc : w.cell? ⟨R, 1, none⟩ = some (.int .i64 p)) (hf : w.frozen? ⟨R, 1, none⟩ = false)
    (h1 : w.cell? ⟨b, off + r1, none⟩ = some (.int .u8 z1)) (h2 : w.cell? ⟨b, off + r2, none⟩ = some (.int .u8 z2)) (h10 : 0 ≤ z1) (h11 : z1 ≤ 255) (h20 : 0 ≤ z2) (h21 : z2 ≤ 255) :
    Calls Tryz.prog 30 #[.pointer (some ⟨R, 0, none⟩), .int .i64 m] w fun e w' =>
      PickPost m R p w e w' := by
  have hz : ((n : Int) == 0) = false := by simp; omega
  have hm0 : decide (m < 1) = false := by simp; omega
  have g1 : (w.setCell ⟨R, 1, none⟩ (.int .i64 ((p : Int) + 1))).cell? ⟨b, off + r1, none⟩ = some (.int .u8 z1) := (World.cell?_setCell_other w _ _ _ (by simp; try omega)).trans h1
  have g2 : (w.setCell ⟨R, 1, none⟩ (.int .i64 ((p : Int) + 1))).cell? ⟨b, off + r2, none⟩ = some (.int .u8 z2) := (World.cell?_setCell_other w _ _ _ (by simp; try omega)).trans h2
  have hlt : ¬ p < n := by omega
  have hn1 : ¬ n = 0 := by omega
  have hn2 : ((n : Int) = 0) = False := by simp; omega
  have hr1' : (r1 : Int) < (n : Int) := by omega
  have hr2' : (r2 : Int) < (n : Int) := by omega
  have i1 : IntKind.i64.wrap (z1 * 131) = z1 * 131 := IntWalk.i64_in _ (by omega)
  have i2 : IntKind.i64.wrap ((p : Int) * 7) = (p : Int) * 7 := IntWalk.i64_in _ (by omega)
  have i3 : IntKind.i64.wrap ((p : Int) * 7 + 3) = (p : Int) * 7 + 3 := IntWalk.i64_in _ (by omega)
  have i4 : IntKind.i64.wrap (z2 * 1117) = z2 * 1117 := IntWalk.i64_in _ (by omega)
  have i5 : IntKind.i64.wrap (z1 * 131 + z2 * 1117) = z1 * 131 + z2 * 1117 := IntWalk.i64_in _ (by omega)
  have i6 : IntKind.i64.wrap ((p : Int) * 29) = (p : Int) * 29 := IntWalk.i64_in _ (by omega)
  have i7 : IntKind.i64.wrap (z1 * 131 + z2 * 1117 + (p : Int) * 29) = z1 * 131 + z2 * 1117 + (p : Int) * 29 := IntWalk.i64_in _ (by omega)
  have i8 : IntKind.i64.wrap ((d : Int) * 53) = (d : Int) * 53 := IntWalk.i64_in _ (by omega)
  have i9 : IntKind.i64.wrap (z1 * 131 + z2 * 1117 + (p : Int) * 29 + (d : Int) * 53) = z1 * 131 + z2 * 1117 + (p : Int) * 29 + (d : Int) * 53 := IntWalk.i64_in _ (by omega)
  have j1 : IntKind.i64.wrap z1 = z1 := IntWalk.i64_in _ (by omega)
  have j2 : IntKind.i64.wrap z2 = z2 := IntWalk.i64_in _ (by omega)
  have j3 : IntKind.i64.wrap (r1 : Int) = (r1 : Int) := IntWalk.i64_in _ (by omega)
  have j4 : IntKind.i64.wrap (r2 : Int) = (r2 : Int) := IntWalk.i64_in _ (by omega)
  have j5 : IntKind.i64.wrap (d : Int) = (d : Int) := IntWalk.i64_in _ (by omega)
  go_enter Tryz.func30, Tryz.ntmps30
  go_wp2_with fail
  go_quiet (fail)
  go_wp2
  go_ret
  exact ⟨⟨_, rfl, Int.tmod_nonneg _ (xor_pos _ _ (by omega) (by omega) (by omega) (by omega)), fun _ => Int.tmod_lt_of_pos _ (by omega), fun h => absurd h (by omega)⟩, _, rfl⟩

set_option maxHeartbeats 1000000 in
theorem pick_near (n c p b off R : Nat) (m z1 : Int) (w : World) (hn : n ≤ 2000) (hp : p ≤ 1073741824) (hm1 : 1 ≤ m) (hm2 : m ≤ 1048576) (hnp : p < n) (hbR : b < R)
    (hb : w.cell? ⟨R, 0, none⟩ = some (.slice (some ⟨b, off, none⟩) n c)) (hpc : w.cell? ⟨R, 1, none⟩ = some (.int .i64 p)) (hf : w.frozen? ⟨R, 1, none⟩ = false)
    (h1 : w.cell? ⟨b, off + p, none⟩ = some (.int .u8 z1)) (h10 : 0 ≤ z1) (h11 : z1 ≤ 255) :
    Calls Tryz.prog 30 #[.pointer (some ⟨R, 0, none⟩), .int .i64 m] w fun e w' =>
      PickPost m R p w e w' := by
  have hz : ((n : Int) == 0) = false := by simp; omega
  have hm0 : decide (m < 1) = false := by simp; omega
  have g1 : (w.setCell ⟨R, 1, none⟩ (.int .i64 ((p : Int) + 1))).cell? ⟨b, off + p, none⟩ = some (.int .u8 z1) := (World.cell?_setCell_other w _ _ _ (by simp; try omega)).trans h1
  have hnp' : (p : Int) < (n : Int) := by omega
  have hm3 : (m = 0) = False := by simp; omega
  go_enter Tryz.func30, Tryz.ntmps30
  go_wp2
  go_ret
  exact ⟨⟨_, rfl, Int.emod_nonneg _ (by omega), fun _ => Int.emod_lt_of_pos _ (by omega), fun h => absurd h (by omega)⟩, 0, rfl⟩

set_option maxHeartbeats 1000000 in
theorem pick_low (n c p R : Nat) (a : Option Addr) (m : Int) (w : World) (hp : p ≤ 1073741824) (hm1 : m < 1)
    (hb : w.cell? ⟨R, 0, none⟩ = some (.slice a n c)) (hpc : w.cell? ⟨R, 1, none⟩ = some (.int .i64 p)) (hf : w.frozen? ⟨R, 1, none⟩ = false) :
    Calls Tryz.prog 30 #[.pointer (some ⟨R, 0, none⟩), .int .i64 m] w fun e w' =>
      PickPost m R p w e w' := by
  have hm0 : decide (m < 1) = true := by simp; omega
  go_enter Tryz.func30, Tryz.ntmps30
  go_wp2
  go_ret
  exact ⟨⟨_, rfl, by omega, fun h => absurd h (by omega), fun _ => rfl⟩, 0, rfl⟩

set_option maxHeartbeats 1000000 in
theorem pick_none (c p R : Nat) (a : Option Addr) (m : Int) (w : World) (hp : p ≤ 1073741824) (hm1 : 1 ≤ m)
    (hb : w.cell? ⟨R, 0, none⟩ = some (.slice a 0 c)) (hpc : w.cell? ⟨R, 1, none⟩ = some (.int .i64 p)) (hf : w.frozen? ⟨R, 1, none⟩ = false) :
    Calls Tryz.prog 30 #[.pointer (some ⟨R, 0, none⟩), .int .i64 m] w fun e w' =>
      PickPost m R p w e w' := by
  have hm0 : decide (m < 1) = false := by simp; omega
  go_enter Tryz.func30, Tryz.ntmps30
  go_wp2
  go_ret
  exact ⟨⟨_, rfl, by omega, fun _ => by omega, fun h => absurd h (by omega)⟩, 0, rfl⟩

theorem pick_any {n c p B R : Nat} {a : Option Addr} {m : Int} {w : World} (h : Rd w B R a n c p) (hp : p ≤ 1073741824) (hm : m ≤ 1048576) :
    Calls Tryz.prog 30 #[.pointer (some ⟨R, 0, none⟩), .int .i64 m] w fun e w' => PickPost m R p w e w' := by
  by_cases h1 : m < 1
  · exact pick_low n c p R a m w hp h1 h.b h.p h.fp
  by_cases h0 : n = 0
  · subst h0
    exact pick_none c p R a m w hp (by omega) h.b h.p h.fp
  obtain ⟨b, off, rfl, hb, hz⟩ := h.bytes (by omega)
  have hle := h.le
  by_cases hnp : p < n
  · obtain ⟨z1, h10, h11, hc⟩ := hz p hnp
    exact pick_near n c p b off R m z1 w h.small hp (by omega) hm hnp (by omega) h.b h.p h.fp hc h10 h11
  · have k1 : p % n < n := Nat.mod_lt _ (by omega)
    have k2 : (p * 7 + 3) % n < n := Nat.mod_lt _ (by omega)
    obtain ⟨z1, h10, h11, hc1⟩ := hz _ k1
    obtain ⟨z2, h20, h21, hc2⟩ := hz _ k2
    have hd : p / n ≤ p := Nat.div_le_self _ _
    exact pick_far n c p b off R _ _ _ m z1 z2 w h.small (by omega) hp (by omega) hm (by omega) (by omega) k1 k2 (by omega) (tmod_nat p n) (by exact_mod_cast tmod_nat (p * 7 + 3) n) (tdiv_nat p n) h.b h.p h.fp hc1 hc2 h10 h11 h20 h21

/-- what a drawing function leaves: the reader, asked at most k times more; of what was there only the reader has turned -/
structure Step (w w' : World) (B R : Nat) (a : Option Addr) (n c p q k : Nat) : Prop where
  rd : Rd w' B R a n c q
  lo : p ≤ q
  hi : q ≤ p + k
  grown : w.grownBy w' (some R)
  lt : R < w.heap.size

section
variable {w w' w'' : World} {B R n c p q r k l : Nat} {a : Option Addr}
theorem BytesAt.keep (h : BytesAt w B a n) (hk : ∀ i : Addr, i.block < B → w'.cell? i = w.cell? i) : BytesAt w' B a n := fun hn => by
  obtain ⟨b, off, ha, hb, hz⟩ := h hn
  refine ⟨b, off, ha, hb, fun i hi => ?_⟩
  obtain ⟨z, h0, h1, hc⟩ := hz i hi
  exact ⟨z, h0, h1, (hk ⟨b, off + i, none⟩ hb).trans hc⟩
theorem Rd.lt (h : Rd w B R a n c p) : R < w.heap.size := World.block_lt_of_cell? w _ h.b
/-- a reader stays a reader where its block and what lies below stay -/
theorem Rd.keep (h : Rd w B R a n c p) (hk : ∀ i, w'.cell? ⟨R, i, none⟩ = w.cell? ⟨R, i, none⟩) (hf : ∀ i, w'.frozen? ⟨R, i, none⟩ = w.frozen? ⟨R, i, none⟩) (hb : ∀ i : Addr, i.block < B → w'.cell? i = w.cell? i) : Rd w' B R a n c p :=
  ⟨h.le, h.bytes.keep hb, h.small, (hk 0).trans h.b, (hk 1).trans h.p, (hf 0).trans h.fb, (hf 1).trans h.fp, fun i => (hk (i + 2)).trans (h.two i)⟩
theorem Rd.below (h : Rd w B R a n c p) {D : Nat} (hb : Below D w w') (hR : R < D) : Rd w' B R a n c p :=
  h.keep (fun i => hb.cell (p := ⟨R, i, none⟩) hR) (fun i => hb.frozen (p := ⟨R, i, none⟩) hR) (fun i hi => hb.cell (by have := h.le; omega))
theorem Rd.alloc (h : Rd w B R a n c p) (o : Obj) : Rd (w.alloc o) B R a n c p := h.below (D := w.heap.size) ((Below.refl _ _).alloc (Nat.le_refl _) o) h.lt
theorem Rd.drewN (h : Rd w B R a n c p) (k : Nat) : Rd (w.drewN k) B R a n c p := ⟨h.le, h.bytes, h.small, h.b, h.p, h.fb, h.fp, h.two⟩
/-- the reader asked once -/
theorem Rd.asked (h : Rd w B R a n c p) : Rd (w.setCell ⟨R, 1, none⟩ (.int .i64 ((p : Int) + 1))) B R a n c (p + 1) :=
  ⟨h.le, h.bytes.keep fun i hi => World.cell?_setCell_other w _ _ _ (by rintro rfl; have := h.le; simp at hi; omega), h.small,
    (World.cell?_setCell_other w _ _ _ (by simp)).trans h.b, by rw [World.cell?_setCell_same' _ _ _ (by rw [h.p]; rfl)]; rfl, by rw [World.frozen?_setCell]; exact h.fb, by rw [World.frozen?_setCell]; exact h.fp, fun i => (World.cell?_setCell_other w _ _ _ (by simp)).trans (h.two i)⟩

theorem Rd.made (T : TypeId) (hb : BytesAt w w.heap.size a n) (hs : n ≤ 2000) : Rd (w.alloc (.cells #[.slice a n c, .int .i64 0] T)) w.heap.size w.heap.size a n c 0 :=
  ⟨Nat.le_refl _, hb.keep fun i hi => World.cell?_alloc_lt w _ i hi, hs, by rw [cell_of_row _ _ _ _ _ _ (heap_alloc_new w _)]; rfl, by rw [cell_of_row _ _ _ _ _ _ (heap_alloc_new w _)]; rfl,
    blk_frozen (heap_alloc_new w _) 0, blk_frozen (heap_alloc_new w _) 1, fun i => by rw [cell_of_row _ _ _ _ _ _ (heap_alloc_new w _)]; rfl⟩
theorem BytesAt.fewer {m : Nat} (h : BytesAt w B a n) (hm : m ≤ n) : BytesAt w B a m := fun hn => by
  obtain ⟨b, off, ha, hb, hz⟩ := h (by omega)
  exact ⟨b, off, ha, hb, fun i hi => hz i (by omega)⟩

theorem grown_below {row : Option Nat} (h : w.grownBy w' row) (hb : Below w'.heap.size w' w'') : w.grownBy w'' row :=
  ⟨hb.os.trans h.os, hb.tape.trans h.tape, hb.output.trans h.output, Nat.le_trans h.size hb.size, fun i hi hne => (hb.block i (Nat.lt_of_lt_of_le hi h.size)).trans (h.block i hi hne)⟩
theorem grown_trans {row : Option Nat} (h : w.grownBy w' row) (k : w'.grownBy w'' row) : w.grownBy w'' row :=
  ⟨k.os.trans h.os, k.tape.trans h.tape, k.output.trans h.output, Nat.le_trans h.size k.size, fun i hi hne => (k.block i (Nat.lt_of_lt_of_le hi h.size) hne).trans (h.block i hi hne)⟩

theorem Step.refl (h : Rd w B R a n c p) : Step w w B R a n c p p 0 := ⟨h, Nat.le_refl _, Nat.le_refl _, World.grownBy.refl w _, h.lt⟩
theorem Step.trans (h : Step w w' B R a n c p q k) (h' : Step w' w'' B R a n c q r l) : Step w w'' B R a n c p r (k + l) :=
  ⟨h'.rd, by have := h.lo; have := h'.lo; omega, by have := h.hi; have := h'.hi; omega, grown_trans h.grown h'.grown, h.lt⟩
theorem Step.more (h : Step w w' B R a n c p q k) (hl : k ≤ l) : Step w w' B R a n c p q l := ⟨h.rd, h.lo, by have := h.hi; omega, h.grown, h.lt⟩
theorem Step.alloc (h : Step w w' B R a n c p q k) (o : Obj) : Step w (w'.alloc o) B R a n c p q k := ⟨h.rd.alloc o, h.lo, h.hi, grown_alloc h.grown o, h.lt⟩
theorem Step.drewN (h : Step w w' B R a n c p q k) (m : Nat) : Step w (w'.drewN m) B R a n c p q k := ⟨h.rd.drewN m, h.lo, h.hi, grown_drewN h.grown m, h.lt⟩
theorem Step.below (h : Step w w' B R a n c p q k) (hb : Below w'.heap.size w' w'') : Step w w'' B R a n c p q k :=
  ⟨h.rd.below hb h.rd.lt, h.lo, h.hi, grown_below h.grown hb, h.lt⟩
theorem Step.pick (h : Rd w B R a n c p) (j : Nat) : Step w ((w.setCell ⟨R, 1, none⟩ (.int .i64 ((p : Int) + 1))).drewN j) B R a n c p (p + 1) 1 :=
  ⟨h.asked.drewN j, by omega, by omega, grown_drewN (grown_set (World.grownBy.refl w _) (.inl rfl) _) j, h.lt⟩
/-- what lay below the reader's block number .. stays -/
theorem Step.cell (h : Step w w' B R a n c p q k) {i : Addr} (hi : i.block < w.heap.size) (hne : i.block ≠ R) : w'.cell? i = w.cell? i :=
  World.cell?_of_block (h.grown.block i.block hi (fun e => hne (by injection e)))
theorem Step.toBelow (h : Step w w' B R a n c p q k) {D : Nat} (hD : D ≤ R) (hs : D ≤ w.heap.size) : Below D w w' :=
  (Below.refl D w).grown h.grown hs (fun k e => by injection e with e; omega)
/-- a list of files that is readable stays so where the reader is asked -/
theorem FilesAt.step {b : Option Addr} {m : Nat} {fs : List Fl} (h : FilesAt w w.heap.size b m fs) (hr : Rd w B R a n c p) (hs : Step w w' B R a n c p q k) : FilesAt w' w'.heap.size b m fs := by
  refine ⟨h.1, fun hm => ?_⟩
  obtain ⟨g, off, hb, hg, hc⟩ := h.2 hm
  have hne : g ≠ R := by
    rintro rfl
    obtain ⟨g2, off2, p2, t2, e, _, _, h1, _⟩ := h.get hm
    rw [hb] at e
    simp only [Option.some.injEq, Addr.mk.injEq, and_true] at e
    obtain ⟨rfl, rfl⟩ := e
    match off, h1 with
    | 0, h1 => rw [show (0 + 0 * 2 : Nat) = 0 from rfl, hr.b] at h1; simp at h1
    | 1, h1 => rw [show (1 + 0 * 2 : Nat) = 1 from rfl, hr.p] at h1; simp at h1
    | i + 2, h1 => rw [show (i + 2 + 0 * 2 : Nat) = i + 2 from by omega, hr.two] at h1; simp at h1
  exact ⟨g, off, hb, Nat.lt_of_lt_of_le hg hs.grown.size, fun j u hu => (hs.cell (i := ⟨g, off + j, none⟩) hg hne).trans (hc j u hu)⟩
end

/-- pick, for its callers: a number below m, a step of the reader -/
def PickS (m : Int) (w : World) (B R : Nat) (a : Option Addr) (n c p : Nat) (e : Ending) (w' : World) : Prop :=
  (∃ x : Nat, e = .returned (.int .i64 (x : Int)) ∧ (1 ≤ m → (x : Int) < m) ∧ (m < 1 → x = 0)) ∧ Step w w' B R a n c p (p + 1) 1
theorem pick_step {n c p B R : Nat} {a : Option Addr} {m : Int} {w : World} (h : Rd w B R a n c p) (hp : p ≤ 1073741824) (hm : m ≤ 1048576) :
    Calls Tryz.prog 30 #[.pointer (some ⟨R, 0, none⟩), .int .i64 m] w fun e w' => PickS m w B R a n c p e w' := by
  refine (pick_any h hp hm).mono ?_
  rintro e w1 ⟨⟨x, rfl, h0, hlt, hz⟩, k, rfl⟩
  obtain ⟨x, rfl⟩ := Int.eq_ofNat_of_zero_le h0
  exact ⟨⟨x, rfl, hlt, fun h => by have := hz h; omega⟩, Step.pick h k⟩
end Go.Proofs.YtceiafncpimihaaGreat

namespace Go.Proofs.YtceiafncpimihaaGreat
set_option linter.unusedVariables false
open Go.RowKit

/-- what 'of' leaves: a string with Q, the reader asked once more -/
def OfPost (Q : ByteArray → Prop) (w : World) (B R : Nat) (a : Option Addr) (n c p : Nat) (e : Ending) (w' : World) : Prop :=
  (∃ s : ByteArray, e = .returned (.string s) ∧ Q s) ∧ Step w w' B R a n c p (p + 1) 1

/-- the row of strings at block g has Q throughout -/
def StrsAt (w : World) (Q : ByteArray → Prop) (g m : Nat) : Prop := ∀ i, i < m → ∃ s, w.cell? ⟨g, i, none⟩ = some (.string s) ∧ Q s
theorem StrsAt.of_block {w : World} {Q : ByteArray → Prop} {g : Nat} {cs : Array Value} {T : TypeId} {fr : Nat × Nat} (h : w.heap[g]? = some (.cells cs T fr)) (hQ : ∀ u ∈ cs.toList, ∃ s, u = .string s ∧ Q s) : StrsAt w Q g cs.size := by
  intro i hi
  obtain ⟨s, hs, hq⟩ := hQ (cs[i]) (by simp)
  exact ⟨s, by rw [cell_of_row w g i cs T fr h]; simp [hi, hs], hq⟩

set_option maxHeartbeats 400000 in
theorem of_any {n c p B R g m d : Nat} {a : Option Addr} {w : World} {Q : ByteArray → Prop} (h : Rd w B R a n c p) (hp : p ≤ 1073741824) (hm : m ≤ 1048576) (hm1 : 1 ≤ m) (hne : g ≠ R) (hs : StrsAt w Q g m) :
    Calls Tryz.prog 28 #[.pointer (some ⟨R, 0, none⟩), .slice (some ⟨g, 0, none⟩) m d] w fun e w' => OfPost Q w B R a n c p e w' := by
  go_enter Tryz.func28, Tryz.ntmps28
  go_wp2_with fail
  refine (pick_step h hp (by omega)).mono ?_
  rintro e w1 ⟨⟨x, rfl, hlt, _⟩, hst⟩
  have hxm := hlt (by omega)
  obtain ⟨s, hsc, hq⟩ := hs x (by omega)
  have hgl : g < w.heap.size := World.block_lt_of_cell? w _ hsc
  have hsc' : w1.cell? ⟨g, x, none⟩ = some (.string s) := (hst.cell (i := ⟨g, x, none⟩) hgl hne).trans hsc
  clear hlt
  go_wp2_with fail
  go_ret
  exact ⟨⟨s, rfl, hq⟩, hst⟩

/-- 'of' at a list that was just made -/
theorem of_new {n c p B R d : Nat} {a : Option Addr} {w : World} {T : TypeId} {cs : Array Value} (Q : ByteArray → Prop) (m : Nat) (h : Rd w B R a n c p) (hp : p ≤ 1073741824) (hm : m ≤ 1048576) (hm1 : 1 ≤ m) (hsz : cs.size = m) (hQ : ∀ u ∈ cs.toList, ∃ s, u = .string s ∧ Q s) :
    Calls Tryz.prog 28 #[.pointer (some ⟨R, 0, none⟩), .slice (some ⟨w.heap.size, 0, none⟩) m d] (w.alloc (.cells cs T)) fun e w' => OfPost Q (w.alloc (.cells cs T)) B R a n c p e w' := by
  have hR := h.lt
  refine of_any (h.alloc _) hp hm hm1 (by omega) ?_
  rw [← hsz]
  exact StrsAt.of_block (heap_alloc_new w _) hQ

set_option maxHeartbeats 400000 in
theorem open_any (a : Option Addr) (n c : Nat) (w : World) (hb : BytesAt w w.heap.size a n) (hn : n ≤ c) (hc : c ≤ maxLen) :
    Calls Tryz.prog 25 #[.slice a n c] w fun e w' =>
      ∃ g n' c', e = .returned (.pointer (some ⟨g, 0, none⟩)) ∧ w.heap.size ≤ g ∧ Rd w' w.heap.size g a n' c' 0 ∧ Below w.heap.size w w' := by
  unfold maxLen at hc
  by_cases h2 : 2000 < n
  · obtain ⟨b, off, rfl, hbb, hz⟩ := hb (by omega)
    go_enter Tryz.func25, Tryz.ntmps25
    go_wp2
    go_ret
    exact ⟨_, _, _, rfl, Nat.le_refl _, Rd.made _ (hb.fewer (by omega)) (by omega), (Below.refl _ _).alloc (Nat.le_refl _) _⟩
  · go_enter Tryz.func25, Tryz.ntmps25
    go_wp2
    go_ret
    exact ⟨_, _, _, rfl, Nat.le_refl _, Rd.made _ (hb.fewer (by omega)) (by omega), (Below.refl _ _).alloc (Nat.le_refl _) _⟩

/-- what a drawing function of strings leaves -/
def DrawPost (Q : ByteArray → Prop) (w : World) (B R : Nat) (a : Option Addr) (n c p k : Nat) (e : Ending) (w' : World) : Prop :=
  ∃ s q, e = .returned (.string s) ∧ Q s ∧ Step w w' B R a n c p q k

set_option maxHeartbeats 400000 in
theorem text_any {n c p B R : Nat} {a : Option Addr} {w : World} (h : Rd w B R a n c p) (hp : p ≤ 1073741824) :
    Calls Tryz.prog 29 #[.pointer (some ⟨R, 0, none⟩)] w fun e w' => DrawPost (fun s => s.size ≤ 10) w B R a n c p 1 e w' := by
  have hR := h.lt
  go_enter Tryz.func29, Tryz.ntmps29
  go_wp2_with fail
  refine (of_new (fun s => s.size ≤ 10) 9 h hp (by omega) (by omega) rfl ?_).mono ?_
  · simp; decide
  rintro e w1 ⟨⟨s, rfl, hq⟩, hst⟩
  go_wp2_with fail
  go_ret
  exact ⟨s, _, rfl, hq, (((Step.refl h).alloc _).trans hst).more (by omega)⟩

end Go.Proofs.YtceiafncpimihaaGreat

namespace Go.Proofs.YtceiafncpimihaaGreat
set_option linter.unusedVariables false
open Go.RowKit

/-- a row of the call's own stays where the reader is asked -/
theorem row_step {w w' : World} {B R n c p q k base e size m : Nat} {a : Option Addr} {v : Value} {xs : List Value} (h : w.ownsRow base e size v m xs) (hR : R < base) (hs : Step w w' B R a n c p q k) : w'.ownsRow base e size v m xs :=
  World.ownsRow.kept h hs.grown (.inr (fun e => by have := (h.lt R e).1; omega))

theorem Step.setNew {w w' : World} {B R n c p q k g j : Nat} {a : Option Addr} (h : Step w w' B R a n c p q k) (hg : w.heap.size ≤ g) (u : Value) : Step w (w'.setCell ⟨g, j, none⟩ u) B R a n c p q k := by
  have hR := h.lt
  have hB := h.rd.le
  refine ⟨h.rd.keep (fun i => World.cell?_setCell_other w' _ _ _ (by simp; try omega)) (fun i => World.frozen?_setCell ..) (fun i hi => World.cell?_setCell_other w' _ _ _ (by rintro rfl; simp at hi; omega)), h.lo, h.hi, grown_set h.grown (.inr hg) u, h.lt⟩
theorem Step.grew {w w' w'' : World} {B R n c p q k : Nat} {a : Option Addr} {row : Option Nat} (h : Step w w' B R a n c p q k) (hg : w'.grownBy w'' row) (hr : ∀ g, row = some g → w.heap.size ≤ g ∧ g ≠ R) : Step w w'' B R a n c p q k := by
  have hR := h.lt
  have hB := h.rd.le
  have hs := h.grown.size
  have hblk : ∀ i, i < w.heap.size → w''.heap[i]? = w'.heap[i]? := fun i hi => hg.block i (by omega) (fun e => by have := (hr i e.symm).1; omega)
  have hc : ∀ i : Addr, i.block < w.heap.size → w''.cell? i = w'.cell? i := fun i hi => World.cell?_of_block (hblk i.block hi)
  refine ⟨h.rd.keep (fun i => hc _ hR) (fun i => by simp only [World.frozen?, hblk R hR]) (fun i hi => hc i (by omega)), h.lo, h.hi,
    ⟨hg.os.trans h.grown.os, hg.tape.trans h.grown.tape, hg.output.trans h.grown.output, Nat.le_trans hs hg.size, fun i hi hne => (hblk i hi).trans (h.grown.block i hi hne)⟩, h.lt⟩
/-- what 'num' leaves -/
def NumPost (Q : Int → Prop) (w : World) (B R : Nat) (a : Option Addr) (n c p : Nat) (e : Ending) (w' : World) : Prop :=
  (∃ s : Int, e = .returned (.int .i64 s) ∧ Q s) ∧ Step w w' B R a n c p (p + 1) 1
theorem num_new {n c p B R d : Nat} {a : Option Addr} {w : World} {T : TypeId} {cs : Array Value} (Q : Int → Prop) (m : Nat) (h : Rd w B R a n c p) (hp : p ≤ 1073741824) (hm : m ≤ 1048576) (hm1 : 1 ≤ m) (hsz : cs.size = m) (hQ : ∀ u ∈ cs.toList, ∃ s, u = .int .i64 s ∧ Q s) :
    Calls Tryz.prog 58 #[.pointer (some ⟨R, 0, none⟩), .slice (some ⟨w.heap.size, 0, none⟩) m d] (w.alloc (.cells cs T)) fun e w' => NumPost Q (w.alloc (.cells cs T)) B R a n c p e w' := by
  have hR := h.lt
  go_enter Tryz.func58, Tryz.ntmps58
  go_wp2_with fail
  refine (pick_step (h.alloc _) hp (by omega)).mono ?_
  rintro e w1 ⟨⟨x, rfl, hlt, _⟩, hst⟩
  have hxm := hlt (by omega)
  have hxs : x < cs.size := by omega
  obtain ⟨s, hs, hq⟩ := hQ (cs[x]) (by simp)
  have hsc : (w.alloc (.cells cs T)).cell? ⟨w.heap.size, x, none⟩ = some (.int .i64 s) := by rw [cell_of_row _ _ x _ _ _ (heap_alloc_new w _)]; simp [hxs, hs]
  have hsc' : w1.cell? ⟨w.heap.size, x, none⟩ = some (.int .i64 s) := (hst.cell (i := ⟨w.heap.size, x, none⟩) (by simp) (by simp; omega)).trans hsc
  clear hlt hs
  go_wp2_with fail
  go_ret
  exact ⟨⟨s, rfl, hq⟩, hst⟩

set_option maxHeartbeats 400000 in
theorem path_any {n c p B R : Nat} {a : Option Addr} {w : World} (h : Rd w B R a n c p) (hp : p ≤ 1073741824) :
    Calls Tryz.prog 90 #[.pointer (some ⟨R, 0, none⟩)] w fun e w' => DrawPost (fun s => s.size ≤ 10) w B R a n c p 1 e w' := by
  have hR := h.lt
  go_enter Tryz.func90, Tryz.ntmps90
  go_wp2_with fail
  refine (of_new (fun s => s.size ≤ 10) 7 h hp (by omega) (by omega) rfl ?_).mono ?_
  · simp; decide
  rintro e w1 ⟨⟨s, rfl, hq⟩, hst⟩
  go_wp2_with fail
  go_ret
  exact ⟨s, _, rfl, hq, (((Step.refl h).alloc _).trans hst).more (by omega)⟩

end Go.Proofs.YtceiafncpimihaaGreat

namespace Go.Proofs.YtceiafncpimihaaGreat
set_option linter.unusedVariables false
open Go.RowKit

section
variable {w w' : World} {base : Nat} {v : Value} {f : Fo}
theorem OwnT.step {B R n c p q k : Nat} {a : Option Addr} (h : OwnT w base v f) (hR : R < base) (hs : Step w w' B R a n c p q k) : OwnT w' base v f := h.grown hs.grown fun g e => by injection e with e; omega
end
end Go.Proofs.YtceiafncpimihaaGreat

namespace Go.Proofs.YtceiafncpimihaaGreat
set_option linter.unusedVariables false
open Go.RowKit

/-- block g is a box with an expression -/
def BxE (w : World) (g : Nat) (k : Int) (s : ByteArray) (v : Value) (T : TypeId) : Prop := w.heap[g]? = some (.cells #[.int .i64 k, .string s, v] T (0, 0))
section
variable {w w' : World} {g : Nat} {k : Int} {s : ByteArray} {v : Value} {T : TypeId}
theorem BxE.new (w : World) (k : Int) (s : ByteArray) (v : Value) (T : TypeId) : BxE (w.alloc (.cells #[.int .i64 k, .string s, v] T)) w.heap.size k s v T := heap_alloc_new w _
theorem BxE.next (h : BxE w g k s v T) (hB : Below w.heap.size w w') : BxE w' g k s v T := (hB.block g (blk_lt h)).trans h
theorem BxE.c0 (h : BxE w g k s v T) : w.cell? ⟨g, 0, none⟩ = some (.int .i64 k) := by rw [cell_of_row _ _ _ _ _ _ h]; rfl
theorem BxE.c1 (h : BxE w g k s v T) : w.cell? ⟨g, 1, none⟩ = some (.string s) := by rw [cell_of_row _ _ _ _ _ _ h]; rfl
theorem BxE.c2 (h : BxE w g k s v T) : w.cell? ⟨g, 2, none⟩ = some v := by rw [cell_of_row _ _ _ _ _ _ h]; rfl
end
end Go.Proofs.YtceiafncpimihaaGreat

namespace Go.Proofs.YtceiafncpimihaaGreat
set_option linter.unusedVariables false
set_option linter.unusedSimpArgs false
open Go.RowKit

section
variable {w w' : World} {g : Nat} {k : Int} {s : ByteArray} {v : Value} {T : TypeId}
theorem BxE.facts (h : BxE w g k s v T) : w.cell? ⟨g, 0, none⟩ = some (.int .i64 k) ∧ w.cell? ⟨g, 1, none⟩ = some (.string s) ∧ w.cell? ⟨g, 2, none⟩ = some v ∧ w.frozen? ⟨g, 0, none⟩ = false ∧ w.frozen? ⟨g, 1, none⟩ = false ∧ w.frozen? ⟨g, 2, none⟩ = false ∧ g < w.heap.size :=
  ⟨h.c0, h.c1, h.c2, blk_frozen h 0, blk_frozen h 1, blk_frozen h 2, blk_lt h⟩
theorem BxE.grown {r : Option Nat} (h : BxE w g k s v T) (hg : w.grownBy w' r) (hr : r ≠ some g) : BxE w' g k s v T := (hg.block g (blk_lt h) (fun e => hr e.symm)).trans h
theorem BxE.alloc (h : BxE w g k s v T) (o : Obj) : BxE (w.alloc o) g k s v T := h.grown (World.grownBy_alloc w o none) (by simp)
theorem BxE.set2 (h : BxE w g k s v T) (u : Value) : BxE (w.setCell ⟨g, 2, none⟩ u) g k s u T := blk_set h 2 u
theorem BxE.other (h : BxE w g k s v T) {g' : Nat} (hne : g ≠ g') (i : Nat) (u : Value) : BxE (w.setCell ⟨g', i, none⟩ u) g k s v T := (Below.heap_setCell w _ _ g (fun e => hne (by simpa using e))).trans h
end
theorem Fo.size_len : ∀ f : Fo, f.len ≤ f.size
  | .nil => Nat.le_refl _
  | .node k s ks r => by have := Fo.size_len r; simp only [Fo.len, Fo.size]; omega

/-- what l2Copy leaves: the same expression, in memory of its own -/
def CopyP (k : Int) (s : ByteArray) (ks : Fo) (w : World) (e : Ending) (w' : World) : Prop := ∃ v, e = .returned (.agg #[.int .i64 k, .string s, v]) ∧ OwnT w' w.heap.size v ks ∧ Below w.heap.size w w'
/-- between two rounds of l2Copy -/
def CpI (w : World) (k : Int) (s : ByteArray) (ks : Fo) (a : Option Addr) (n c : Nat) (i : Value) (wr : World) : Prop :=
  ∃ (j : Nat) (v : Value) (f : Fo), j ≤ n ∧ i = .int .i64 j ∧ f.len = j ∧ (∀ i, i < j → f.get i = ks.get i) ∧ OwnT wr (w.heap.size + 1 + 1 + 1) v f ∧ BxE wr w.heap.size k s (.slice a n c) 43 ∧ BxE wr (w.heap.size + 1) 0 .empty (.slice none 0 0) 43 ∧ BxE wr (w.heap.size + 1 + 1) k s v 43 ∧ Below w.heap.size w wr

set_option maxRecDepth 100000 in
set_option maxHeartbeats 4000000 in
theorem copy_of (k : Int) (s : ByteArray) (ks : Fo) (N : Nat) (hN : ks.size ≤ N) (hN2 : N ≤ 1048576) (ih : ∀ k' s' ks', Fo.size ks' < ks.size → ∀ (a : Option Addr) (n c : Nat) (w : World), KA w 0 w.heap.size ks' a n → n ≤ c → Calls Tryz.prog 72 #[.agg #[.int .i64 k', .string s', .slice a n c]] w (CopyP k' s' ks' w))
    (a : Option Addr) (n c : Nat) (w : World) (hk : KA w 0 w.heap.size ks a n) (hnc : n ≤ c) :
    Calls Tryz.prog 72 #[.agg #[.int .i64 k, .string s, .slice a n c]] w (CopyP k s ks w) := by
  have hn : n ≤ 1048576 := by have := Fo.size_len ks; have := hk.1; omega
  have hP0 := ((BxE.new w k s (.slice a n c) 43).alloc (.cells #[.int .i64 0, .string .empty, .slice none 0 0] 43)).alloc (.cells #[.int .i64 k, .string s, .slice none 0 0] 43)
  have hG0 := (BxE.new (w.alloc (.cells #[.int .i64 k, .string s, .slice a n c] 43)) 0 .empty (.slice none 0 0) 43).alloc (.cells #[.int .i64 k, .string s, .slice none 0 0] 43)
  have hE0 := BxE.new ((w.alloc (.cells #[.int .i64 k, .string s, .slice a n c] 43)).alloc (.cells #[.int .i64 0, .string .empty, .slice none 0 0] 43)) k s (.slice none 0 0) 43
  have hB0 := (((Below.refl w.heap.size w).alloc (Nat.le_refl _) (.cells #[.int .i64 k, .string s, .slice a n c] 43)).alloc (by simp) (.cells #[.int .i64 0, .string .empty, .slice none 0 0] 43)).alloc (by simp; omega) (.cells #[.int .i64 k, .string s, .slice none 0 0] 43)
  simp only [World.size_alloc] at hG0 hE0
  have Hall := Lib.hid (And.intro hP0 (And.intro hG0 (And.intro hE0 hB0)))
  clear hP0 hG0 hE0 hB0
  go_enter Tryz.func72, Tryz.ntmps72
  go_wp2_with fail
  go_loopw [4] (fun i wr => CpI w k s ks a n c i wr) (fun i _ => n - (intOf i).toNat)
  case atStart => exact ⟨0, _, .nil, Nat.zero_le _, rfl, rfl, fun i h => absurd h (by omega), OwnT.nil _ _, Hall.out.1, Hall.out.2.1, Hall.out.2.2.1, Hall.out.2.2.2⟩
  case round =>
    obtain ⟨j, v, f, hj, rfl, hfl, hget, hown, hpx, hgx, hex, hB⟩ := hrel
    obtain ⟨p0, p1, p2, pf0, pf1, pf2, hpl⟩ := hpx.facts
    obtain ⟨e0, e1, e2, g0, g1, g2, hel⟩ := hex.facts
    by_cases hlt : j < n
    · obtain ⟨b, off, k3, s3, ks3, a3, n3, c3, rfl, _, hb3, hg3, hc1, hc2, hc3, hcap3, hk3⟩ := (hk.below hB).get hlt
      have hjj : (j : Int) < (n : Int) := by omega
      have hj0 : (0 : Int) ≤ (j : Int) := by omega
      have hsz3 := Fo.get_size hg3
      have Hk3 := Lib.hid (show KA wr.drew 0 wr.drew.heap.size ks3 a3 n3 from hk3.keep (Nat.le_refl _) hB.size fun p _ _ => rfl)
      have Hih := Lib.hid (ih k3 s3 ks3 (by omega) a3 n3 c3)
      clear hk3 ih
      go_wp2_with fail
      go_region_law (first
        | (go_simp; go_at_call 72; refine Calls.mono (Hih.out _ Hk3.out hcap3) ?_; rintro e w4 ⟨v4, rfl, hown4, hB4⟩; obtain ⟨a4, d4, rfl, hd4, hm4, hk4⟩ := hown4.form; have hB4' : Below wr.heap.size wr w4 := ((Below.refl wr.heap.size wr).drew).trans hB4; have hown5 := hown.below hB4'; have hex5 := hex.next hB4'; obtain ⟨y0, y1, y2, z0, z1, z2, hl5⟩ := hex5.facts)
        | (refine step_append_node rfl _ _ (by rfl) (w.heap.size + 1 + 1 + 1) v f (by rfl) (hown5.alloc _) w4.heap.size 1 (by rfl) k3 s3 ks3 a4 ks3.len d4 _ _ (heap_alloc_new w4 _) hd4 (hk4.alloc (Nat.le_refl _) _) (by show _ ≤ wr.heap.size; omega) (by simp) (fun g hg => .inl (hown.lt g hg).2) (by omega) (by simp; omega) ?_; intro g cap w6 hown6 hgrow6 hlt6 hbg6; have hex6 := (hex5.alloc (.cells #[.int .i64 k3, .string s3, .slice a4 ks3.len d4] 43)).grown hgrow6 (fun e => by have := (hown.lt _ e).1; omega); obtain ⟨x0, x1, x2, v0, v1, v2, hl6⟩ := hex6.facts))
      all_goals go_wp2_with fail
      all_goals
        rw [hfl] at hown6
        exact ⟨⟨j + 1, _, _, by omega, by go_num, by rw [Fo.snoc_len]; omega, Fo.snoc_drop hg3 f hget hfl, hown6.setCell (Nat.lt_succ_self _) 2 _, (((hpx.next hB4').alloc _).grown hgrow6 (fun e => by have := (hown.lt _ e).1; omega)).other (by omega) 2 _, (((hgx.next hB4').alloc _).grown hgrow6 (fun e => by have := (hown.lt _ e).1; omega)).other (by omega) 2 _, hex6.set2 _, ((((hB.trans (hB4'.mono hB.size)).alloc (by omega) _).grown hgrow6 (by simp; omega) (fun g' e => by have := (hown.lt _ e).1; omega)).setCell (Nat.le_trans (Nat.le_succ _) (Nat.le_succ _)) _)⟩, by simp [intOf]; omega⟩
    · obtain rfl : f = ks := Fo.ext fun i => by
        by_cases hi : i < j
        · exact hget i hi
        · have h1 : f.get i = none := by
            cases hh : f.get i with
            | none => rfl
            | some x => have := Fo.get_lt hh; omega
          have h2 : ks.get i = none := by
            cases hh : ks.get i with
            | none => rfl
            | some x => have := Fo.get_lt hh; have := hk.1; omega
          rw [h1, h2]
      obtain ⟨c0, c1, c2, f0, f1, f2, hl⟩ := hgx.facts
      obtain ⟨av, dv, rfl, hdv, hmv, hkv⟩ := hown.form
      have hjj : ¬ (j : Int) < (n : Int) := by omega
      go_wp2_with fail
      refine bodyPost_ret (v := .agg #[.int .i64 k, .string s, .slice av f.len dv]) (by simp [results, Tryz.results72, go_sem, *]) rfl ?_
      refine ⟨_, rfl, OwnT.mono ?_ (Nat.le_trans (Nat.le_succ _) (Nat.le_trans (Nat.le_succ _) (Nat.le_succ _))), ((hB.setCell (Nat.le_succ _) _).setCell (Nat.le_succ _) _).setCell (Nat.le_succ _) _⟩
      exact ((hown.setCell (by omega) 0 _).setCell (by omega) 1 _).setCell (by omega) 2 _
theorem copy_all (N : Nat) (hN : N ≤ 1048576) : ∀ (k : Int) (s : ByteArray) (ks : Fo), ks.size ≤ N → ∀ (a : Option Addr) (n c : Nat) (w : World), KA w 0 w.heap.size ks a n → n ≤ c → Calls Tryz.prog 72 #[.agg #[.int .i64 k, .string s, .slice a n c]] w (CopyP k s ks w) := by
  induction N with
  | zero => exact fun k s ks h => copy_of k s ks 0 h hN fun k' s' ks' h' => absurd h' (by omega)
  | succ N ih => exact fun k s ks h => copy_of k s ks (N + 1) h hN fun k' s' ks' h' => ih (by omega) k' s' ks' (by omega)

end Go.Proofs.YtceiafncpimihaaGreat

namespace Go.Proofs.YtceiafncpimihaaGreat
set_option linter.unusedVariables false
open Go.RowKit

/-- what a drawing function of expressions leaves: a node whose operands are of its own -/
def TreePost (m : Nat) (w : World) (B R : Nat) (a : Option Addr) (n c p l : Nat) (e : Ending) (w' : World) : Prop :=
  ∃ k s v ks q, e = .returned (.agg #[.int .i64 k, .string s, v]) ∧ OwnT w' w.heap.size v ks ∧ s.size ≤ 100 ∧ ks.Fits ∧ ks.size ≤ m ∧ Step w w' B R a n c p q l
theorem TreePost.fin {m B R n c p q l : Nat} {a : Option Addr} {w w1 : World} {k : Int} {s : ByteArray} {v : Value} {ks : Fo} (hst : Step w w1 B R a n c p q l) (hown : OwnT w1 (w.heap.size + 1) v ks) (hs : s.size ≤ 100) (hf : ks.Fits) (hm : ks.size ≤ m) (u0 u1 u2 : Value) (j : Nat) :
    TreePost m w B R a n c p l (.returned (.agg #[.int .i64 k, .string s, v])) ((((w1.setCell ⟨w.heap.size, 0, none⟩ u0).setCell ⟨w.heap.size, 1, none⟩ u1).setCell ⟨w.heap.size, 2, none⟩ u2).drewN j) := by
  refine ⟨k, s, v, ks, q, rfl, OwnT.mono ?_ (Nat.le_succ _), hs, hf, hm, (((hst.setNew (Nat.le_refl _) u0).setNew (Nat.le_refl _) u1).setNew (Nat.le_refl _) u2).drewN j⟩
  exact (((hown.setCell (Nat.lt_succ_self _) 0 u0).setCell (Nat.lt_succ_self _) 1 u1).setCell (Nat.lt_succ_self _) 2 u2).drewN j

section
variable {w w' : World} {g : Nat} {k : Int} {s : ByteArray} {v : Value} {T : TypeId}
theorem BxE.step {B R n c p q l : Nat} {a : Option Addr} (h : BxE w g k s v T) (hs : Step w w' B R a n c p q l) (hne : g ≠ R) : BxE w' g k s v T := h.grown hs.grown (fun e => hne (by injection e with e; exact e.symm))
end

theorem lit_any (s : ByteArray) (w : World) : Calls Tryz.prog 73 #[.string s] w fun e w' => e = .returned (.agg #[.int .i64 1, .string s, .slice none 0 0]) ∧ Below w.heap.size w w' := by
  go_enter Tryz.func73, Tryz.ntmps73
  go_wp2_with fail
  refine bodyPost_ret (v := .agg #[.int .i64 1, .string s, .slice none 0 0]) (by simp [results, Tryz.results73, go_sem]) rfl ?_
  exact ⟨rfl, (Below.refl _ _).alloc (Nat.le_refl _) _⟩

set_option maxHeartbeats 1000000 in
theorem named_any {n c p B R : Nat} {a : Option Addr} {w : World} (h : Rd w B R a n c p) (hp : p ≤ 1073741824) :
    Calls Tryz.prog 76 #[.pointer (some ⟨R, 0, none⟩)] w fun e w' => TreePost 1 w B R a n c p 1 e w' := by
  have hR := h.lt
  have h0 := (Step.refl h).alloc (.cells #[.int .i64 0, .string .empty, .slice none 0 0] 43)
  have hb0 := BxE.new w 0 .empty (.slice none 0 0) 43
  go_enter Tryz.func76, Tryz.ntmps76
  go_wp2_with fail
  refine (path_any h0.rd (by omega)).mono ?_
  rintro e w2 ⟨s, q, rfl, hs, hst⟩
  go_wp2_with fail
  refine (lit_any s w2).mono ?_
  rintro e w3 ⟨rfl, hB3⟩
  have hb3 := (hb0.step hst (by omega)).next hB3
  have hst3 := (h0.trans hst).below hB3
  obtain ⟨c0, c1, c2, f0, f1, f2, hl⟩ := hb3.facts
  go_wp2_with fail
  refine bodyPost_ret (v := .agg #[.int .i64 2, .string ⟨#[]⟩, .slice (some ⟨w3.heap.size, 0, none⟩) 1 1]) (by simp [results, Tryz.results76, go_sem, *]) rfl ?_
  have key : ∀ V : World, V.heap.size = w3.heap.size → Step w V B R a n c p q (0 + 1) → TreePost 1 w B R a n c p 1 (.returned (.agg #[.int .i64 2, .string ⟨#[]⟩, .slice (some ⟨w3.heap.size, 0, none⟩) 1 1])) (V.alloc (.cells #[.int .i64 1, .string s, .slice none 0 0] 43)) := fun V hV hs' =>
    ⟨2, _, _, .node 1 s .nil .nil, q, rfl, hV ▸ ⟨_, World.ownsRow_lit V #[.int .i64 1, .string s, .slice none 0 0] 1 (by omega) (by simp [maxLen]) rfl, none, 0, 0, [], rfl, Nat.le_refl _, ⟨w.heap.size, w.heap.size, KP.nil, Nat.le_refl _, by simp; omega, fun g hg => by simp [Value.ownBlock] at hg; omega⟩, rfl⟩, by decide, ⟨by unfold maxLen; omega, by simp [Fo.len], trivial, trivial⟩, by simp [Fo.size], (hs'.alloc _).more (by omega)⟩
  exact key _ (by simp [World.setCell]) (((hst3.setNew (Nat.le_refl _) _).setNew (Nat.le_refl _) _).setNew (Nat.le_refl _) _)
end Go.Proofs.YtceiafncpimihaaGreat

namespace Go.Proofs.YtceiafncpimihaaGreat
set_option linter.unusedVariables false
set_option linter.unusedSimpArgs false
open Go.RowKit

/-- how many nodes are below a drawn node, at most -/
def drN : Nat → Nat | 0 => 2 | d + 1 => 4 * drN d + 4
/-- how often the reader is asked, at most -/
def drQ : Nat → Nat | 0 => 4 | d + 1 => 4 * drQ d + 4
theorem TreePost.no0 {m B R n c p l : Nat} {a : Option Addr} {w w' : World} {e : Ending} (h : TreePost m w B R a n c p l e (w'.drewN 0)) : TreePost m w B R a n c p l e w' := h
/-- between two rounds of l2Draw: the operands so far, in the box of the expression (block E, kind k) -/
def DrI (w : World) (B R : Nat) (a : Option Addr) (n c p E : Nat) (k : Int) (d m : Nat) (i : Value) (wr : World) : Prop :=
  ∃ (j q : Nat) (v : Value) (f : Fo), j ≤ m ∧ i = .int .i64 j ∧ f.len = j ∧ OwnT wr (E + 1) v f ∧ BxE wr E k ⟨#[]⟩ v 43 ∧ BxE wr w.heap.size 0 .empty (.slice none 0 0) 43 ∧ f.Fits ∧ f.size ≤ j * (drN d + 1) ∧ Step w wr B R a n c p q (4 + j * drQ d)
theorem drN_pos : ∀ d, 2 ≤ drN d | 0 => by decide | d + 1 => by simp only [drN]; omega

set_option maxHeartbeats 2000000 in
theorem draw_leaf {n c p B R : Nat} {a : Option Addr} {w : World} (d : Nat) (hd : (d : Int) < 2) (h : Rd w B R a n c p) (hp : p + 4 ≤ 1000000000) :
    Calls Tryz.prog 74 #[.pointer (some ⟨R, 0, none⟩), .int .i64 d] w (TreePost 2 w B R a n c p 4) := by
  have hR := h.lt
  have h0 := (Step.refl h).alloc (.cells #[.int .i64 0, .string .empty, .slice none 0 0] 43)
  have hb0 := BxE.new w 0 .empty (.slice none 0 0) 43
  go_enter Tryz.func74, Tryz.ntmps74
  go_wp2_with fail
  have hRl := h0.rd
  have hhi := h0.hi
  refine (pick_step (m := 2) hRl (by omega) (by omega)).mono ?_
  rintro e w2 ⟨⟨y, rfl, _, _⟩, hst2⟩
  have hst02 := h0.trans hst2
  have hb2 := hb0.step hst2 (by omega)
  have hs2 := hst02.grown.size
  by_cases y0 : y = 0
  · subst y0
    go_wp2_with fail
    refine (text_any hst2.rd (by omega)).mono ?_
    rintro e w3 ⟨s, q3, rfl, hs, hst3⟩
    go_wp2_with fail
    refine (lit_any s w3).mono ?_
    rintro e w4 ⟨rfl, hB4⟩
    have hst4 := (hst02.trans hst3).below hB4
    obtain ⟨c0, c1, c2, f0, f1, f2, hl⟩ := ((hb2.step hst3 (by omega)).next hB4).facts
    go_wp2_with fail
    refine bodyPost_ret (v := .agg #[.int .i64 1, .string s, .slice none 0 0]) (by simp [results, Tryz.results74, go_sem, *]) rfl ?_
    exact (TreePost.fin (hst4.more (by omega)) (OwnT.nil _ _) (by omega) trivial (by simp [Fo.size]) _ _ _ 0).no0
  · have hy : ((y : Int) == 0) = false := by rw [beq_eq_false_iff_ne]; omega
    go_wp2_with fail
    refine (named_any hst02.rd (by have := hst02.hi; omega)).mono ?_
    rintro e w5 ⟨k5, s5, v5, ks5, q5, rfl, hown5, hs5, hf5, hz5, hst5⟩
    have hst05 := hst02.trans hst5
    obtain ⟨c0, c1, c2, f0, f1, f2, hl⟩ := (hb2.step hst5 (by omega)).facts
    have hown5' := hown5.mono (base' := w.heap.size + 1) (by have := hst02.grown.size; have := blk_lt hb2; omega)
    obtain ⟨a5, d5, rfl, hd5, hm5, _⟩ := hown5.form
    go_wp2_with fail
    refine bodyPost_ret (v := .agg #[.int .i64 k5, .string s5, .slice a5 ks5.len d5]) (by simp [results, Tryz.results74, go_sem, *]) rfl ?_
    exact (TreePost.fin (hst05.more (by omega)) hown5' hs5 hf5 (by omega) _ _ _ 0).no0

set_option maxRecDepth 100000 in
set_option maxHeartbeats 4000000 in
theorem draw_node {n c p B R : Nat} {a : Option Addr} {w : World} (d : Nat) (hd : 1 ≤ d) (hd2 : d ≤ 6) (h : Rd w B R a n c p) (hp : p + drQ (d + 1) ≤ 1000000000)
    (ih : ∀ (p : Nat) (w : World), Rd w B R a n c p → p + drQ d ≤ 1000000000 → Calls Tryz.prog 74 #[.pointer (some ⟨R, 0, none⟩), .int .i64 d] w (TreePost (drN d) w B R a n c p (drQ d))) :
    Calls Tryz.prog 74 #[.pointer (some ⟨R, 0, none⟩), .int .i64 ((d + 1 : Nat) : Int)] w (TreePost (drN (d + 1)) w B R a n c p (drQ (d + 1))) := by
  have hR := h.lt
  have hdn := drN_pos d
  have hpp : p + (4 * drQ d + 4) ≤ 1000000000 := hp
  have h0 := (Step.refl h).alloc (.cells #[.int .i64 0, .string .empty, .slice none 0 0] 43)
  have hb0 := BxE.new w 0 .empty (.slice none 0 0) 43
  have hwd : IntKind.i64.wrap (d : Int) = d := IntWalk.i64_in _ (by omega)
  have hdd : ¬ ((d + 1 : Nat) : Int) < 2 := by omega
  go_enter Tryz.func74, Tryz.ntmps74
  go_wp2_with fail
  refine (pick_step (m := 5) h0.rd (by omega) (by omega)).mono ?_
  rintro e w1 ⟨⟨x, rfl, _, _⟩, hst1⟩
  have hst01 := h0.trans hst1
  have hb1 := hb0.step hst1 (by omega)
  by_cases x0 : x = 0
  · subst x0
    go_wp2_with fail
    have hRl := hst01.rd
    have hhi := hst01.hi
    refine (pick_step (m := 2) hRl (by omega) (by omega)).mono ?_
    rintro e w2 ⟨⟨y, rfl, _, _⟩, hst2⟩
    have hst02 := hst01.trans hst2
    have hb2 := hb1.step hst2 (by omega)
    have hs2 := hst02.grown.size
    by_cases y0 : y = 0
    · subst y0
      go_wp2_with fail
      refine (text_any hst2.rd (by omega)).mono ?_
      rintro e w3 ⟨s, q3, rfl, hs, hst3⟩
      go_wp2_with fail
      refine (lit_any s w3).mono ?_
      rintro e w4 ⟨rfl, hB4⟩
      have hst4 := (hst02.trans hst3).below hB4
      obtain ⟨c0, c1, c2, f0, f1, f2, hl⟩ := ((hb2.step hst3 (by omega)).next hB4).facts
      go_wp2_with fail
      refine bodyPost_ret (v := .agg #[.int .i64 1, .string s, .slice none 0 0]) (by simp [results, Tryz.results74, go_sem, *]) rfl ?_
      exact (TreePost.fin (hst4.more (by simp only [drQ]; omega)) (OwnT.nil _ _) (by omega) trivial (by simp [Fo.size]) _ _ _ 0).no0
    · have hy : ((y : Int) == 0) = false := by rw [beq_eq_false_iff_ne]; omega
      go_wp2_with fail
      refine (named_any hst02.rd (by have := hst02.hi; omega)).mono ?_
      rintro e w5 ⟨k5, s5, v5, ks5, q5, rfl, hown5, hs5, hf5, hz5, hst5⟩
      have hst05 := hst02.trans hst5
      obtain ⟨c0, c1, c2, f0, f1, f2, hl⟩ := (hb2.step hst5 (by omega)).facts
      have hown5' := hown5.mono (base' := w.heap.size + 1) (by have := hst02.grown.size; have := blk_lt hb2; omega)
      obtain ⟨a5, d5, rfl, hd5, hm5, _⟩ := hown5.form
      go_wp2_with fail
      refine bodyPost_ret (v := .agg #[.int .i64 k5, .string s5, .slice a5 ks5.len d5]) (by simp [results, Tryz.results74, go_sem, *]) rfl ?_
      exact (TreePost.fin (hst05.more (by simp only [drQ]; omega)) hown5' hs5 hf5 (by simp only [drN]; omega) _ _ _ 0).no0
  · have hx : ((x : Int) == 0) = false := by rw [beq_eq_false_iff_ne]; omega
    have hs1 := hst01.grown.size
    have hl1 := blk_lt hb1
    go_wp2_with fail
    refine (num_new (fun s => 2 ≤ s ∧ s ≤ 7) 7 hst01.rd (by have := hst01.hi; omega) (by omega) (by omega) rfl ?_).mono ?_
    · intro u hu
      have hu' : u = .int .i64 3 ∨ u = .int .i64 2 ∨ u = .int .i64 4 ∨ u = .int .i64 5 ∨ u = .int .i64 6 ∨ u = .int .i64 7 ∨ u = .int .i64 3 := by simpa using hu
      rcases hu' with rfl | rfl | rfl | rfl | rfl | rfl | rfl <;> exact ⟨_, rfl, by omega, by omega⟩
    rintro e w2 ⟨⟨k, rfl, hk0, hk1⟩, hst2⟩
    have hst02 := (hst01.alloc _).trans hst2
    have hb2 := (hb1.alloc _).step hst2 (by omega)
    have hl2 := blk_lt hb2
    have hE := BxE.new w2 k ⟨#[]⟩ (.slice none 0 0) 43
    have hstE := hst02.alloc (.cells #[.int .i64 k, .string ⟨#[]⟩, .slice none 0 0] 43)
    have hbE := hb2.alloc (.cells #[.int .i64 k, .string ⟨#[]⟩, .slice none 0 0] 43)
    have hsE : (w2.alloc (.cells #[.int .i64 k, .string ⟨#[]⟩, .slice none 0 0] 43)).heap.size = w2.heap.size + 1 := by simp
    clear hst2 hst1 hst01 hst02 hb1 hb2 hb0 h0
    by_cases k3 : k = 3
    · subst k3
      go_wp2_with fail
      rw [← hsE]
      refine (num_new (fun s => 0 ≤ s ∧ s ≤ 3) 4 hstE.rd (by have := hstE.hi; omega) (by omega) (by omega) rfl ?_).mono ?_
      · intro u hu
        have hu' : u = .int .i64 2 ∨ u = .int .i64 3 ∨ u = .int .i64 1 ∨ u = .int .i64 0 := by simpa using hu
        rcases hu' with rfl | rfl | rfl | rfl <;> exact ⟨_, rfl, by omega, by omega⟩
      rintro e w3 ⟨⟨m, rfl, hm0, hm1⟩, hst3⟩
      obtain ⟨m, rfl⟩ := Int.eq_ofNat_of_zero_le hm0
      have hmm : m ≤ 4 := by omega
      have hst := (hstE.alloc _).trans hst3
      have hE3 := (hE.alloc _).step hst3 (by omega)
      have hb3 := (hbE.alloc _).step hst3 (by omega)
      clear hst3 hstE hbE hE
      have hEl := blk_lt hE3
      go_wp2_with fail
      go_loopw [7] (fun i wr => DrI w B R a n c p w2.heap.size 3 d m i wr) (fun i _ => m - (intOf i).toNat)
      case atStart => exact ⟨0, _, _, .nil, Nat.zero_le _, rfl, rfl, OwnT.nil _ _, hE3, hb3, trivial, by simp [Fo.size], hst.more (by omega)⟩
      case round =>
        obtain ⟨j, q, v, f, hj, rfl, hfl, hown, hex, hbx, hfit, hsz, hst⟩ := hrel
        obtain ⟨e0, e1, e2, g0, g1, g2, hel⟩ := hex.facts
        by_cases hlt : j < m
        · have hjj : (j : Int) < (m : Int) := by omega
          have hq : j * drQ d ≤ 3 * drQ d := Nat.mul_le_mul_right _ (by omega)
          have hhi := hst.hi
          have hrd := hst.rd
          go_wp2_with fail
          go_region_law (first
            | (go_simp; go_at_call 74; refine Calls.mono (ih q _ (by first | exact hrd | exact hrd.drewN 1) (by omega)) ?_; rintro e w4 ⟨k4, s4, v4, ks4, q4, rfl, hown4, hs4, hf4, hz4, hst4⟩; obtain ⟨a4, d4, rfl, hd4, hm4, hk4⟩ := hown4.form; have hst4' := ((Step.refl hrd).drewN 1).trans hst4; have hown5 := hown.step (by omega) hst4'; have hex5 := hex.step hst4' (by omega); have hbx5 := hbx.step hst4' (by omega); obtain ⟨y0, y1, y2, z0, z1, z2, hl5⟩ := hex5.facts)
            | (refine step_append_node rfl _ _ (by rfl) (w2.heap.size + 1) v f (by rfl) (hown5.alloc _) w4.heap.size 1 (by rfl) k4 s4 ks4 a4 ks4.len d4 _ _ (heap_alloc_new w4 _) hd4 (hk4.alloc (Nat.le_refl _) _) (by show _ ≤ wr.heap.size; omega) (by simp) (fun g hg => .inl (hown.lt g hg).2) (by omega) (by simp; omega) ?_; intro g cap w6 hown6 hgrow6 hlt6 hbg6; have hex6 := (hex5.alloc (.cells #[.int .i64 k4, .string s4, .slice a4 ks4.len d4] 43)).grown hgrow6 (fun e => by have := (hown.lt _ e).1; omega); obtain ⟨x0, x1, x2, v0, v1, v2, hl6⟩ := hex6.facts))
          all_goals go_wp2_with fail
          all_goals
            rw [hfl] at hown6
            exact ⟨⟨j + 1, q4, _, _, by omega, by go_num, by rw [Fo.snoc_len]; omega, hown6.setCell (Nat.lt_succ_self _) 2 _, hex6.set2 _, ((hbx5.alloc _).grown hgrow6 (fun e => by have := (hown.lt _ e).1; omega)).other (by omega) 2 _, Fo.snoc_fits hfit (by unfold maxLen; omega) (by omega) hf4, by rw [Fo.snoc_size, Nat.add_mul]; omega, (((hst.trans hst4').alloc _).grew hgrow6 (fun g' e => by have := (hown.lt _ e).1; constructor <;> omega)).setNew (by omega) _ |>.more (by rw [Nat.add_mul]; omega)⟩, by simp [intOf]; omega⟩
        · have hlo := hst.lo
          have hown' := hown.mono (base' := w.heap.size + 1) (by omega)
          have hz5 : j * (drN d + 1) ≤ 4 * (drN d + 1) := Nat.mul_le_mul_right _ (by omega)
          have hq5 : j * drQ d ≤ 4 * drQ d := Nat.mul_le_mul_right _ (by omega)
          obtain ⟨c0, c1, c2, f0, f1, f2, hl⟩ := hbx.facts
          obtain ⟨av, dv, rfl, hdv, hmv, hkv⟩ := hown.form
          have hjj : ¬ (j : Int) < (m : Int) := by omega
          go_wp2_with fail
          refine bodyPost_ret (v := .agg #[.int .i64 3, .string ⟨#[]⟩, .slice av f.len dv]) (by simp [results, Tryz.results74, go_sem, *]) rfl ?_
          exact (TreePost.fin (hst.more (by simp only [drQ]; omega)) hown' (by decide) hfit (by simp only [drN]; omega) _ _ _ 0).no0
    · have h3 : (k == 3) = false := by rw [beq_eq_false_iff_ne]; exact k3
      by_cases k4 : k = 4
      · subst k4
        have hmm : 4 ≤ 4 := Nat.le_refl _
        have hEl := blk_lt hE
        go_wp2_with fail
        go_loopw [7] (fun i wr => DrI w B R a n c p w2.heap.size 4 d 4 i wr) (fun i _ => 4 - (intOf i).toNat)
        case atStart => exact ⟨0, _, _, .nil, Nat.zero_le _, rfl, rfl, OwnT.nil _ _, hE, hbE, trivial, by simp [Fo.size], hstE.more (by omega)⟩
        case round =>
          obtain ⟨j, q, v, f, hj, rfl, hfl, hown, hex, hbx, hfit, hsz, hst⟩ := hrel
          obtain ⟨e0, e1, e2, g0, g1, g2, hel⟩ := hex.facts
          by_cases hlt : j < 4
          · have hjj : (j : Int) < (4 : Int) := by omega
            have hq : j * drQ d ≤ 3 * drQ d := Nat.mul_le_mul_right _ (by omega)
            have hhi := hst.hi
            have hrd := hst.rd
            go_wp2_with fail
            go_region_law (first
              | (go_simp; go_at_call 74; refine Calls.mono (ih q _ (by first | exact hrd | exact hrd.drewN 1) (by omega)) ?_; rintro e w4 ⟨k4, s4, v4, ks4, q4, rfl, hown4, hs4, hf4, hz4, hst4⟩; obtain ⟨a4, d4, rfl, hd4, hm4, hk4⟩ := hown4.form; have hst4' := ((Step.refl hrd).drewN 1).trans hst4; have hown5 := hown.step (by omega) hst4'; have hex5 := hex.step hst4' (by omega); have hbx5 := hbx.step hst4' (by omega); obtain ⟨y0, y1, y2, z0, z1, z2, hl5⟩ := hex5.facts)
              | (refine step_append_node rfl _ _ (by rfl) (w2.heap.size + 1) v f (by rfl) (hown5.alloc _) w4.heap.size 1 (by rfl) k4 s4 ks4 a4 ks4.len d4 _ _ (heap_alloc_new w4 _) hd4 (hk4.alloc (Nat.le_refl _) _) (by show _ ≤ wr.heap.size; omega) (by simp) (fun g hg => .inl (hown.lt g hg).2) (by omega) (by simp; omega) ?_; intro g cap w6 hown6 hgrow6 hlt6 hbg6; have hex6 := (hex5.alloc (.cells #[.int .i64 k4, .string s4, .slice a4 ks4.len d4] 43)).grown hgrow6 (fun e => by have := (hown.lt _ e).1; omega); obtain ⟨x0, x1, x2, v0, v1, v2, hl6⟩ := hex6.facts))
            all_goals go_wp2_with fail
            all_goals
              rw [hfl] at hown6
              exact ⟨⟨j + 1, q4, _, _, by omega, by go_num, by rw [Fo.snoc_len]; omega, hown6.setCell (Nat.lt_succ_self _) 2 _, hex6.set2 _, ((hbx5.alloc _).grown hgrow6 (fun e => by have := (hown.lt _ e).1; omega)).other (by omega) 2 _, Fo.snoc_fits hfit (by unfold maxLen; omega) (by omega) hf4, by rw [Fo.snoc_size, Nat.add_mul]; omega, (((hst.trans hst4').alloc _).grew hgrow6 (fun g' e => by have := (hown.lt _ e).1; constructor <;> omega)).setNew (by omega) _ |>.more (by rw [Nat.add_mul]; omega)⟩, by simp [intOf]; omega⟩
          · have hlo := hst.lo
            have hown' := hown.mono (base' := w.heap.size + 1) (by omega)
            have hz5 : j * (drN d + 1) ≤ 4 * (drN d + 1) := Nat.mul_le_mul_right _ (by omega)
            have hq5 : j * drQ d ≤ 4 * drQ d := Nat.mul_le_mul_right _ (by omega)
            obtain ⟨c0, c1, c2, f0, f1, f2, hl⟩ := hbx.facts
            obtain ⟨av, dv, rfl, hdv, hmv, hkv⟩ := hown.form
            have hjj : ¬ (j : Int) < (4 : Int) := by omega
            go_wp2_with fail
            refine bodyPost_ret (v := .agg #[.int .i64 4, .string ⟨#[]⟩, .slice av f.len dv]) (by simp [results, Tryz.results74, go_sem, *]) rfl ?_
            exact (TreePost.fin (hst.more (by simp only [drQ]; omega)) hown' (by decide) hfit (by simp only [drN]; omega) _ _ _ 0).no0
      · have h4 : (k == 4) = false := by rw [beq_eq_false_iff_ne]; exact k4
        by_cases k2 : k = 2
        · subst k2
          go_wp2_with fail
          refine (pick_step (m := 3) hstE.rd (by have := hstE.hi; omega) (by omega)).mono ?_
          rintro e w3 ⟨⟨z, rfl, _, _⟩, hst3⟩
          have hst := hstE.trans hst3
          have hE3 := hE.step hst3 (by omega)
          have hb3 := hbE.step hst3 (by omega)
          clear hst3 hstE hbE hE
          by_cases hz : 0 < (z : Int)
          · go_wp2_with fail
            refine (named_any hst.rd (by have := hst.hi; omega)).mono ?_
            rintro e w5 ⟨k5, s5, v5, ks5, q5, rfl, hown5, hs5, hf5, hz5, hst5⟩
            have hst05 := hst.trans hst5
            obtain ⟨c0, c1, c2, f0, f1, f2, hl⟩ := (hb3.step hst5 (by omega)).facts
            have hown5' := hown5.mono (base' := w.heap.size + 1) (by have := hst.grown.size; have := blk_lt hb3; omega)
            obtain ⟨a5, d5, rfl, hd5, hm5, _⟩ := hown5.form
            go_wp2_with fail
            refine bodyPost_ret (v := .agg #[.int .i64 k5, .string s5, .slice a5 ks5.len d5]) (by simp [results, Tryz.results74, go_sem, *]) rfl ?_
            exact (TreePost.fin (hst05.more (by simp only [drQ]; omega)) hown5' hs5 hf5 (by simp only [drN]; omega) _ _ _ 0).no0
          · obtain rfl : z = 0 := by omega
            have hmm : 1 ≤ 4 := by omega
            have hEl := blk_lt hE3
            go_wp2_with fail
            go_loopw [7] (fun i wr => DrI w B R a n c p w2.heap.size 2 d 1 i wr) (fun i _ => 1 - (intOf i).toNat)
            case atStart => exact ⟨0, _, _, .nil, Nat.zero_le _, rfl, rfl, OwnT.nil _ _, hE3, hb3, trivial, by simp [Fo.size], hst.more (by omega)⟩
            case round =>
              obtain ⟨j, q, v, f, hj, rfl, hfl, hown, hex, hbx, hfit, hsz, hst⟩ := hrel
              obtain ⟨e0, e1, e2, g0, g1, g2, hel⟩ := hex.facts
              by_cases hlt : j < 1
              · have hjj : (j : Int) < (1 : Int) := by omega
                have hq : j * drQ d ≤ 3 * drQ d := Nat.mul_le_mul_right _ (by omega)
                have hhi := hst.hi
                have hrd := hst.rd
                go_wp2_with fail
                go_region_law (first
                  | (go_simp; go_at_call 74; refine Calls.mono (ih q _ (by first | exact hrd | exact hrd.drewN 1) (by omega)) ?_; rintro e w4 ⟨k4, s4, v4, ks4, q4, rfl, hown4, hs4, hf4, hz4, hst4⟩; obtain ⟨a4, d4, rfl, hd4, hm4, hk4⟩ := hown4.form; have hst4' := ((Step.refl hrd).drewN 1).trans hst4; have hown5 := hown.step (by omega) hst4'; have hex5 := hex.step hst4' (by omega); have hbx5 := hbx.step hst4' (by omega); obtain ⟨y0, y1, y2, z0, z1, z2, hl5⟩ := hex5.facts)
                  | (refine step_append_node rfl _ _ (by rfl) (w2.heap.size + 1) v f (by rfl) (hown5.alloc _) w4.heap.size 1 (by rfl) k4 s4 ks4 a4 ks4.len d4 _ _ (heap_alloc_new w4 _) hd4 (hk4.alloc (Nat.le_refl _) _) (by show _ ≤ wr.heap.size; omega) (by simp) (fun g hg => .inl (hown.lt g hg).2) (by omega) (by simp; omega) ?_; intro g cap w6 hown6 hgrow6 hlt6 hbg6; have hex6 := (hex5.alloc (.cells #[.int .i64 k4, .string s4, .slice a4 ks4.len d4] 43)).grown hgrow6 (fun e => by have := (hown.lt _ e).1; omega); obtain ⟨x0, x1, x2, v0, v1, v2, hl6⟩ := hex6.facts))
                all_goals go_wp2_with fail
                all_goals
                  rw [hfl] at hown6
                  exact ⟨⟨j + 1, q4, _, _, by omega, by go_num, by rw [Fo.snoc_len]; omega, hown6.setCell (Nat.lt_succ_self _) 2 _, hex6.set2 _, ((hbx5.alloc _).grown hgrow6 (fun e => by have := (hown.lt _ e).1; omega)).other (by omega) 2 _, Fo.snoc_fits hfit (by unfold maxLen; omega) (by omega) hf4, by rw [Fo.snoc_size, Nat.add_mul]; omega, (((hst.trans hst4').alloc _).grew hgrow6 (fun g' e => by have := (hown.lt _ e).1; constructor <;> omega)).setNew (by omega) _ |>.more (by rw [Nat.add_mul]; omega)⟩, by simp [intOf]; omega⟩
              · have hlo := hst.lo
                have hown' := hown.mono (base' := w.heap.size + 1) (by omega)
                have hz5 : j * (drN d + 1) ≤ 4 * (drN d + 1) := Nat.mul_le_mul_right _ (by omega)
                have hq5 : j * drQ d ≤ 4 * drQ d := Nat.mul_le_mul_right _ (by omega)
                obtain ⟨c0, c1, c2, f0, f1, f2, hl⟩ := hbx.facts
                obtain ⟨av, dv, rfl, hdv, hmv, hkv⟩ := hown.form
                have hjj : ¬ (j : Int) < (1 : Int) := by omega
                go_wp2_with fail
                refine bodyPost_ret (v := .agg #[.int .i64 2, .string ⟨#[]⟩, .slice av f.len dv]) (by simp [results, Tryz.results74, go_sem, *]) rfl ?_
                exact (TreePost.fin (hst.more (by simp only [drQ]; omega)) hown' (by decide) hfit (by simp only [drN]; omega) _ _ _ 0).no0
        · have h2 : (k == 2) = false := by rw [beq_eq_false_iff_ne]; exact k2
          have hmm : 1 ≤ 4 := by omega
          have hEl := blk_lt hE
          go_wp2_with fail
          go_loopw [7] (fun i wr => DrI w B R a n c p w2.heap.size k d 1 i wr) (fun i _ => 1 - (intOf i).toNat)
          case atStart => exact ⟨0, _, _, .nil, Nat.zero_le _, rfl, rfl, OwnT.nil _ _, hE, hbE, trivial, by simp [Fo.size], hstE.more (by omega)⟩
          case round =>
            obtain ⟨j, q, v, f, hj, rfl, hfl, hown, hex, hbx, hfit, hsz, hst⟩ := hrel
            obtain ⟨e0, e1, e2, g0, g1, g2, hel⟩ := hex.facts
            by_cases hlt : j < 1
            · have hjj : (j : Int) < (1 : Int) := by omega
              have hq : j * drQ d ≤ 3 * drQ d := Nat.mul_le_mul_right _ (by omega)
              have hhi := hst.hi
              have hrd := hst.rd
              go_wp2_with fail
              go_region_law (first
                | (go_simp; go_at_call 74; refine Calls.mono (ih q _ (by first | exact hrd | exact hrd.drewN 1) (by omega)) ?_; rintro e w4 ⟨k4, s4, v4, ks4, q4, rfl, hown4, hs4, hf4, hz4, hst4⟩; obtain ⟨a4, d4, rfl, hd4, hm4, hk4⟩ := hown4.form; have hst4' := ((Step.refl hrd).drewN 1).trans hst4; have hown5 := hown.step (by omega) hst4'; have hex5 := hex.step hst4' (by omega); have hbx5 := hbx.step hst4' (by omega); obtain ⟨y0, y1, y2, z0, z1, z2, hl5⟩ := hex5.facts)
                | (refine step_append_node rfl _ _ (by rfl) (w2.heap.size + 1) v f (by rfl) (hown5.alloc _) w4.heap.size 1 (by rfl) k4 s4 ks4 a4 ks4.len d4 _ _ (heap_alloc_new w4 _) hd4 (hk4.alloc (Nat.le_refl _) _) (by show _ ≤ wr.heap.size; omega) (by simp) (fun g hg => .inl (hown.lt g hg).2) (by omega) (by simp; omega) ?_; intro g cap w6 hown6 hgrow6 hlt6 hbg6; have hex6 := (hex5.alloc (.cells #[.int .i64 k4, .string s4, .slice a4 ks4.len d4] 43)).grown hgrow6 (fun e => by have := (hown.lt _ e).1; omega); obtain ⟨x0, x1, x2, v0, v1, v2, hl6⟩ := hex6.facts))
              all_goals go_wp2_with fail
              all_goals
                rw [hfl] at hown6
                exact ⟨⟨j + 1, q4, _, _, by omega, by go_num, by rw [Fo.snoc_len]; omega, hown6.setCell (Nat.lt_succ_self _) 2 _, hex6.set2 _, ((hbx5.alloc _).grown hgrow6 (fun e => by have := (hown.lt _ e).1; omega)).other (by omega) 2 _, Fo.snoc_fits hfit (by unfold maxLen; omega) (by omega) hf4, by rw [Fo.snoc_size, Nat.add_mul]; omega, (((hst.trans hst4').alloc _).grew hgrow6 (fun g' e => by have := (hown.lt _ e).1; constructor <;> omega)).setNew (by omega) _ |>.more (by rw [Nat.add_mul]; omega)⟩, by simp [intOf]; omega⟩
            · have hlo := hst.lo
              have hown' := hown.mono (base' := w.heap.size + 1) (by omega)
              have hz5 : j * (drN d + 1) ≤ 4 * (drN d + 1) := Nat.mul_le_mul_right _ (by omega)
              have hq5 : j * drQ d ≤ 4 * drQ d := Nat.mul_le_mul_right _ (by omega)
              obtain ⟨c0, c1, c2, f0, f1, f2, hl⟩ := hbx.facts
              obtain ⟨av, dv, rfl, hdv, hmv, hkv⟩ := hown.form
              have hjj : ¬ (j : Int) < (1 : Int) := by omega
              go_wp2_with fail
              refine bodyPost_ret (v := .agg #[.int .i64 k, .string ⟨#[]⟩, .slice av f.len dv]) (by simp [results, Tryz.results74, go_sem, *]) rfl ?_
              exact (TreePost.fin (hst.more (by simp only [drQ]; omega)) hown' (by decide) hfit (by simp only [drN]; omega) _ _ _ 0).no0

theorem TreePost.more {m m' B R n c p l l' : Nat} {a : Option Addr} {w w' : World} {e : Ending} (h : TreePost m w B R a n c p l e w') (hm : m ≤ m') (hl : l ≤ l') : TreePost m' w B R a n c p l' e w' := by
  obtain ⟨k, s, v, ks, q, h1, h2, h3, h4, h5, h6⟩ := h
  exact ⟨k, s, v, ks, q, h1, h2, h3, h4, by omega, h6.more hl⟩
theorem draw_all {n c B R : Nat} {a : Option Addr} (d : Nat) : d ≤ 7 → ∀ (p : Nat) (w : World), Rd w B R a n c p → p + drQ d ≤ 1000000000 → Calls Tryz.prog 74 #[.pointer (some ⟨R, 0, none⟩), .int .i64 d] w (TreePost (drN d) w B R a n c p (drQ d)) := by
  induction d with
  | zero => exact fun _ p w h hp => draw_leaf 0 (by omega) h hp
  | succ d ih =>
    intro hd p w h hp
    by_cases h1 : 1 ≤ d
    · exact draw_node d h1 (by omega) h hp (ih (by omega))
    · obtain rfl : d = 0 := by omega
      exact (draw_leaf 1 (by omega) h (by simp only [drQ] at hp; omega)).mono fun _ _ h => h.more (by simp [drN]) (by simp [drQ])
end Go.Proofs.YtceiafncpimihaaGreat

namespace Go.Proofs.YtceiafncpimihaaGreat
set_option linter.unusedVariables false
open Go.RowKit

/-- no quote in it -/
def noQ (l : List UInt8) : Bool := l.all fun c => decide (c.toNat ≠ 39)
theorem noQ_succ (s : ByteArray) (k : Nat) (h : k < s.size) : noQ (s.data.toList.take (k + 1)) = (noQ (s.data.toList.take k) && decide (s[k].toNat ≠ 39)) := by
  unfold noQ
  rw [List.take_succ_eq_append_getElem (by simpa using h), List.all_append]
  congr 1
  simp only [List.all_cons, List.all_nil, Bool.and_true]
  rfl
theorem noQ_false (s : ByteArray) (k : Nat) (h : k < s.size) (hb : s[k].toNat = 39) : noQ s.data.toList = false := by
  have h1 := noQ_succ s k h
  rw [decide_eq_false (p := s[k].toNat ≠ 39) (by omega), Bool.and_false] at h1
  unfold noQ at h1 ⊢
  rw [← List.take_append_drop (k + 1) s.data.toList, List.all_append, h1, Bool.false_and]
/-- a text that can stand between quotes -/
def plainB (s : ByteArray) : Bool := noQ s.data.toList && textB s
/-- a number of operands that is right for a kind -/
def kidsB (k : Int) (n : Nat) : Bool := (decide (k = 1) && decide (n = 0)) || (decide (k = 3) && decide (n ≤ 4)) || (decide (k = 4) && decide (n = 4)) || ((decide (k = 2) || decide (k = 5) || decide (k = 6) || decide (k = 7)) && decide (n = 1))
/-- a node that is right, but for its operands -/
def nodeB (k : Int) (s : ByteArray) (n : Nat) : Bool := kidsB k n && plainB s && (decide (k = 1) || decide (s = .empty))
/-- well-formed down to a depth -/
def shape : Fo → Nat → Bool
  | .nil, _ => true
  | .node k s ks r, d => decide (1 ≤ d) && nodeB k s ks.len && shape ks (d - 1) && shape r d
/-- nodes down to a depth -/
def count : Fo → Nat → Nat
  | .nil, _ => 0
  | .node k s ks r, d => 1 + (if 0 < d then count ks (d - 1) else 0) + count r d
theorem count_le : ∀ (f : Fo) (d : Nat), count f d ≤ f.size
  | .nil, _ => Nat.le_refl _
  | .node k s ks r, d => by
    have h1 := count_le ks (d - 1)
    have h2 := count_le r d
    simp only [count, Fo.size]
    split <;> omega
theorem count_shape : ∀ (f : Fo) (d : Nat), shape f d = true → count f d = f.size
  | .nil, _, _ => rfl
  | .node k s ks r, d, h => by
    simp only [shape, Bool.and_eq_true, decide_eq_true_eq] at h
    have h1 := count_shape ks (d - 1) h.1.2
    have h2 := count_shape r d h.2
    simp only [count, Fo.size]
    rw [if_pos (by omega)]
    omega
/-- a valid expression -/
def validE (k : Int) (s : ByteArray) (ks : Fo) : Bool := shape (.node k s ks .nil) 6 && decide (ks.size + 1 ≤ 20)
/-- the count of nodes behind a list of operands at a depth, if all are right -/
def conv : Fo → Nat → Nat → Option Nat
  | .nil, _, m => some m
  | .node k s ks r, d, m => if m + 1 ≤ 20 ∧ d ≤ 6 then (conv ks (d + 1) (m + 1)).bind fun m' => if nodeB k s ks.len = true then conv r d m' else none else none
/-- one node -/
def conv1 (k : Int) (s : ByteArray) (ks : Fo) (d m : Nat) : Option Nat := if m + 1 ≤ 20 ∧ d ≤ 6 then (conv ks (d + 1) (m + 1)).bind fun m' => if nodeB k s ks.len = true then some m' else none else none
theorem conv_node (k : Int) (s : ByteArray) (ks r : Fo) (d m : Nat) : conv (.node k s ks r) d m = (conv1 k s ks d m).bind fun m' => conv r d m' := by
  unfold conv1
  rw [conv]
  split
  · cases conv ks (d + 1) (m + 1) with
    | none => rfl
    | some m' => simp only [Option.bind_some]; split <;> rfl
  · rfl
theorem conv_eq : ∀ (f : Fo) (d m : Nat), d ≤ 7 → m ≤ 20 → conv f d m = if shape f (7 - d) = true ∧ m + f.size ≤ 20 then some (m + f.size) else none
  | .nil, d, m, _, hm => by simp [conv, shape, Fo.size, hm]
  | .node k s ks r, d, m, hd, hm => by
    rw [conv]
    simp only [shape, Fo.size, Bool.and_eq_true, decide_eq_true_eq]
    by_cases h1 : m + 1 ≤ 20 ∧ d ≤ 6
    · rw [if_pos h1, conv_eq ks (d + 1) (m + 1) (by omega) h1.1, show 7 - (d + 1) = 7 - d - 1 from by omega]
      by_cases h2 : shape ks (7 - d - 1) = true ∧ m + 1 + ks.size ≤ 20
      · rw [if_pos h2, Option.bind_some]
        by_cases h3 : nodeB k s ks.len = true
        · rw [if_pos h3, conv_eq r d _ hd h2.2]
          by_cases h4 : shape r (7 - d) = true ∧ m + 1 + ks.size + r.size ≤ 20
          · rw [if_pos h4, if_pos ⟨⟨⟨⟨by omega, h3⟩, h2.1⟩, h4.1⟩, by omega⟩]; congr 1; omega
          · rw [if_neg h4, if_neg (fun h => h4 ⟨h.1.2, by omega⟩)]
        · rw [if_neg h3, if_neg (fun h => h3 h.1.1.1.2)]
      · rw [if_neg h2, Option.bind_none, if_neg (fun h => h2 ⟨h.1.1.2, by omega⟩)]
    · rw [if_neg h1, if_neg (fun h => h1 ⟨by omega, by have := h.1.1.1.1; omega⟩)]
theorem conv1_valid (k : Int) (s : ByteArray) (ks : Fo) : conv1 k s ks 1 0 = if validE k s ks = true then some (ks.size + 1) else none := by
  have h1 : conv (.node k s ks .nil) 1 0 = conv1 k s ks 1 0 := by
    rw [conv_node]
    cases conv1 k s ks 1 0 <;> rfl
  rw [← h1, conv_eq _ 1 0 (by omega) (by omega)]
  unfold validE
  simp only [Bool.and_eq_true, decide_eq_true_eq, Fo.size, show 7 - 1 = 6 from rfl]
  by_cases h : shape (.node k s ks .nil) 6 = true ∧ ks.size + 1 ≤ 20
  · rw [if_pos h, if_pos ⟨h.1, by omega⟩]; congr 1; omega
  · rw [if_neg h, if_neg (fun h2 => h ⟨h2.1, by omega⟩)]
theorem conv_le {f : Fo} {d m m' : Nat} (hd : d ≤ 7) (hm : m ≤ 20) (h : conv f d m = some m') : m' ≤ 20 := by
  rw [conv_eq f d m hd hm] at h
  split at h
  · cases h; omega
  · cases h
end Go.Proofs.YtceiafncpimihaaGreat

namespace Go.Proofs.YtceiafncpimihaaGreat
set_option linter.unusedVariables false
open Go.RowKit

/-- one round of l1Put -/
def putStep (f : Fl) (s : List Fl × Bool) (x : Fl) : List Fl × Bool :=
  let s1 := if s.2 = false ∧ sLess x.1 f.1 = false then (s.1 ++ [f], true) else s
  (if x.1 = f.1 then s1.1 else s1.1 ++ [x], s1.2)
def putTo (f : Fl) (fs : List Fl) : List Fl × Bool := fs.foldl (putStep f) ([], false)
def putF (f : Fl) (fs : List Fl) : List Fl := if (putTo f fs).2 = true then (putTo f fs).1 else (putTo f fs).1 ++ [f]
theorem putTo_succ {f : Fl} {fs : List Fl} {k : Nat} {p t : ByteArray} (h : fs[k]? = some (p, t)) : putTo f (fs.take (k + 1)) = putStep f (putTo f (fs.take k)) (p, t) := by
  unfold putTo
  rw [List.take_add_one, h, List.foldl_append]
  rfl
def owed : Bool → Nat | true => 0 | false => 1
theorem putStep_length (f : Fl) (s : List Fl × Bool) (x : Fl) : (putStep f s x).1.length + owed (putStep f s x).2 ≤ s.1.length + owed s.2 + 1 := by
  obtain ⟨l, b⟩ := s
  unfold putStep
  cases b <;> cases sLess x.1 f.1 <;> by_cases h : x.1 = f.1 <;> simp [h, owed]
theorem putTo_owed (f : Fl) (l : List Fl) : ∀ s : List Fl × Bool, (l.foldl (putStep f) s).1.length + owed (l.foldl (putStep f) s).2 ≤ s.1.length + owed s.2 + l.length := by
  induction l with
  | nil => intro s; simp
  | cons x l ih =>
    intro s
    have h1 := ih (putStep f s x)
    have h2 := putStep_length f s x
    simp only [List.foldl_cons, List.length_cons]
    omega
theorem putTo_length (f : Fl) (fs : List Fl) : (putTo f fs).1.length ≤ fs.length + 1 := by
  have := putTo_owed f fs ([], false)
  unfold putTo
  simp [owed] at this ⊢
  omega

theorem fput_info : (Tryz.prog.info? 28).map (fun i => (i.zero, i.size, i.bytes)) = some (some (.agg #[.string .empty, .string .empty]), 2, 32) := by kernel_rfl

/-- the slice v is the call's own row of the files fs -/
def OwnsF (w : World) (base : Nat) (v : Value) (fs : List Fl) : Prop := w.ownsRow base 28 2 v fs.length (fcells fs)
theorem two_new (w : World) (x y : Value) (t : TypeId) : ∀ j u, [x, y][j]? = some u → (w.alloc (.cells #[x, y] t)).cell? ((⟨w.heap.size, 0, none⟩ : Addr).add j) = some u := by
  intro j u h
  rw [add_none, cell_of_row _ _ _ _ _ _ (heap_alloc_new w _)]
  simpa using h

theorem OwnsF.drewN {w : World} {base : Nat} {v : Value} {fs : List Fl} (h : OwnsF w base v fs) (k : Nat) : OwnsF (w.drewN k) base v fs := h
theorem OwnsF.row {w : World} {base : Nat} {v : Value} {fs : List Fl} (h : OwnsF w base v fs) (k : Nat) (o : Obj) : ((w.drewN k).alloc o).ownsRow base 28 2 v fs.length (fcells fs) := World.ownsRow.alloc (h.drewN k) o
theorem OwnsF.grew {w : World} {base : Nat} {v : Value} {fs : List Fl} {p t : ByteArray} (h : w.ownsRow base 28 2 v (fs.length + 1) (fcells fs ++ [.string p, .string t])) : OwnsF w base v (fs ++ [(p, t)]) := by
  unfold OwnsF
  rw [fcells_append, List.length_append]
  exact h
theorem own_at {w : World} {base e size n : Nat} {v : Value} {xs : List Value} (h : w.ownsRow base e size v n xs) : ∀ k, v.ownBlock = some k → base ≤ k := fun k hk => (h.lt k hk).1

theorem kept_cell {wr w2 : World} {base k : Nat} {v : Value} {fs : List Fl} {o : Obj} {i : Addr} {x : Value} (hown : OwnsF wr base v fs) (hg : ((wr.drewN k).alloc o).grownBy w2 v.ownBlock) (h : wr.cell? i = some x) (hi : i.block < base) : w2.cell? i = some x := by
  have hlt := World.block_lt_of_cell? wr i h
  refine World.grownBy.cell hg ((World.cell?_alloc_lt (wr.drewN k) o i hlt).trans h) (fun e => ?_)
  have := own_at hown _ e.symm
  omega
theorem kept_below {a wr w2 : World} {base k : Nat} {v : Value} {fs : List Fl} {o : Obj} (hB : Below base a wr) (hs : base ≤ wr.heap.size) (hown : OwnsF wr base v fs) (hg : ((wr.drewN k).alloc o).grownBy w2 v.ownBlock) : Below base a w2 :=
  ((below_drewN hB k).alloc hs o).grown hg (by rw [World.size_alloc]; exact Nat.le_succ_of_le hs) (own_at hown)

set_option maxHeartbeats 4000000 in
theorem put_any (a : Option Addr) (n c : Nat) (fs : List Fl) (fp ft : ByteArray) (w : World) (hf : FilesAt w w.heap.size a n fs) (hn : n ≤ 1048576) :
    Calls Tryz.prog 36 #[.slice a n c, .agg #[.string fp, .string ft]] w fun e w' =>
      ∃ v, e = .returned v ∧ OwnsF w' w.heap.size v (putF (fp, ft) fs) ∧ Below w.heap.size w w' := by
  have hlen := Lib.hid hf.1
  obtain ⟨i0, hi, hz0, hz1, hz2⟩ := info_parts fput_info
  go_enter Tryz.func36, Tryz.ntmps36
  go_wp2_with fail
  go_loopw [5, 6, 7] (fun v d i wr => ∃ k : Nat, k ≤ n ∧ i = .int .i64 k ∧ d = .bool (putTo (fp, ft) (fs.take k)).2 ∧ OwnsF wr (w.heap.size + 1) v (putTo (fp, ft) (fs.take k)).1 ∧ Below (w.heap.size + 1) (w.alloc (.cells #[.string fp, .string ft] 28)) wr) (fun _ _ i _ => n - (intOf i).toNat)
  case atStart =>
    refine ⟨0, Nat.zero_le _, rfl, rfl, ?_, (Below.refl _ _).alloc (by simp) _⟩
    have h := World.ownsRow_made (w := w.alloc (.cells #[.string fp, .string ft] 28)) (base := w.heap.size + 1) (e := 28) (size := 2) #[] 0 (by simp) (by unfold maxLen; omega) rfl
    simp only [World.size_alloc] at h
    exact h
  case round =>
    obtain ⟨k, hk, rfl, rfl, hown, hB⟩ := hrel
    have hB0 : Below w.heap.size w wr := ((Below.refl _ _).alloc (Nat.le_refl _) _).trans (hB.mono (by omega))
    have hbs := hB.size
    rw [World.size_alloc] at hbs
    have hF : ∀ i, wr.cell? ⟨w.heap.size, i, none⟩ = (#[Value.string fp, .string ft] : Array Value)[i]? := fun i =>
      (hB.cell (p := ⟨w.heap.size, i, none⟩) (by simp)).trans (cell_of_row _ _ _ _ _ _ (heap_alloc_new w _))
    have hF0 : wr.cell? ⟨w.heap.size, 0, none⟩ = some (.string fp) := hF 0
    have hF1 : wr.cell? ⟨w.heap.size, 1, none⟩ = some (.string ft) := hF 1
    clear hF
    by_cases hlt : k < n
    · obtain ⟨b, off, p, t, rfl, hb, hg, hc1, hc2⟩ := (hf.below hB0).get hlt
      have hk0 : (0 : Int) ≤ (k : Int) := by omega
      have hk1 : (k : Int) < (n : Int) := by omega
      have hln := putTo_length (fp, ft) (fs.take k)
      have hlk : (fs.take k).length ≤ k := List.length_take_le _ _
      have Hg := Lib.hid hg
      have hst := putTo_succ (f := (fp, ft)) hg
      have Hst := Lib.hid hst
      clear hg hst
      generalize putTo (fp, ft) (fs.take k) = s at *
      obtain ⟨l, dn⟩ := s
      cases dn with
      | true =>
        by_cases hpx : p = fp
        · subst hpx
          have hd : (p.toList == p.toList) = true := by simp
          go_wp2_with fail
          go_quiet (fail)
          go_wp2_with fail
          go_quiet (fail)
          go_wp2_with fail
          exact ⟨⟨k + 1, by omega, by go_num, by rw [Hst.out]; simp [putStep], by rw [Hst.out]; simpa [putStep] using hown.drewN _, below_drewN hB _⟩, by simp [intOf]; omega⟩
        · have hd : (p.toList == fp.toList) = false := by rw [sEq]; simpa using hpx
          have Hpx := Lib.hid hpx; clear hpx
          go_wp2_with fail
          go_quiet (fail)
          go_wp2_with fail
          go_quiet (fail)
          go_wp2_with (at_builtin; refine wpList_append_own _ rfl _ _ 23 rfl (w.heap.size + 1) 28 i0 _ 2 32 Tryz.underlying23 hi hz0 hz1 hz2 rfl (by decide) _ _ _ rfl (hown.row _ _) ⟨wr.heap.size, 0, none⟩ 1 1 [.string p, .string t] rfl rfl (two_new _ _ _ _) (by simp [Value.oneCell']) (by simp only [maxLen]; omega) (by omega) (by simp; omega) ?_; intro v2 w2 hown2 hgrow _)
          exact ⟨⟨k + 1, by omega, by go_num, by rw [Hst.out]; simp [putStep], by rw [Hst.out]; simpa [putStep, Hpx.out] using OwnsF.grew hown2, kept_below hB hbs hown hgrow⟩, by simp [intOf]; omega⟩
      | false =>
        cases hless : Op.bytesLess p.toList fp.toList with
        | true =>
          have Hl := Lib.hid (show sLess p fp = true from hless)
          by_cases hpx : p = fp
          · subst hpx
            have hd : (p.toList == p.toList) = true := by simp
            go_wp2_with fail
            go_quiet (fail)
            go_wp2_with fail
            go_quiet (fail)
            go_wp2_with fail
            exact ⟨⟨k + 1, by omega, by go_num, by rw [Hst.out]; simp [putStep, Hl.out], by rw [Hst.out]; simpa [putStep, Hl.out] using hown.drewN _, below_drewN hB _⟩, by simp [intOf]; omega⟩
          · have hd : (p.toList == fp.toList) = false := by rw [sEq]; simpa using hpx
            have Hpx := Lib.hid hpx; clear hpx
            go_wp2_with fail
            go_quiet (fail)
            go_wp2_with fail
            go_quiet (fail)
            go_wp2_with (at_builtin; refine wpList_append_own _ rfl _ _ 23 rfl (w.heap.size + 1) 28 i0 _ 2 32 Tryz.underlying23 hi hz0 hz1 hz2 rfl (by decide) _ _ _ rfl (hown.row _ _) ⟨wr.heap.size, 0, none⟩ 1 1 [.string p, .string t] rfl rfl (two_new _ _ _ _) (by simp [Value.oneCell']) (by simp only [maxLen]; omega) (by omega) (by simp; omega) ?_; intro v2 w2 hown2 hgrow _)
            exact ⟨⟨k + 1, by omega, by go_num, by rw [Hst.out]; simp [putStep, Hl.out], by rw [Hst.out]; simpa [putStep, Hpx.out, Hl.out] using OwnsF.grew hown2, kept_below hB hbs hown hgrow⟩, by simp [intOf]; omega⟩
        | false =>
          have Hl := Lib.hid (show sLess p fp = false from hless)
          by_cases hpx : p = fp
          · subst hpx
            have hd : (p.toList == p.toList) = true := by simp
            go_wp2_with fail
            go_quiet (fail)
            go_wp2_with (at_builtin; refine wpList_append_own _ rfl _ _ 23 rfl (w.heap.size + 1) 28 i0 _ 2 32 Tryz.underlying23 hi hz0 hz1 hz2 rfl (by decide) _ _ _ rfl (hown.row _ _) ⟨wr.heap.size, 0, none⟩ 1 1 [.string p, .string ft] rfl rfl (two_new _ _ _ _) (by simp [Value.oneCell']) (by simp only [maxLen]; omega) (by omega) (by simp; omega) ?_; intro v2 w2 hown2 hgrow _)
            have e1 := kept_cell hown hgrow hc1 (by simp; omega)
            have e2 := kept_cell hown hgrow hc2 (by simp; omega)
            have e3 := kept_cell hown hgrow hF0 (by simp)
            have hB2 := kept_below hB hbs hown hgrow
            have hbs2 := hB2.size
            rw [World.size_alloc] at hbs2
            have own2 := OwnsF.grew hown2
            clear hgrow hown2 hc1 hc2 hF0 hF1 hown
            go_quiet (fail)
            go_wp2_with fail
            exact ⟨⟨k + 1, by omega, by go_num, by rw [Hst.out]; simp [putStep, Hl.out], by rw [Hst.out]; simpa [putStep, Hl.out] using own2.drewN _, below_drewN hB2 _⟩, by simp [intOf]; omega⟩
          · have hd : (p.toList == fp.toList) = false := by rw [sEq]; simpa using hpx
            have Hpx := Lib.hid hpx; clear hpx
            go_wp2_with fail
            go_quiet (fail)
            go_wp2_with (at_builtin; refine wpList_append_own _ rfl _ _ 23 rfl (w.heap.size + 1) 28 i0 _ 2 32 Tryz.underlying23 hi hz0 hz1 hz2 rfl (by decide) _ _ _ rfl (hown.row _ _) ⟨wr.heap.size, 0, none⟩ 1 1 [.string fp, .string ft] rfl rfl (two_new _ _ _ _) (by simp [Value.oneCell']) (by simp only [maxLen]; omega) (by omega) (by simp; omega) ?_; intro v2 w2 hown2 hgrow _)
            have e1 := kept_cell hown hgrow hc1 (by simp; omega)
            have e2 := kept_cell hown hgrow hc2 (by simp; omega)
            have e3 := kept_cell hown hgrow hF0 (by simp)
            have hB2 := kept_below hB hbs hown hgrow
            have hbs2 := hB2.size
            rw [World.size_alloc] at hbs2
            have own2 := OwnsF.grew hown2
            clear hgrow hown2 hc1 hc2 hF0 hF1 hown
            go_quiet (fail)
            have hln2 : (l ++ [(fp, ft)]).length ≤ n + 2 := by simp; omega
            have Hown2 := Lib.hid own2
            go_wp2_with (at_builtin; refine wpList_append_own _ rfl _ _ 23 rfl (w.heap.size + 1) 28 i0 _ 2 32 Tryz.underlying23 hi hz0 hz1 hz2 rfl (by decide) _ _ _ rfl (own2.row _ _) ⟨w2.heap.size, 0, none⟩ 1 1 [.string p, .string t] rfl rfl (two_new _ _ _ _) (by simp [Value.oneCell']) (by simp only [maxLen]; omega) (by omega) (by simp; omega) ?_; intro v3 w3 hown3 hgrow3 _)
            exact ⟨⟨k + 1, by omega, by go_num, by rw [Hst.out]; simp [putStep, Hl.out], by rw [Hst.out]; simpa [putStep, Hpx.out, Hl.out] using OwnsF.grew hown3, kept_below hB2 hbs2 own2 hgrow3⟩, by simp [intOf]; omega⟩
    · have e : n = k := by omega
      have Hput : Hid (putTo (fp, ft) (fs.take k) = putTo (fp, ft) fs) := by
        show putTo (fp, ft) (fs.take k) = putTo (fp, ft) fs
        rw [List.take_of_length_le (by have := hlen.out; omega)]
      clear e
      have hln := putTo_length (fp, ft) (fs.take k)
      have hlk : (fs.take k).length ≤ k := List.length_take_le _ _
      generalize putTo (fp, ft) (fs.take k) = s at *
      obtain ⟨l, dn⟩ := s
      cases dn with
      | true =>
        go_wp2_with fail
        go_ret
        exact ⟨_, rfl, by unfold putF; rw [← Hput.out]; exact World.ownsRow.mono hown (by omega), hB0⟩
      | false =>
        have hl9 : l.length ≤ k + 1 := Nat.le_trans hln (by omega)
        go_wp2_with (at_builtin; refine wpList_append_own _ rfl _ _ 23 rfl (w.heap.size + 1) 28 i0 _ 2 32 Tryz.underlying23 hi hz0 hz1 hz2 rfl (by decide) _ _ _ rfl (World.ownsRow.alloc hown _) ⟨wr.heap.size, 0, none⟩ 1 1 [.string fp, .string ft] rfl rfl (two_new _ _ _ _) (by simp [Value.oneCell']) (by simp only [maxLen]; omega) (by omega) (by simp; omega) ?_; intro v2 w2 hown2 hgrow _)
        go_wp2_with fail
        go_ret
        exact ⟨_, rfl, by unfold putF; rw [← Hput.out]; exact World.ownsRow.mono (OwnsF.grew hown2) (by omega), (hB0.alloc (by omega) _).grown hgrow (by simp; omega) (fun k hk => by have := own_at hown k hk; omega)⟩
theorem row_below {w w' : World} {B base size n g m cap : Nat} {e : TypeId} {xs : List Value} (h : w.ownsRow base e size (.slice (some ⟨g, 0, none⟩) m cap) n xs) (hB : Below B w w') (hb : g < B) : w'.ownsRow base e size (.slice (some ⟨g, 0, none⟩) m cap) n xs := by
  refine ⟨h.1, h.2.imp id ?_⟩
  rintro ⟨g', cap', cur, e1, h1, h2, r⟩
  cases e1
  exact ⟨g, cap, cur, rfl, h1, (hB.block g hb).trans h2, r⟩
theorem row_cells {w : World} {base size n g m cap : Nat} {e : TypeId} {xs : List Value} (h : w.ownsRow base e size (.slice (some ⟨g, 0, none⟩) m cap) n xs) (j : Nat) (u : Value) (hu : xs[j]? = some u) : w.cell? ⟨g, j, none⟩ = some u := by
  have := World.ownsRow.cells h (g := g) rfl j u hu
  rwa [add_none, Nat.zero_add] at this

end Go.Proofs.YtceiafncpimihaaGreat

namespace Go.Proofs.YtceiafncpimihaaGreat
set_option linter.unusedVariables false
open Go.RowKit

theorem OwnsF.form {w : World} {base : Nat} {v : Value} {fs : List Fl} (h : OwnsF w base v fs) : ∃ a c, v = .slice a fs.length c ∧ FilesAt w w.heap.size a fs.length fs := by
  rcases h.2 with ⟨rfl, h0⟩ | ⟨g, cap, cur, rfl, hb, hg, hn, hc, hs, ht⟩
  · exact ⟨none, 0, by rw [h0], rfl, fun hn => absurd hn (by omega)⟩
  · refine ⟨_, _, rfl, rfl, fun _ => ⟨g, 0, rfl, blk_lt hg, fun j u hu => ?_⟩⟩
    have := World.ownsRow.cells h (g := g) rfl j u hu
    rwa [add_none] at this

/-- what a function leaves that hands back a new list and a bool -/
def ListB (r : List Fl × Bool) (w : World) (e : Ending) (w' : World) : Prop :=
  ∃ v, e = .returned (.tuple #[v, .bool r.2]) ∧ OwnsF w' w.heap.size v r.1 ∧ Below w.heap.size w w'
theorem ListB.none {r : List Fl × Bool} {w w' : World} (h : r = ([], false)) (hb : Below w.heap.size w w') : ListB r w (.returned (.tuple #[.slice none 0 0, .bool false])) w' := by
  subst h
  exact ⟨_, rfl, World.ownsRow_nil _ _ _ _, hb⟩
theorem ListB.some {r : List Fl × Bool} {gs : List Fl} {v : Value} {w w' : World} (h : r = (gs, true)) (ho : OwnsF w' w.heap.size v gs) (hb : Below w.heap.size w w') : ListB r w (.returned (.tuple #[v, .bool true])) w' := by
  subst h
  exact ⟨v, rfl, ho, hb⟩
theorem ListB.empty {r : List Fl × Bool} {v : Value} {w w' : World} (h : r = ([], false)) (ho : OwnsF w' w.heap.size v []) (hb : Below w.heap.size w w') : ListB r w (.returned (.tuple #[v, .bool false])) w' := by
  subst h
  exact ⟨v, rfl, ho, hb⟩
theorem FilesAt.in1 {w : World} {a : Option Addr} {n : Nat} {fs : List Fl} (h : FilesAt w w.heap.size a n fs) (o : Obj) : FilesAt (w.alloc o) (w.alloc o).heap.size a n fs := (h.alloc (Nat.le_refl _) o).more (by simp)
theorem own_raise {w w' : World} {B : Nat} {v : Value} {fs : List Fl} (h : OwnsF w B v fs) (hb : Below w.heap.size w w') : OwnsF w' B v fs := by
  refine ⟨h.1, h.2.imp id ?_⟩
  rintro ⟨g, cap, cur, e1, h1, h2, r⟩
  exact ⟨g, cap, cur, e1, h1, (hb.block g (blk_lt h2)).trans h2, r⟩
theorem own_lower {w : World} {B C : Nat} {v : Value} {fs : List Fl} (h : OwnsF w B v fs) (hc : C ≤ B) : OwnsF w C v fs := World.ownsRow.mono h hc

/-- what a function leaves that hands back a readable list and a bool -/
def ListR (xs : List Fl) (xb : Bool) (w : World) (e : Ending) (w' : World) : Prop :=
  ∃ a c, e = .returned (.tuple #[.slice a xs.length c, .bool xb]) ∧ FilesAt w' w'.heap.size a xs.length xs ∧ Below w.heap.size w w'
theorem ListB.open {r : List Fl × Bool} {xs : List Fl} {xb : Bool} {w : World} {e : Ending} {w' : World} (h : ListB r w e w') (hr : r = (xs, xb)) : ListR xs xb w e w' := by
  subst hr
  obtain ⟨v, rfl, ho, hb⟩ := h
  obtain ⟨a, c, rfl, hf⟩ := ho.form
  exact ⟨a, c, rfl, hf, hb⟩

/-- what a function leaves that hands back a list of its own and a bool -/
def ListO (xs : List Fl) (xb : Bool) (w : World) (e : Ending) (w' : World) : Prop :=
  ∃ a c, e = .returned (.tuple #[.slice a xs.length c, .bool xb]) ∧ OwnsF w' w.heap.size (.slice a xs.length c) xs ∧ Below w.heap.size w w'
theorem ListB.openO {r : List Fl × Bool} {xs : List Fl} {xb : Bool} {w : World} {e : Ending} {w' : World} (h : ListB r w e w') (hr : r = (xs, xb)) : ListO xs xb w e w' := by
  subst hr
  obtain ⟨v, rfl, ho, hb⟩ := h
  obtain ⟨a, c, rfl, hf⟩ := ho.form
  exact ⟨a, c, rfl, ho, hb⟩

end Go.Proofs.YtceiafncpimihaaGreat

namespace Go.Proofs.YtceiafncpimihaaGreat
set_option linter.unusedVariables false
open Go.RowKit

theorem putStep_mem {f x : Fl} {s : List Fl × Bool} {y : Fl} (h : y ∈ (putStep f s x).1) : y = f ∨ y = x ∨ y ∈ s.1 := by
  obtain ⟨l, b⟩ := s
  unfold putStep at h
  cases b <;> cases hl : sLess x.1 f.1 <;> by_cases hp : x.1 = f.1 <;> simp [hp, hl] at h <;> grind
theorem putTo_mem {f : Fl} (l : List Fl) : ∀ (s : List Fl × Bool) (y : Fl), y ∈ (l.foldl (putStep f) s).1 → y = f ∨ y ∈ l ∨ y ∈ s.1 := by
  induction l with
  | nil => intro s y h; exact .inr (.inr h)
  | cons x l ih =>
    intro s y h
    rcases ih _ _ h with h | h | h
    · exact .inl h
    · exact .inr (.inl (List.mem_cons_of_mem _ h))
    · rcases putStep_mem h with h | h | h
      · exact .inl h
      · exact .inr (.inl (by rw [h]; exact List.mem_cons_self ..))
      · exact .inr (.inr h)
theorem putF_mem {f y : Fl} {fs : List Fl} (h : y ∈ putF f fs) : y = f ∨ y ∈ fs := by
  have key : ∀ y, y ∈ (putTo f fs).1 → y = f ∨ y ∈ fs := fun y hy => by
    rcases putTo_mem fs _ y hy with h | h | h
    · exact .inl h
    · exact .inr h
    · simp at h
  unfold putF at h
  split at h
  · exact key y h
  · rw [List.mem_append] at h
    rcases h with h | h
    · exact key y h
    · exact .inl (by simpa using h)
theorem putF_length (f : Fl) (fs : List Fl) : (putF f fs).length ≤ fs.length + 1 := by
  have h := putTo_owed f fs ([], false)
  unfold putF
  unfold putTo
  generalize fs.foldl (putStep f) ([], false) = s at *
  obtain ⟨l, b⟩ := s
  cases b <;> simp [owed] at h ⊢ <;> omega

/-- every string of the list has at most m bytes -/
def Short (m : Nat) (fs : List Fl) : Prop := ∀ f ∈ fs, f.1.size ≤ m ∧ f.2.size ≤ m
theorem Short.fits {m : Nat} {fs : List Fl} (h : Short m fs) (hm : m ≤ 1000) : Fits fs := fun f hf => by have := h f hf; unfold maxLen; omega
theorem Short.put {m : Nat} {f : Fl} {fs : List Fl} (h : Short m fs) (hf : f.1.size ≤ m ∧ f.2.size ≤ m) : Short m (putF f fs) := fun y hy => by
  rcases putF_mem hy with rfl | hy
  · exact hf
  · exact h y hy

/-- what a drawing function of lists leaves -/
def ListPost (w : World) (B R : Nat) (a : Option Addr) (n c p k m l : Nat) (e : Ending) (w' : World) : Prop :=
  ∃ a' c' fs q, e = .returned (.slice a' (List.length fs) c') ∧ FilesAt w' w'.heap.size a' (List.length fs) fs ∧ Short m fs ∧ List.length fs ≤ l ∧ Step w w' B R a n c p q k

end Go.Proofs.YtceiafncpimihaaGreat

namespace Go.Proofs.YtceiafncpimihaaGreat
set_option linter.unusedVariables false
open Go.RowKit

theorem StrsAt.step {w w' : World} {Q : ByteArray → Prop} {B R n c p q k g m : Nat} {a : Option Addr} (h : StrsAt w Q g m) (hs : Step w w' B R a n c p q k) (hg : g < w.heap.size) (hne : g ≠ R) : StrsAt w' Q g m := fun i hi => by
  obtain ⟨s, h1, h2⟩ := h i hi
  exact ⟨s, (hs.cell (i := ⟨g, i, none⟩) hg hne).trans h1, h2⟩

end Go.Proofs.YtceiafncpimihaaGreat

namespace Go.Proofs.YtceiafncpimihaaGreat
set_option linter.unusedVariables false
open Go.RowKit

set_option maxHeartbeats 400000 in
theorem findS0_any (a : Option Addr) (n c : Nat) (fs : List Fl) (x : ByteArray) (w : World) (hf : FilesAt w w.heap.size a n fs) (hn : n ≤ maxLen) :
    Calls Tryz.prog 60 #[.slice a n c, .string x] w fun e w' => e = .returned (.tuple #[.string (findF fs x).1, .bool (findF fs x).2]) ∧ Below w.heap.size w w' := by
  unfold maxLen at hn
  have hlen := Lib.hid hf.1
  go_enter Tryz.func60, Tryz.ntmps60
  go_wp2
  go_loopw [6] (fun i wr => ∃ k : Nat, k ≤ n ∧ i = .int .i64 k ∧ notTo fs x k ∧ Below w.heap.size w wr) (fun i _ => n - (intOf i).toNat)
  case atStart => exact ⟨0, Nat.zero_le _, rfl, notTo_zero _ _, Below.refl _ _⟩
  case round =>
    obtain ⟨k, hk, rfl, hno, hB⟩ := hrel
    have Hno := Lib.hid hno; clear hno
    by_cases hlt : k < n
    · obtain ⟨b, off, p, t, rfl, hb, hg, hc1, hc2⟩ := (hf.below hB).get hlt
      have Hg := Lib.hid hg; clear hg
      by_cases hpx : p = x
      · subst hpx
        go_wp2
        go_ret2
        exact ⟨by rw [findF_at Hno.out Hg.out]; rfl, hB⟩
      · have hd : (p.toList == x.toList) = false := by rw [sEq]; simpa using hpx
        have Hpx := Lib.hid hpx; clear hpx
        go_wp2
        go_roundw
        case rel => exact ⟨k + 1, by omega, by go_num, notTo_step Hno.out Hg.out Hpx.out, hB⟩
        case measure => simp [intOf]; omega
    · have e : n = k := by omega
      have Hall := Lib.hid (notTo_all hlen.out (e ▸ Hno.out)); clear e
      go_wp2
      go_ret2
      exact ⟨by rw [Hall.out]; rfl, hB⟩

set_option maxHeartbeats 400000 in
theorem findI_any (a : Option Addr) (n c : Nat) (fs : List Fl) (x : ByteArray) (w : World) (hf : FilesAt w w.heap.size a n fs) (hn : n ≤ maxLen) :
    Calls Tryz.prog 12 #[.slice a n c, .string x] w fun e w' => e = .returned (.tuple #[.string (findF fs x).1, .bool (findF fs x).2]) ∧ Below w.heap.size w w' := by
  unfold maxLen at hn
  have hlen := Lib.hid hf.1
  go_enter Tryz.func12, Tryz.ntmps12
  go_wp2
  go_loopw [10] (fun i wr => ∃ k : Nat, k ≤ n ∧ i = .int .i64 k ∧ notTo fs x k ∧ Below w.heap.size w wr) (fun i _ => n - (intOf i).toNat)
  case atStart => exact ⟨0, Nat.zero_le _, rfl, notTo_zero _ _, Below.refl _ _⟩
  case round =>
    obtain ⟨k, hk, rfl, hno, hB⟩ := hrel
    have Hno := Lib.hid hno; clear hno
    by_cases hlt : k < n
    · obtain ⟨b, off, p, t, rfl, hb, hg, hc1, hc2⟩ := (hf.below hB).get hlt
      have Hg := Lib.hid hg; clear hg
      by_cases hpx : p = x
      · subst hpx
        go_wp2
        go_ret2
        exact ⟨by rw [findF_at Hno.out Hg.out]; rfl, hB.alloc hB.size _⟩
      · have hd : (p.toList == x.toList) = false := by rw [sEq]; simpa using hpx
        have Hpx := Lib.hid hpx; clear hpx
        go_wp2
        go_roundw
        case rel => exact ⟨k + 1, by omega, by go_num, notTo_step Hno.out Hg.out Hpx.out, hB.alloc hB.size _⟩
        case measure => simp [intOf]; omega
    · have e : n = k := by omega
      have Hall := Lib.hid (notTo_all hlen.out (e ▸ Hno.out)); clear e
      go_wp2
      go_ret2
      exact ⟨by rw [Hall.out]; rfl, hB⟩
end Go.Proofs.YtceiafncpimihaaGreat

namespace Go.Proofs.YtceiafncpimihaaGreat
set_option linter.unusedVariables false
open Go.RowKit

/-- a rule: its target, and the kind, the text and the operands of its body -/
abbrev Ru := ByteArray × Int × ByteArray × Fo
/-- the bytes and operands of a rule -/
def ruSz (x : Ru) : Nat := x.1.size + (x.2.2.1.size + x.2.2.2.len + x.2.2.2.tot)
def ruTot : List Ru → Nat
  | [] => 0
  | x :: r => ruSz x + ruTot r
/-- texts and lists that a machine holds -/
def RuFits (rs : List Ru) : Prop := ∀ x ∈ rs, x.1.size ≤ maxLen ∧ x.2.2.1.size ≤ maxLen ∧ x.2.2.2.len ≤ maxLen ∧ x.2.2.2.Fits
theorem ruTot_drop {rs : List Ru} {j : Nat} {x : Ru} (h : rs[j]? = some x) : ruTot (rs.drop j) = ruSz x + ruTot (rs.drop (j + 1)) := by
  obtain ⟨hl, rfl⟩ := List.getElem?_eq_some_iff.1 h
  rw [List.drop_eq_getElem_cons hl]
  rfl
theorem ruTot_le (rs : List Ru) (j : Nat) : ruTot (rs.drop j) ≤ ruTot rs := by
  induction rs generalizing j with
  | nil => simp [ruTot]
  | cons x r ih =>
    cases j with
    | zero => exact Nat.le_refl _
    | succ j => have := ih j; simp only [List.drop_succ_cons, ruTot]; omega
theorem RuFits.get {rs : List Ru} {j : Nat} {t s : ByteArray} {k : Int} {ks : Fo} (h : RuFits rs) (hg : rs[j]? = some (t, k, s, ks)) : t.size ≤ maxLen ∧ s.size ≤ maxLen ∧ ks.len ≤ maxLen ∧ ks.Fits := h _ (List.mem_of_getElem? hg)
theorem ruTot_get {rs : List Ru} {j : Nat} {x : Ru} (h : rs[j]? = some x) : ruSz x ≤ ruTot rs := by
  have := ruTot_drop h
  have := ruTot_le rs j
  omega

/-- not too many rules, none of them with too many nodes -/
def RuZ (rs : List Ru) : Prop := rs.length ≤ 1048577 ∧ ∀ x ∈ rs, x.2.2.2.size ≤ 1048576
theorem ruZ_of {rs : List Ru} (h : rs.length + ruTot rs ≤ 1048577) : RuZ rs := ⟨by omega, fun x hx => by
  obtain ⟨j, hj, rfl⟩ := List.getElem_of_mem hx
  have h1 := ruTot_get (List.getElem?_eq_getElem hj)
  have h2 := (rs[j]).2.2.2.size_le
  simp only [ruSz] at h1
  omega⟩
/-- a rule at a place -/
def RuleAt (w : World) (L B : Nat) (t : ByteArray) (k : Int) (s : ByteArray) (ks : Fo) (b off : Nat) : Prop :=
  w.cell? ⟨b, off, none⟩ = some (.string t) ∧ w.cell? ⟨b, off + 1, none⟩ = some (.int .i64 k) ∧ w.cell? ⟨b, off + 2, none⟩ = some (.string s) ∧ ∃ a n c, w.cell? ⟨b, off + 3, none⟩ = some (.slice a n c) ∧ n ≤ c ∧ KA w L B ks a n
/-- a slice whose elements are these rules -/
def RuAt (w : World) (L B : Nat) (rs : List Ru) (a : Option Addr) (n : Nat) : Prop :=
  rs.length = n ∧ (0 < n → ∃ b off, a = some ⟨b, off, none⟩ ∧ L ≤ b ∧ b < B ∧ ∀ j t k s ks, rs[j]? = some (t, k, s, ks) → RuleAt w L B t k s ks b (off + j * 4))
section
variable {w w' : World} {L L' B B' b off n : Nat} {a : Option Addr} {rs : List Ru} {k : Int} {s t : ByteArray} {ks : Fo}
theorem RuleAt.keep (h : RuleAt w L B t k s ks b off) (hL : L' ≤ L) (hB : B ≤ B') (h1 : L ≤ b) (h2 : b < B) (hk : ∀ p : Addr, L ≤ p.block → p.block < B → w'.cell? p = w.cell? p) : RuleAt w' L' B' t k s ks b off := by
  obtain ⟨c0, c1, c2, a, n, c, c3, hc, hks⟩ := h
  exact ⟨(hk ⟨b, off, none⟩ h1 h2).trans c0, (hk ⟨b, off + 1, none⟩ h1 h2).trans c1, (hk ⟨b, off + 2, none⟩ h1 h2).trans c2, a, n, c, (hk ⟨b, off + 3, none⟩ h1 h2).trans c3, hc, hks.keep hL hB hk⟩
theorem RuAt.keep (h : RuAt w L B rs a n) (hL : L' ≤ L) (hB : B ≤ B') (hk : ∀ p : Addr, L ≤ p.block → p.block < B → w'.cell? p = w.cell? p) : RuAt w' L' B' rs a n :=
  ⟨h.1, fun hn => let ⟨b, off, ha, h1, h2, hs⟩ := h.2 hn; ⟨b, off, ha, by omega, by omega, fun j t k s ks hg => (hs j t k s ks hg).keep hL hB h1 h2 hk⟩⟩
theorem RuAt.more (h : RuAt w L B rs a n) (hL : L' ≤ L) (hB : B ≤ B') : RuAt w L' B' rs a n := h.keep hL hB fun _ _ _ => rfl
theorem RuAt.below (h : RuAt w L B rs a n) (hb : Below B w w') : RuAt w' L B rs a n := h.keep (Nat.le_refl _) (Nat.le_refl _) fun _ _ hp => hb.cell hp
theorem RuAt.next (h : RuAt w L w.heap.size rs a n) (hb : Below w.heap.size w w') : RuAt w' L w'.heap.size rs a n := (h.below hb).more (Nat.le_refl _) hb.size
theorem RuAt.alloc (h : RuAt w L B rs a n) (hB : B ≤ w.heap.size) (o : Obj) : RuAt (w.alloc o) L B rs a n := h.keep (Nat.le_refl _) (Nat.le_refl _) fun p _ hp => World.cell?_alloc_lt w o p (by omega)
theorem RuAt.setCell (h : RuAt w L B rs a n) {g : Nat} (hg : g < L ∨ B ≤ g) (i : Nat) (u : Value) : RuAt (w.setCell ⟨g, i, none⟩ u) L B rs a n :=
  h.keep (Nat.le_refl _) (Nat.le_refl _) fun p h1 h2 => World.cell?_setCell_other w _ _ _ (by rintro rfl; simp at h1 h2; omega)
theorem RuAt.get (h : RuAt w L B rs a n) {j : Nat} (hj : j < n) :
    ∃ b off t k s ks a' n' c', a = some ⟨b, off, none⟩ ∧ L ≤ b ∧ b < B ∧ rs[j]? = some (t, k, s, ks) ∧ w.cell? ⟨b, off + j * 4, none⟩ = some (.string t) ∧ w.cell? ⟨b, off + j * 4 + 1, none⟩ = some (.int .i64 k) ∧ w.cell? ⟨b, off + j * 4 + 2, none⟩ = some (.string s) ∧
      w.cell? ⟨b, off + j * 4 + 3, none⟩ = some (.slice a' n' c') ∧ n' ≤ c' ∧ KA w L B ks a' n' := by
  obtain ⟨b, off, ha, hb, hc, hs⟩ := h.2 (by omega)
  have hl : j < rs.length := by have := h.1; omega
  obtain ⟨⟨t, k, s, ks⟩, hg⟩ : ∃ x, rs[j]? = some x := ⟨_, List.getElem?_eq_getElem hl⟩
  obtain ⟨h0, h1, h2, a', n', c', h3, h4, h5⟩ := hs j t k s ks hg
  exact ⟨b, off, t, k, s, ks, a', n', c', ha, hb, hc, hg, h0, h1, h2, h3, h4, h5⟩
end
/-- the rules before a place stand in a row being filled -/
def DoneRu (w : World) (L B : Nat) (rs : List Ru) (cur : Array Value) (j : Nat) : Prop := ∀ i t k s ks, i < j → rs[i]? = some (t, k, s, ks) →
  cur[i * 4]? = some (.string t) ∧ cur[i * 4 + 1]? = some (.int .i64 k) ∧ cur[i * 4 + 2]? = some (.string s) ∧ ∃ a n c, cur[i * 4 + 3]? = some (.slice a n c) ∧ n ≤ c ∧ KA w L B ks a n
section
variable {w w' : World} {L B : Nat} {rs : List Ru} {cur : Array Value} {j : Nat} {k : Int} {s t : ByteArray} {ks : Fo}
theorem DoneRu.zero : DoneRu w L B rs cur 0 := fun i _ _ _ _ h => absurd h (by omega)
theorem DoneRu.keep {L' B' : Nat} (h : DoneRu w L B rs cur j) (hL : L' ≤ L) (hB : B ≤ B') (hk : ∀ p : Addr, L ≤ p.block → p.block < B → w'.cell? p = w.cell? p) : DoneRu w' L' B' rs cur j := fun i t k s ks hi hg =>
  let ⟨h0, h1, h2, a, n, c, h3, h4, h5⟩ := h i t k s ks hi hg
  ⟨h0, h1, h2, a, n, c, h3, h4, h5.keep hL hB hk⟩
theorem DoneRu.step {g : Nat} (h : DoneRu w L B rs cur j) (hg : rs[j]? = some (t, k, s, ks)) {a : Option Addr} {n c : Nat} (hc : n ≤ c) (hk : KA w L B ks a n) (hs : j * 4 + 3 < cur.size) (hL : g < L) (x y z u : Value) :
    DoneRu ((((w.setCell ⟨g, j * 4, none⟩ x).setCell ⟨g, j * 4 + 1, none⟩ y).setCell ⟨g, j * 4 + 2, none⟩ z).setCell ⟨g, j * 4 + 3, none⟩ u) L B rs
      ((((cur.setIfInBounds (j * 4) (.string t)).setIfInBounds (j * 4 + 1) (.int .i64 k)).setIfInBounds (j * 4 + 2) (.string s)).setIfInBounds (j * 4 + 3) (.slice a n c)) (j + 1) := by
  intro i t' k' s' ks' hi hgi
  by_cases e : i = j
  · subst e
    rw [hg] at hgi
    simp only [Option.some.injEq, Prod.mk.injEq] at hgi
    obtain ⟨rfl, rfl, rfl, rfl⟩ := hgi
    refine ⟨?_, ?_, ?_, a, n, c, ?_, hc, (((hk.setCell (.inl hL) _ _).setCell (.inl hL) _ _).setCell (.inl hL) _ _).setCell (.inl hL) _ _⟩
    · rw [Array.getElem?_setIfInBounds_ne (by omega), Array.getElem?_setIfInBounds_ne (by omega), Array.getElem?_setIfInBounds_ne (by omega), Array.getElem?_setIfInBounds_self_of_lt (by omega)]
    · rw [Array.getElem?_setIfInBounds_ne (by omega), Array.getElem?_setIfInBounds_ne (by omega), Array.getElem?_setIfInBounds_self_of_lt (by simp; omega)]
    · rw [Array.getElem?_setIfInBounds_ne (by omega), Array.getElem?_setIfInBounds_self_of_lt (by simp; omega)]
    · rw [Array.getElem?_setIfInBounds_self_of_lt (by simp; omega)]
  · obtain ⟨h0, h1, h2, a', n', c', h3, h4, h5⟩ := h i t' k' s' ks' (by omega) hgi
    refine ⟨?_, ?_, ?_, a', n', c', ?_, h4, (((h5.setCell (.inl hL) _ _).setCell (.inl hL) _ _).setCell (.inl hL) _ _).setCell (.inl hL) _ _⟩
    · rw [Array.getElem?_setIfInBounds_ne (by omega), Array.getElem?_setIfInBounds_ne (by omega), Array.getElem?_setIfInBounds_ne (by omega), Array.getElem?_setIfInBounds_ne (by omega)]; exact h0
    · rw [Array.getElem?_setIfInBounds_ne (by omega), Array.getElem?_setIfInBounds_ne (by omega), Array.getElem?_setIfInBounds_ne (by omega), Array.getElem?_setIfInBounds_ne (by omega)]; exact h1
    · rw [Array.getElem?_setIfInBounds_ne (by omega), Array.getElem?_setIfInBounds_ne (by omega), Array.getElem?_setIfInBounds_ne (by omega), Array.getElem?_setIfInBounds_ne (by omega)]; exact h2
    · rw [Array.getElem?_setIfInBounds_ne (by omega), Array.getElem?_setIfInBounds_ne (by omega), Array.getElem?_setIfInBounds_ne (by omega), Array.getElem?_setIfInBounds_ne (by omega)]; exact h3
theorem DoneRu.all {g : Nat} {T : TypeId} (h : DoneRu w L B rs cur rs.length) (hb : w.heap[g]? = some (.cells cur T (0, 0))) (hL : L ≤ g) (hB : g < B) : RuAt w L B rs (some ⟨g, 0, none⟩) rs.length := by
  refine ⟨rfl, fun _ => ⟨g, 0, rfl, hL, hB, fun j t k s ks hg => ?_⟩⟩
  obtain ⟨h0, h1, h2, a, n, c, h3, h4, h5⟩ := h j t k s ks (List.getElem?_eq_some_iff.1 hg).1 hg
  rw [Nat.zero_add]
  exact ⟨(cell_of_row _ _ _ _ _ _ hb).trans h0, (cell_of_row _ _ _ _ _ _ hb).trans h1, (cell_of_row _ _ _ _ _ _ hb).trans h2, a, n, c, (cell_of_row _ _ _ _ _ _ hb).trans h3, h4, h5⟩
end
end Go.Proofs.YtceiafncpimihaaGreat

namespace Go.Proofs.YtceiafncpimihaaGreat
set_option linter.unusedVariables false
open Go.RowKit Go.Maps

/-! ### the order of strings -/
theorem sLess_lt (a b : ByteArray) : sLess a b = decide (a.data.toList < b.data.toList) := by
  unfold sLess
  rw [Lib.toList_data, Lib.toList_data]
  generalize a.data.toList = x
  generalize b.data.toList = y
  induction x generalizing y with
  | nil => cases y with
    | nil => simp [Op.bytesLess]
    | cons b bs => simp [Op.bytesLess]
  | cons a ts ih =>
    cases y with
    | nil => simp [Op.bytesLess]
    | cons b bs =>
      rw [Op.bytesLess, ih bs]
      by_cases h1 : a < b
      · simp [h1, List.cons_lt_cons_iff]
      · by_cases h2 : a = b
        · subst h2; simp
        · simp [h1, h2, List.cons_lt_cons_iff]
theorem sLess_iff {a b : ByteArray} : sLess a b = true ↔ a.data.toList < b.data.toList := by rw [sLess_lt]; simp
theorem bytes_ext {a b : ByteArray} (h : a.data.toList = b.data.toList) : a = b := WideShapes.bytes_inj h
theorem sLess_irrefl (a : ByteArray) : sLess a a = false := by rw [sLess_lt]; simp
theorem sLess_trans {a b c : ByteArray} (h1 : sLess a b = true) (h2 : sLess b c = true) : sLess a c = true := by
  rw [sLess_iff] at *; exact List.lt_trans h1 h2
theorem sLess_total {a b : ByteArray} (h : sLess a b = false) (hne : a ≠ b) : sLess b a = true := by
  rw [sLess_lt, decide_eq_false_iff_not] at h
  rw [sLess_iff]
  have h2 : b.data.toList ≤ a.data.toList := h
  rcases List.le_iff_lt_or_eq.1 h2 with h3 | h3
  · exact h3
  · exact absurd (bytes_ext h3.symm) hne
theorem sLess_ne {a b : ByteArray} (h : sLess a b = true) : a ≠ b := by rintro rfl; rw [sLess_irrefl] at h; cases h
theorem sLess_asymm {a b : ByteArray} (h : sLess a b = true) : sLess b a = false := by
  cases h2 : sLess b a
  · rfl
  · have := sLess_trans h h2; rw [sLess_irrefl] at this; cases this
theorem leB_iff {a b : ByteArray} : leB a.data.toList b.data.toList = !sLess b a := by
  rw [sLess_lt]
  generalize a.data.toList = x
  generalize b.data.toList = y
  show decide (x ≤ y) = _
  by_cases h : y < x
  · rw [decide_eq_true h, decide_eq_false (fun hle : x ≤ y => hle h)]; rfl
  · rw [decide_eq_false h, decide_eq_true (show x ≤ y from h)]; rfl

/-! ### lists in order -/
/-- the paths ascend -/
def Asc (fs : List Fl) : Prop := fs.Pairwise fun a b => sLess a.1 b.1 = true
/-- no path stands twice -/
def Once (fs : List Fl) : Prop := fs.Pairwise fun a b => a.1 ≠ b.1
theorem Asc.once {fs : List Fl} (h : Asc fs) : Once fs := h.imp fun h => sLess_ne h
theorem Once.perm {fs gs : List Fl} (h : Once fs) (hp : fs.Perm gs) : Once gs := (hp.pairwise_iff (fun {_ _} hne => Ne.symm hne)).1 h
theorem Once.filter {fs : List Fl} (h : Once fs) (q : Fl → Bool) : Once (fs.filter q) := List.Pairwise.filter q h
theorem Asc.filter {fs : List Fl} (h : Asc fs) (q : Fl → Bool) : Asc (fs.filter q) := List.Pairwise.filter q h
theorem Once.inj {fs : List Fl} (h : Once fs) {f g : Fl} (hf : f ∈ fs) (hg : g ∈ fs) (he : f.1 = g.1) : f = g := by
  induction fs with
  | nil => cases hf
  | cons x fs ih =>
    obtain ⟨h1, h2⟩ := List.pairwise_cons.1 h
    rcases List.mem_cons.1 hf with e1 | m1 <;> rcases List.mem_cons.1 hg with e2 | m2
    · rw [e1, e2]
    · subst e1; exact absurd he (h1 _ m2)
    · subst e2; exact absurd he.symm (h1 _ m1)
    · exact ih h2 m1 m2
/-- two ascending lists that hold the same files are one -/
theorem Asc.eq {fs gs : List Fl} (h1 : Asc fs) (h2 : Asc gs) (hp : fs.Perm gs) : fs = gs :=
  List.Perm.eq_of_pairwise (le := fun a b : Fl => sLess a.1 b.1 = true) (fun a b _ _ h h' => by rw [sLess_asymm h] at h'; cases h') h1 h2 hp

/-- one put in, in whatever place -/
def putU (f : Fl) (fs : List Fl) : List Fl := f :: fs.filter fun g => decide (g.1 ≠ f.1)
/-- one struck out -/
def delU (p : ByteArray) (fs : List Fl) : List Fl := fs.filter fun g => decide (g.1 ≠ p)
theorem putU_once {f : Fl} {fs : List Fl} (h : Once fs) : Once (putU f fs) :=
  List.pairwise_cons.2 ⟨fun g hg => by have := (List.mem_filter.1 hg).2; simp at this; exact fun e => this e.symm, h.filter _⟩
theorem putU_perm {f : Fl} {fs gs : List Fl} (h : fs.Perm gs) : (putU f fs).Perm (putU f gs) := (h.filter _).cons _
theorem delU_perm {p : ByteArray} {fs gs : List Fl} (h : fs.Perm gs) : (delU p fs).Perm (delU p gs) := h.filter _
theorem putU_new {f : Fl} {fs : List Fl} (h : ∀ g ∈ fs, g.1 ≠ f.1) : (putU f fs).Perm (fs ++ [f]) := by
  unfold putU
  rw [List.filter_eq_self.2 fun g hg => by simpa using h g hg]
  exact (List.perm_append_singleton f fs).symm
theorem mem_putU {f g : Fl} {fs : List Fl} : g ∈ putU f fs ↔ g = f ∨ (g ∈ fs ∧ g.1 ≠ f.1) := by simp [putU]
theorem mem_delU {p : ByteArray} {g : Fl} {fs : List Fl} : g ∈ delU p fs ↔ g ∈ fs ∧ g.1 ≠ p := by simp [delU]

/-- the files in the order of their paths -/
def srtF (fs : List Fl) : List Fl := fs.mergeSort fun a b => leB a.1.data.toList b.1.data.toList
theorem leB_trans (a b c : List UInt8) (h1 : leB a b = true) (h2 : leB b c = true) : leB a c = true := by simp only [leB, decide_eq_true_eq] at *; exact List.le_trans h1 h2
theorem leB_total (a b : List UInt8) : (leB a b || leB b a) = true := by simp only [leB, Bool.or_eq_true, decide_eq_true_eq]; exact List.le_total a b
theorem srtF_perm (fs : List Fl) : (srtF fs).Perm fs := List.mergeSort_perm _ _
theorem srtF_pw (fs : List Fl) : (srtF fs).Pairwise fun a b => leB a.1.data.toList b.1.data.toList = true :=
  List.pairwise_mergeSort (le := fun a b : Fl => leB a.1.data.toList b.1.data.toList) (fun a b c => leB_trans a.1.data.toList b.1.data.toList c.1.data.toList) (fun a b => leB_total a.1.data.toList b.1.data.toList) fs
theorem srtF_asc {fs : List Fl} (h : Once fs) : Asc (srtF fs) := by
  have h1 : (srtF fs).Pairwise fun a b => leB a.1.data.toList b.1.data.toList = true := srtF_pw fs
  have h2 : Once (srtF fs) := h.perm (srtF_perm fs).symm
  refine (h1.and h2).imp ?_
  rintro a b ⟨hle, hne⟩
  rw [leB_iff] at hle
  exact sLess_total (by simpa using hle) (fun e => hne e.symm)
theorem srtF_eq {fs gs : List Fl} (h : Once fs) (hp : fs.Perm gs) (ha : Asc gs) : srtF fs = gs := (srtF_asc h).eq ha ((srtF_perm fs).trans hp)
theorem srtF_keys {fs : List Fl} {ss : List (List UInt8)} (hp : ss.Perm (fs.map fun f => f.1.data.toList)) : ss.mergeSort (fun x y => decide (x ≤ y)) = (srtF fs).map fun f => f.1.data.toList := by
  refine List.Perm.eq_of_pairwise (le := fun a b => leB a b = true) (fun a b _ _ h1 h2 => ?_) (List.pairwise_mergeSort leB_trans leB_total ss) ?_ (((List.mergeSort_perm ss _).trans hp).trans ((srtF_perm fs).symm.map _))
  · simp only [leB, decide_eq_true_eq] at h1 h2
    exact List.le_antisymm h1 h2
  · exact List.pairwise_map.2 (srtF_pw fs)

/-! ### a map as read -/
section
variable {H : Type}
def ent (f : Fl) : Lit × DataW H := (.string f.1.data.toList, .lit (.string f.2.data.toList))
/-- the map D holds just the files of gs -/
def Rep (D : DataW H) (gs : List Fl) : Prop := ∃ es, D = .map es ∧ es.Perm (gs.map ent) ∧ Once gs
theorem rep_empty : Rep (.map [] : DataW H) [] := ⟨[], rfl, .nil, List.Pairwise.nil⟩
theorem Rep.once {D : DataW H} {gs : List Fl} (h : Rep D gs) : Once gs := let ⟨_, _, _, h⟩ := h; h
theorem Rep.perm {D : DataW H} {gs hs : List Fl} (h : Rep D gs) (hp : gs.Perm hs) : Rep D hs := by
  obtain ⟨es, rfl, h1, h2⟩ := h
  exact ⟨es, rfl, h1.trans (hp.map _), h2.perm hp⟩
theorem insert_perm (x : Lit × DataW H) : ∀ l : List (Lit × DataW H), (DataW.insert x l).Perm (x :: l)
  | [] => .refl _
  | y :: r => by
    unfold DataW.insert
    split
    · exact .refl _
    · exact ((insert_perm x r).cons y).trans (.swap x y r)
theorem sameKey_str (a b : List UInt8) : (Lit.string a).sameKey (.string b) = decide (a = b) := by
  by_cases h : a = b <;> simp [Lit.sameKey, h]
theorem ent_filter (p : ByteArray) (gs : List Fl) : ((gs.map ent : List (Lit × DataW H)).filter fun e => !e.1.sameKey (.string p.data.toList)) = (delU p gs).map ent := by
  unfold delU
  rw [List.filter_map]
  congr 1
  refine List.filter_congr fun g _ => ?_
  show (!(Lit.string g.1.data.toList).sameKey _) = _
  rw [sameKey_str]
  by_cases h : g.1 = p
  · simp [h]
  · have : ¬ g.1.data.toList = p.data.toList := fun e => h (bytes_ext e)
    simp only [this, h, decide_false, Bool.not_false, ne_eq, not_false_eq_true, decide_true]
theorem Rep.put {D : DataW H} {gs : List Fl} (h : Rep D gs) (f : Fl) : Rep (D.put (.string f.1.data.toList) (.lit (.string f.2.data.toList))) (putU f gs) := by
  obtain ⟨es, rfl, h1, h2⟩ := h
  refine ⟨_, rfl, (insert_perm _ _).trans ?_, putU_once h2⟩
  have h3 := h1.filter fun e => !e.1.sameKey (.string f.1.data.toList)
  rw [ent_filter] at h3
  exact h3.cons _
theorem Rep.del {D : DataW H} {gs : List Fl} (h : Rep D gs) (p : ByteArray) : Rep (D.del (.string p.data.toList)) (delU p gs) := by
  obtain ⟨es, rfl, h1, h2⟩ := h
  refine ⟨_, rfl, ?_, h2.filter _⟩
  have h3 := h1.filter fun e => !e.1.sameKey (.string p.data.toList)
  rwa [ent_filter] at h3
theorem Rep.keys {D : DataW H} {gs : List Fl} (h : Rep D gs) : (strKeys D).Perm (gs.map fun f => f.1.data.toList) := by
  obtain ⟨es, rfl, h1, _⟩ := h
  have := h1.map fun p : Lit × DataW H => strOf p.1
  rw [List.map_map] at this
  exact this
theorem Rep.size {D : DataW H} {gs : List Fl} (h : Rep D gs) : Maps.size D = gs.length := by
  obtain ⟨es, rfl, h1, _⟩ := h
  rw [size_eq, h1.length_eq, List.length_map]
theorem Rep.has {D : DataW H} {gs : List Fl} (h : Rep D gs) (p : ByteArray) : Maps.has D (.string p.data.toList) = gs.any fun g => decide (g.1 = p) := by
  obtain ⟨es, rfl, h1, _⟩ := h
  rw [has_eq, h1.any_eq, List.any_map]
  congr 1
  funext g
  show (Lit.string g.1.data.toList).sameKey (.string p.data.toList) = decide (g.1 = p)
  rw [sameKey_str]
  by_cases hg : g.1 = p
  · simp [hg]
  · have : ¬ g.1.data.toList = p.data.toList := fun e => hg (bytes_ext e)
    simp [hg, this]
theorem Rep.at_ {D : DataW H} {gs : List Fl} (h : Rep D gs) {p t : ByteArray} (hm : (p, t) ∈ gs) (z : DataW H) : D.atKey (.string p.data.toList) z = .lit (.string t.data.toList) := by
  obtain ⟨es, rfl, h1, h2⟩ := h
  show (match es.find? (fun e => e.1.sameKey (.string p.data.toList)) with | some e => e.2 | none => z) = _
  cases hf : es.find? (fun e => e.1.sameKey (.string p.data.toList)) with
  | none =>
    rw [List.find?_eq_none] at hf
    have := hf (ent (p, t)) (h1.mem_iff.2 (List.mem_map.2 ⟨_, hm, rfl⟩))
    simp [ent, sameKey_str] at this
  | some e =>
    have hk := List.find?_some hf
    obtain ⟨g, hg, rfl⟩ := List.mem_map.1 (h1.mem_iff.1 (List.mem_of_find?_eq_some hf))
    simp [ent, sameKey_str] at hk
    obtain rfl : g = (p, t) := h2.inj hg hm (bytes_ext (by simpa using hk))
    rfl
end

/-! ### what valid lists are -/
theorem okTo_iff {fs : List Fl} {n : Nat} : okTo fs n = true ↔ ∀ k, k < n → okAt fs k = true := by
  unfold okTo
  rw [List.all_eq_true]
  exact ⟨fun h k hk => h k (by simpa using hk), fun h k hk => h k (by simpa using hk)⟩
theorem asc_of_next {fs : List Fl} (h : ∀ k p t q r, fs[k + 1]? = some (p, t) → fs[k]? = some (q, r) → sLess q p = true) : Asc fs := by
  induction fs with
  | nil => exact List.Pairwise.nil
  | cons x fs ih =>
    have hi := ih fun k p t q r h1 h2 => h (k + 1) p t q r (by simpa using h1) (by simpa using h2)
    refine List.pairwise_cons.2 ⟨fun y hy => ?_, hi⟩
    cases fs with
    | nil => cases hy
    | cons z fs =>
      have hz : sLess x.1 z.1 = true := h 0 z.1 z.2 x.1 x.2 rfl rfl
      rcases List.mem_cons.1 hy with rfl | hy
      · exact hz
      · exact sLess_trans hz ((List.pairwise_cons.1 hi).1 y hy)
theorem validB_iff {fs : List Fl} : validB fs = true ↔ fs.length ≤ 12 ∧ (∀ f ∈ fs, pathB f.1 = true ∧ textB f.2 = true) ∧ Asc fs := by
  unfold validB
  rw [Bool.and_eq_true, decide_eq_true_eq, okTo_iff]
  refine and_congr_right fun _ => ⟨fun h => ⟨fun f hf => ?_, asc_of_next fun k p t q r h1 h2 => ?_⟩, fun ⟨h1, h2⟩ k hk => ?_⟩
  · obtain ⟨k, hk⟩ := List.getElem?_of_mem hf
    have := h k (List.getElem?_eq_some_iff.1 hk).1
    unfold okAt at this
    rw [hk] at this
    simp only [Bool.and_eq_true] at this
    exact this.1
  · have := h (k + 1) (List.getElem?_eq_some_iff.1 h1).1
    unfold okAt at this
    rw [h1] at this
    simp only [h2, Bool.and_eq_true] at this
    exact this.2
  · have hg : fs[k]? = some (fs[k].1, fs[k].2) := List.getElem?_eq_getElem hk
    have hv := h1 fs[k] (List.getElem_mem _)
    cases k with
    | zero => exact okAt_zero hg hv.1 hv.2
    | succ k =>
      have hq : fs[k]? = some (fs[k].1, fs[k].2) := List.getElem?_eq_getElem (by omega)
      rw [okAt_succ hg hq hv.1 hv.2]
      exact (List.pairwise_iff_getElem.1 h2) k (k + 1) (by omega) hk (by omega)
theorem valid_asc {fs : List Fl} (h : validB fs = true) : Asc fs := (validB_iff.1 h).2.2

theorem findF_mem {fs : List Fl} (h : Once fs) {p t : ByteArray} (hm : (p, t) ∈ fs) : findF fs p = (t, true) := by
  induction fs with
  | nil => cases hm
  | cons x fs ih =>
    obtain ⟨h1, h2⟩ := List.pairwise_cons.1 h
    rw [findF]
    rcases List.mem_cons.1 hm with rfl | hm
    · simp
    · rw [if_neg (h1 _ hm)]
      exact ih h2 hm
theorem findF_not {fs : List Fl} {p : ByteArray} (h : ∀ g ∈ fs, g.1 ≠ p) : findF fs p = (.empty, false) :=
  findF_none fun j q t hj => h _ (List.mem_of_getElem? hj)
theorem findF_cases (fs : List Fl) (p : ByteArray) : ((∃ t, (p, t) ∈ fs ∧ findF fs p = (t, true)) ∨ ((∀ g ∈ fs, g.1 ≠ p) ∧ findF fs p = (.empty, false))) := by
  induction fs with
  | nil => exact .inr ⟨by simp, rfl⟩
  | cons x fs ih =>
    rw [findF]
    by_cases h : x.1 = p
    · rw [if_pos h]; exact .inl ⟨x.2, by rw [← h]; simp, rfl⟩
    · rw [if_neg h]
      rcases ih with ⟨t, hm, hf⟩ | ⟨hn, hf⟩
      · exact .inl ⟨t, List.mem_cons_of_mem _ hm, hf⟩
      · refine .inr ⟨fun g hg => ?_, hf⟩
        rcases List.mem_cons.1 hg with e | hg
        · rw [e]; exact h
        · exact hn g hg
end Go.Proofs.YtceiafncpimihaaGreat

namespace Go.Proofs.YtceiafncpimihaaGreat
set_option linter.unusedVariables false
set_option linter.unusedSimpArgs false
open Go.RowKit

/-- the targets ascend -/
def AscR (rs : List Ru) : Prop := rs.Pairwise fun a b => sLess a.1 b.1 = true
/-- the rules without that of a target -/
def delRu (x : ByteArray) (rs : List Ru) : List Ru := rs.filter fun r => decide (r.1 ≠ x)
theorem delRu_asc {x : ByteArray} {rs : List Ru} (h : AscR rs) : AscR (delRu x rs) := List.Pairwise.filter _ h
theorem mem_delRu {x : ByteArray} {rs : List Ru} {r : Ru} : r ∈ delRu x rs ↔ r ∈ rs ∧ r.1 ≠ x := by simp [delRu]
theorem delRu_fit {x : ByteArray} {rs : List Ru} (h : RuFits rs) : RuFits (delRu x rs) := fun r hr => h r (mem_delRu.1 hr).1
theorem delRu_tot (x : ByteArray) : ∀ rs : List Ru, (delRu x rs).length + ruTot (delRu x rs) ≤ rs.length + ruTot rs
  | [] => by simp [delRu]
  | r :: rs => by
    have := delRu_tot x rs
    unfold delRu at this ⊢
    by_cases h : r.1 ≠ x
    · rw [List.filter_cons_of_pos (by simpa using h)]; simp only [List.length_cons, ruTot]; omega
    · rw [List.filter_cons_of_neg (by simpa using h)]; simp only [List.length_cons, ruTot]; omega
/-- a rule ahead of the first one with a greater target -/
def insR (r : Ru) : List Ru → List Ru
  | [] => [r]
  | x :: rs => if sLess r.1 x.1 = true then r :: x :: rs else x :: insR r rs
/-- the rules with another one at its place -/
def putRu (r : Ru) (rs : List Ru) : List Ru := insR r (delRu r.1 rs)
theorem mem_insR {r y : Ru} : ∀ {rs : List Ru}, y ∈ insR r rs ↔ y = r ∨ y ∈ rs
  | [] => by simp [insR]
  | x :: rs => by
    unfold insR
    split
    · simp
    · simp only [List.mem_cons, mem_insR (rs := rs)]
      constructor
      · rintro (h | h | h)
        · exact .inr (.inl h)
        · exact .inl h
        · exact .inr (.inr h)
      · rintro (h | h | h)
        · exact .inr (.inl h)
        · exact .inl h
        · exact .inr (.inr h)
theorem mem_putRu {r y : Ru} {rs : List Ru} : y ∈ putRu r rs ↔ y = r ∨ (y ∈ rs ∧ y.1 ≠ r.1) := by unfold putRu; rw [mem_insR, mem_delRu]
theorem insR_asc {r : Ru} : ∀ {rs : List Ru}, AscR rs → (∀ x ∈ rs, x.1 ≠ r.1) → AscR (insR r rs)
  | [], _, _ => List.pairwise_singleton _ _
  | x :: rs, h, hn => by
    obtain ⟨h1, h2⟩ := List.pairwise_cons.1 h
    unfold insR
    split
    · rename_i hl
      exact List.pairwise_cons.2 ⟨fun y hy => by
        rcases List.mem_cons.1 hy with rfl | hy
        · exact hl
        · exact sLess_trans hl (h1 y hy), h⟩
    · rename_i hl
      refine List.pairwise_cons.2 ⟨fun y hy => ?_, insR_asc h2 fun z hz => hn z (List.mem_cons_of_mem _ hz)⟩
      rcases mem_insR.1 hy with rfl | hy
      · exact sLess_total (by simpa using hl) (fun e => hn x (List.mem_cons_self ..) e.symm)
      · exact h1 y hy
theorem putRu_asc {r : Ru} {rs : List Ru} (h : AscR rs) : AscR (putRu r rs) := insR_asc (delRu_asc h) fun x hx => (mem_delRu.1 hx).2
theorem insR_tot (r : Ru) : ∀ rs : List Ru, (insR r rs).length = rs.length + 1 ∧ ruTot (insR r rs) = ruTot rs + ruSz r
  | [] => by simp [insR, ruTot]
  | x :: rs => by
    unfold insR
    split
    · exact ⟨by simp, by simp only [ruTot]; omega⟩
    · have := insR_tot r rs
      exact ⟨by simp only [List.length_cons]; omega, by simp only [ruTot]; omega⟩
theorem putRu_tot (r : Ru) (rs : List Ru) : (putRu r rs).length ≤ rs.length + 1 ∧ (putRu r rs).length + ruTot (putRu r rs) ≤ rs.length + 1 + ruTot rs + ruSz r := by
  have h1 := insR_tot r (delRu r.1 rs)
  have h2 := delRu_tot r.1 rs
  have h3 : (delRu r.1 rs).length ≤ rs.length := List.length_filter_le (fun x : Ru => decide (x.1 ≠ r.1)) rs
  unfold putRu
  omega
/-- a step of l3With -/
def wst (r : Ru) (s : List Ru × Bool) (x : Ru) : List Ru × Bool := if s.2 = false ∧ sLess r.1 x.1 = true then (s.1 ++ [r, x], true) else (s.1 ++ [x], s.2)
def withTo (r : Ru) (l : List Ru) : List Ru × Bool := l.foldl (wst r) ([], false)
theorem wst_true (r : Ru) : ∀ (l acc : List Ru), l.foldl (wst r) (acc, true) = (acc ++ l, true)
  | [], acc => by simp
  | x :: l, acc => by
    rw [List.foldl_cons, show wst r (acc, true) x = (acc ++ [x], true) by simp [wst], wst_true r l]
    simp
theorem wst_false (r : Ru) : ∀ (l acc : List Ru), (if (l.foldl (wst r) (acc, false)).2 = true then (l.foldl (wst r) (acc, false)).1 else (l.foldl (wst r) (acc, false)).1 ++ [r]) = acc ++ insR r l
  | [], acc => by simp [insR]
  | x :: l, acc => by
    rw [List.foldl_cons]
    by_cases h : sLess r.1 x.1 = true
    · rw [show wst r (acc, false) x = (acc ++ [r, x], true) by simp [wst, h], wst_true r l]
      simp [insR, h]
    · rw [show wst r (acc, false) x = (acc ++ [x], false) by simp [wst, h], wst_false r l]
      simp [insR, h]
theorem withTo_ins (r : Ru) (l : List Ru) : (if (withTo r l).2 = true then (withTo r l).1 else (withTo r l).1 ++ [r]) = insR r l := by
  unfold withTo
  simpa using wst_false r l []
theorem withTo_succ {r x : Ru} {l : List Ru} {k : Nat} (h : l[k]? = some x) : withTo r (l.take (k + 1)) = wst r (withTo r (l.take k)) x := by
  unfold withTo
  rw [List.take_add_one, h, List.foldl_append]
  rfl
theorem withTo_len (r : Ru) (l : List Ru) : (withTo r l).1.length ≤ l.length + 1 := by
  have h := congrArg List.length (withTo_ins r l)
  have h2 := (insR_tot r l).1
  split at h
  · omega
  · rw [List.length_append] at h; simp at h; omega

theorem delRu_take {x t s : ByteArray} {k : Int} {ks : Fo} {rs : List Ru} {j : Nat} (h : rs[j]? = some (t, k, s, ks)) : delRu x (rs.take (j + 1)) = delRu x (rs.take j) ++ if t = x then [] else [(t, k, s, ks)] := by
  unfold delRu
  rw [List.take_add_one, h, List.filter_append]
  by_cases e : t = x <;> simp [e]
/-- rules of moderate size -/
def RuZ6 (rs : List Ru) : Prop := rs.length ≤ 1048576 ∧ ∀ x ∈ rs, x.2.2.2.size ≤ 1048576
theorem RuZ6.z {rs : List Ru} (h : RuZ6 rs) : RuZ rs := ⟨by have := h.1; omega, h.2⟩
theorem RuZ6.del {rs : List Ru} (h : RuZ6 rs) (x : ByteArray) : RuZ6 (delRu x rs) := ⟨Nat.le_trans (List.length_filter_le _ _) h.1, fun y hy => h.2 y (mem_delRu.1 hy).1⟩
theorem ruZ6_of {rs : List Ru} (h : rs.length + ruTot rs ≤ 1048576) : RuZ6 rs := ⟨by omega, (ruZ_of (by omega)).2⟩
theorem RuZ6.put {rs : List Ru} (h : RuZ6 rs) {r : Ru} (hr : r.2.2.2.size ≤ 1048576) : RuZ (putRu r rs) := ⟨by have := (putRu_tot r rs).1; have := h.1; omega, fun y hy => by
  rcases mem_putRu.1 hy with rfl | hy
  · exact hr
  · exact h.2 y hy.1⟩
end Go.Proofs.YtceiafncpimihaaGreat

namespace Go.Proofs.YtceiafncpimihaaGreat
set_option linter.unusedVariables false
open Go.RowKit

theorem Fo.drop_tot_le : ∀ (f : Fo) (j : Nat), (f.drop j).tot ≤ f.tot
  | .nil, 0 => Nat.le_refl _
  | .nil, _ + 1 => Nat.le_refl _
  | .node k s ks r, 0 => Nat.le_refl _
  | .node k s ks r, j + 1 => by have := drop_tot_le r j; simp only [drop, tot]; omega
/-- what is left behind a list of expressions -/
def szS (left : Int) (f : Fo) : Int := if (f.len + f.tot : Int) ≤ left then left - (f.len + f.tot) else -1
/-- what is left behind one expression -/
def szE (left : Int) (s : ByteArray) (ks : Fo) : Int := if (s.size + ks.len + ks.tot : Int) ≤ left then left - (s.size + ks.len + ks.tot) else -1
end Go.Proofs.YtceiafncpimihaaGreat

namespace Go.Proofs.YtceiafncpimihaaGreat
set_option linter.unusedVariables false
open Go.RowKit

theorem set_size (w : World) (p : Addr) (u : Value) : (w.setCell p u).heap.size = w.heap.size := by simp [World.setCell]
/-- the nodes up to a place stand in these cells -/
def DoneTo (w : World) (L B : Nat) (f : Fo) (cur : Array Value) (j : Nat) : Prop := ∀ i k s ks, i < j → f.get i = some (k, s, ks) →
  cur[i * 3]? = some (.int .i64 k) ∧ cur[i * 3 + 1]? = some (.string s) ∧ ∃ a n, cur[i * 3 + 2]? = some (.slice a n n) ∧ KA w L B ks a n
section
variable {w w' : World} {L B B' g j n : Nat} {f ks : Fo} {k : Int} {s : ByteArray} {cur : Array Value} {a : Option Addr}
theorem DoneTo.zero : DoneTo w L B f cur 0 := fun i k s ks h => absurd h (by omega)
theorem DoneTo.next (h : DoneTo w L w.heap.size f cur j) (hb : Below w.heap.size w w') : DoneTo w' L w'.heap.size f cur j := fun i k s ks hi hg =>
  let ⟨h1, h2, a, n, h3, h4⟩ := h i k s ks hi hg
  ⟨h1, h2, a, n, h3, h4.next hb⟩
theorem DoneTo.step (h : DoneTo w L B f cur j) (hg : f.get j = some (k, s, ks)) (hk : KA w L B ks a n) (hs : j * 3 + 2 < cur.size) (hL : g < L) (x y z : Value) :
    DoneTo (((w.setCell ⟨g, j * 3, none⟩ x).setCell ⟨g, j * 3 + 1, none⟩ y).setCell ⟨g, j * 3 + 2, none⟩ z) L B f
      (((cur.setIfInBounds (j * 3) (.int .i64 k)).setIfInBounds (j * 3 + 1) (.string s)).setIfInBounds (j * 3 + 2) (.slice a n n)) (j + 1) := by
  intro i k' s' ks' hi hgi
  by_cases e : i = j
  · subst e
    rw [hg] at hgi
    simp only [Option.some.injEq, Prod.mk.injEq] at hgi
    obtain ⟨rfl, rfl, rfl⟩ := hgi
    refine ⟨?_, ?_, a, n, ?_, ((hk.setCell (.inl hL) _ _).setCell (.inl hL) _ _).setCell (.inl hL) _ _⟩
    · rw [Array.getElem?_setIfInBounds_ne (by omega), Array.getElem?_setIfInBounds_ne (by omega), Array.getElem?_setIfInBounds_self_of_lt (by omega)]
    · rw [Array.getElem?_setIfInBounds_ne (by omega), Array.getElem?_setIfInBounds_self_of_lt (by simp; omega)]
    · rw [Array.getElem?_setIfInBounds_self_of_lt (by simp; omega)]
  · obtain ⟨h1, h2, a', n', h3, h4⟩ := h i k' s' ks' (by omega) hgi
    refine ⟨?_, ?_, a', n', ?_, ((h4.setCell (.inl hL) _ _).setCell (.inl hL) _ _).setCell (.inl hL) _ _⟩
    · rw [Array.getElem?_setIfInBounds_ne (by omega), Array.getElem?_setIfInBounds_ne (by omega), Array.getElem?_setIfInBounds_ne (by omega)]; exact h1
    · rw [Array.getElem?_setIfInBounds_ne (by omega), Array.getElem?_setIfInBounds_ne (by omega), Array.getElem?_setIfInBounds_ne (by omega)]; exact h2
    · rw [Array.getElem?_setIfInBounds_ne (by omega), Array.getElem?_setIfInBounds_ne (by omega), Array.getElem?_setIfInBounds_ne (by omega)]; exact h3
/-- a row of cells that holds all the nodes is the list -/
theorem DoneTo.all {e : TypeId} (h : DoneTo w (g + 1) w.heap.size f cur n) (hl : f.len = n) (hb : w.heap[g]? = some (.cells cur e (0, 0))) (hL : L ≤ g) : KA w L w.heap.size f (some ⟨g, 0, none⟩) n := by
  refine ⟨hl, fun hn => ⟨g, 0, rfl, hL, blk_lt hb, seg_of fun j k s ks hg => ?_⟩⟩
  obtain ⟨h1, h2, a, m, h3, h4⟩ := h j k s ks (by have := Fo.get_lt hg; omega) hg
  refine ⟨?_, ?_, a, m, m, ?_, Nat.le_refl _, h4.more (by omega) (Nat.le_refl _)⟩
  · rw [Nat.zero_add, cell_of_row _ _ _ _ _ _ hb]; exact h1
  · rw [Nat.zero_add, cell_of_row _ _ _ _ _ _ hb]; exact h2
  · rw [Nat.zero_add, cell_of_row _ _ _ _ _ _ hb]; exact h3
end
/-- what toExpr leaves -/
def ToP (k : Int) (s : ByteArray) (ks : Fo) (w : World) (e : Ending) (w' : World) : Prop :=
  ∃ g, e = .returned (.agg #[.int .i64 k, .string s, .slice (some ⟨g, 0, none⟩) ks.len ks.len]) ∧ KA w' w.heap.size w'.heap.size ks (some ⟨g, 0, none⟩) ks.len ∧ Below w.heap.size w w'

theorem expr_info : (Tryz.prog.info? 43).map (fun i => (i.zero, i.size, i.bytes)) = some (some (.agg #[.int .i64 0, .string .empty, .slice none 0 0]), 3, 48) := by kernel_rfl

end Go.Proofs.YtceiafncpimihaaGreat

namespace Go.Proofs.YtceiafncpimihaaGreat
set_option linter.unusedVariables false
open Go.RowKit

end Go.Proofs.YtceiafncpimihaaGreat

namespace Go.Proofs.YtceiafncpimihaaGreat
set_option linter.unusedVariables false
open Go.RowKit

/-- what is left of a budget behind a file -/
def szOne (left : Int) (f : Fl) : Int := if (f.1.size + f.2.size : Int) ≤ left then left - (f.1.size + f.2.size) else -1

def eqFl (a b : Fl) : Bool := a.1.toList == b.1.toList && a.2.toList == b.2.toList
theorem eqFl_iff (a b : Fl) : eqFl a b = decide (a = b) := by
  unfold eqFl
  rw [sEq, sEq]
  obtain ⟨a1, a2⟩ := a
  obtain ⟨b1, b2⟩ := b
  by_cases h1 : a1 = b1 <;> by_cases h2 : a2 = b2 <;> simp [h1, h2]

/-- what is left of a budget behind a list of files -/
def szAll (left : Int) (fs : List Fl) : Int := if (fs.length + tot fs : Int) ≤ left then left - (fs.length + tot fs) else -1

/-- what the law's argument is told of: a readable list of files -/
def InF (w : World) (a : Option Addr) (len : Nat) (fs : List Fl) : Prop := FilesAt w w.heap.size a len fs ∧ Fits fs ∧ len ≤ maxLen

theorem szAll_neg {left : Int} {fs : List Fl} (h : ¬ (fs.length + tot fs : Int) ≤ left) : szAll left fs = -1 := by unfold szAll; rw [if_neg h]
theorem szAll_pos {left : Int} {fs : List Fl} (h : (fs.length + tot fs : Int) ≤ left) : szAll left fs = left - (fs.length + tot fs) := by unfold szAll; rw [if_pos h]

theorem file_info : (Tryz.prog.info? 28).map (fun i => (i.zero, i.size, i.bytes)) = some (some (.agg #[.string .empty, .string .empty]), 2, 32) := by kernel_rfl

end Go.Proofs.YtceiafncpimihaaGreat

namespace Go.Proofs.YtceiafncpimihaaGreat
set_option linter.unusedVariables false
set_option linter.unusedSimpArgs false
open Go.RowKit

/-- what szRule answers -/
def szR (left : Int) (t s : ByteArray) (ks : Fo) : Int := if (t.size + (s.size + ks.len + ks.tot) : Int) ≤ left then left - (t.size + (s.size + ks.len + ks.tot)) else -1
/-- what szRuleS answers -/
def szRs (left : Int) (rs : List Ru) : Int := if (rs.length + ruTot rs : Int) ≤ left then left - (rs.length + ruTot rs) else -1

end Go.Proofs.YtceiafncpimihaaGreat

namespace Go.Proofs.YtceiafncpimihaaGreat
set_option linter.unusedVariables false
set_option linter.unusedSimpArgs false
open Go.RowKit

/-- block g is a box with a rule -/
def BxR (w : World) (g : Nat) (t : ByteArray) (k : Int) (s : ByteArray) (v : Value) (T : TypeId) : Prop := w.heap[g]? = some (.cells #[.string t, .int .i64 k, .string s, v] T (0, 0))
section
variable {w w' : World} {g : Nat} {k : Int} {s t : ByteArray} {v : Value} {T : TypeId}
theorem BxR.new (w : World) (t : ByteArray) (k : Int) (s : ByteArray) (v : Value) (T : TypeId) : BxR (w.alloc (.cells #[.string t, .int .i64 k, .string s, v] T)) w.heap.size t k s v T := heap_alloc_new w _
theorem BxR.next (h : BxR w g t k s v T) (hB : Below w.heap.size w w') : BxR w' g t k s v T := (hB.block g (blk_lt h)).trans h
theorem BxR.below {D : Nat} (h : BxR w g t k s v T) (hg : g < D) (hB : Below D w w') : BxR w' g t k s v T := (hB.block g hg).trans h
theorem BxR.alloc (h : BxR w g t k s v T) (o : Obj) : BxR (w.alloc o) g t k s v T := (Below.heap_alloc w o g (blk_lt h)).trans h
theorem BxR.facts (h : BxR w g t k s v T) : w.cell? ⟨g, 0, none⟩ = some (.string t) ∧ w.cell? ⟨g, 1, none⟩ = some (.int .i64 k) ∧ w.cell? ⟨g, 2, none⟩ = some (.string s) ∧ w.cell? ⟨g, 3, none⟩ = some v ∧ w.frozen? ⟨g, 0, none⟩ = false ∧ w.frozen? ⟨g, 1, none⟩ = false ∧ w.frozen? ⟨g, 2, none⟩ = false ∧ w.frozen? ⟨g, 3, none⟩ = false ∧ g < w.heap.size :=
  ⟨by rw [cell_of_row _ _ _ _ _ _ h]; rfl, by rw [cell_of_row _ _ _ _ _ _ h]; rfl, by rw [cell_of_row _ _ _ _ _ _ h]; rfl, by rw [cell_of_row _ _ _ _ _ _ h]; rfl, blk_frozen h 0, blk_frozen h 1, blk_frozen h 2, blk_frozen h 3, blk_lt h⟩
end
theorem bxR_grown {w w' : World} {g : Nat} {t s : ByteArray} {k : Int} {v : Value} {T : TypeId} {r : Option Nat} (h : BxR w g t k s v T) (hg : w.grownBy w' r) (hne : ∀ x, r = some x → g < x) : BxR w' g t k s v T := (hg.block g (blk_lt h) (fun e => by have := hne _ e.symm; omega)).trans h
/-- what toRule leaves -/
def ToRP (t : ByteArray) (k : Int) (s : ByteArray) (ks : Fo) (w : World) (e : Ending) (w' : World) : Prop :=
  ∃ g, e = .returned (.agg #[.string t, .int .i64 k, .string s, .slice (some ⟨g, 0, none⟩) ks.len ks.len]) ∧ KA w' w.heap.size w'.heap.size ks (some ⟨g, 0, none⟩) ks.len ∧ Below w.heap.size w w'

theorem rule_info : (Tryz.prog.info? 45).map (fun i => (i.zero, i.size, i.bytes)) = some (some (.agg #[.string .empty, .int .i64 0, .string .empty, .slice none 0 0]), 4, 64) := by kernel_rfl

end Go.Proofs.YtceiafncpimihaaGreat

namespace Go.Proofs.YtceiafncpimihaaGreat
set_option linter.unusedVariables false
set_option linter.unusedSimpArgs false
open Go.RowKit

/-- the cells of rules whose trees are as K says -/
def RowG (K : Fo → Option Addr → Prop) : List Ru → List Value → Prop
  | [], xs => xs = []
  | x :: rs, xs => ∃ a c ys, xs = .string x.1 :: .int .i64 x.2.1 :: .string x.2.2.1 :: .slice a x.2.2.2.len c :: ys ∧ x.2.2.2.len ≤ c ∧ K x.2.2.2 a ∧ RowG K rs ys
/-- a list of such rules that can be read -/
def RuG (K : Fo → Option Addr → Prop) (w : World) (rs : List Ru) (a : Option Addr) (n : Nat) : Prop := rs.length = n ∧ (0 < n → ∃ b off, a = some ⟨b, off, none⟩ ∧ b < w.heap.size ∧ ∀ j t k s ks, rs[j]? = some (t, k, s, ks) →
  w.cell? ⟨b, off + j * 4, none⟩ = some (.string t) ∧ w.cell? ⟨b, off + j * 4 + 1, none⟩ = some (.int .i64 k) ∧ w.cell? ⟨b, off + j * 4 + 2, none⟩ = some (.string s) ∧ ∃ a' c, w.cell? ⟨b, off + j * 4 + 3, none⟩ = some (.slice a' ks.len c) ∧ ks.len ≤ c ∧ K ks a')
/-- an own list of them -/
def OwnG (K : Fo → Option Addr → Prop) (w : World) (base : Nat) (v : Value) (rs : List Ru) : Prop := base ≤ w.heap.size ∧ ∃ xs, w.ownsRow base 45 4 v rs.length xs ∧ RowG K rs xs
theorem rulesG_under : Tryz.prog.underlying 24 = some (.slice 45) := by kernel_rfl
theorem ruleG_info4 : (Tryz.prog.info? 45).map (fun i => (i.zero, i.size, i.bytes)) = some (some (.agg #[.string .empty, .int .i64 0, .string .empty, .slice none 0 0]), 4, 64) := by kernel_rfl
section
variable {K K' : Fo → Option Addr → Prop} {w w' : World} {base base' n : Nat} {v : Value} {a : Option Addr} {rs : List Ru} {xs : List Value}
theorem rowG_imp (hK : ∀ ks a, K ks a → K' ks a) : ∀ {rs : List Ru} {xs : List Value}, RowG K rs xs → RowG K' rs xs
  | [], _, h => h
  | x :: rs, _, ⟨a, c, ys, e, hc, hk, h⟩ => ⟨a, c, ys, e, hc, hK _ _ hk, rowG_imp hK h⟩
theorem rowG_snoc {t s : ByteArray} {k : Int} {ks : Fo} {c : Nat} (hc : ks.len ≤ c) (h1 : K ks a) : ∀ {rs : List Ru} {xs : List Value}, RowG K rs xs → RowG K (rs ++ [(t, k, s, ks)]) (xs ++ [.string t, .int .i64 k, .string s, .slice a ks.len c])
  | [], _, h => by simp only [RowG] at h; subst h; exact ⟨a, c, [], rfl, hc, h1, rfl⟩
  | x :: rs, _, ⟨a', c', ys, e, hc', h7, h⟩ => by subst e; exact ⟨a', c', _, rfl, hc', h7, rowG_snoc hc h1 h⟩
theorem rowG_get : ∀ {rs : List Ru} {xs : List Value} {j : Nat} {x : Ru}, RowG K rs xs → rs[j]? = some x →
    ∃ a c, xs[j * 4]? = some (.string x.1) ∧ xs[j * 4 + 1]? = some (.int .i64 x.2.1) ∧ xs[j * 4 + 2]? = some (.string x.2.2.1) ∧ xs[j * 4 + 3]? = some (.slice a x.2.2.2.len c) ∧ x.2.2.2.len ≤ c ∧ K x.2.2.2 a
  | x :: rs, _, 0, _, ⟨a, c, ys, e, hc, h1, h⟩, hx => by
    simp only [List.getElem?_cons_zero, Option.some.injEq] at hx
    subst hx e
    exact ⟨a, c, rfl, rfl, rfl, rfl, hc, h1⟩
  | x :: rs, _, j + 1, _, ⟨a, c, ys, e, hc, _, h⟩, hx => by
    subst e
    have := rowG_get (j := j) h (by simpa using hx)
    simpa only [show (j + 1) * 4 = j * 4 + 4 from by omega, show j * 4 + 4 + 1 = (j * 4 + 1) + 4 from by omega, show j * 4 + 4 + 2 = (j * 4 + 2) + 4 from by omega, show j * 4 + 4 + 3 = (j * 4 + 3) + 4 from by omega, List.getElem?_cons_succ] using this
  | [], _, _, _, _, hx => by simp at hx
theorem RuG.imp (h : RuG K w rs a n) (hK : ∀ ks a, K ks a → K' ks a) : RuG K' w rs a n :=
  ⟨h.1, fun hn => let ⟨b, off, e, hb, hc⟩ := h.2 hn; ⟨b, off, e, hb, fun j t k s ks hj => let ⟨c0, c1, c2, a', c, c3, hl, hk⟩ := hc j t k s ks hj; ⟨c0, c1, c2, a', c, c3, hl, hK _ _ hk⟩⟩⟩
theorem RuG.next (h : RuG K w rs a n) (hB : Below w.heap.size w w') : RuG K w' rs a n :=
  ⟨h.1, fun hn => let ⟨b, off, e, hb, hc⟩ := h.2 hn; ⟨b, off, e, Nat.lt_of_lt_of_le hb hB.size, fun j t k s ks hj =>
    let ⟨c0, c1, c2, a', c, c3, hl, hk⟩ := hc j t k s ks hj
    ⟨(hB.cell (p := ⟨b, off + j * 4, none⟩) hb).trans c0, (hB.cell (p := ⟨b, off + j * 4 + 1, none⟩) hb).trans c1, (hB.cell (p := ⟨b, off + j * 4 + 2, none⟩) hb).trans c2, a', c, (hB.cell (p := ⟨b, off + j * 4 + 3, none⟩) hb).trans c3, hl, hk⟩⟩⟩
theorem RuG.get (h : RuG K w rs a n) {j : Nat} (hj : j < n) : ∃ b off t k s ks a' c, a = some ⟨b, off, none⟩ ∧ b < w.heap.size ∧ rs[j]? = some (t, k, s, ks) ∧
    w.cell? ⟨b, off + j * 4, none⟩ = some (.string t) ∧ w.cell? ⟨b, off + j * 4 + 1, none⟩ = some (.int .i64 k) ∧ w.cell? ⟨b, off + j * 4 + 2, none⟩ = some (.string s) ∧ w.cell? ⟨b, off + j * 4 + 3, none⟩ = some (.slice a' ks.len c) ∧ ks.len ≤ c ∧ K ks a' := by
  obtain ⟨h1, h2⟩ := h
  obtain ⟨b, off, rfl, hb, hc⟩ := h2 (by omega)
  obtain ⟨⟨t, k, s, ks⟩, hx⟩ : ∃ x, rs[j]? = some x := ⟨_, List.getElem?_eq_getElem (by omega)⟩
  obtain ⟨c0, c1, c2, a', c, c3, hl, hk⟩ := hc j t k s ks hx
  exact ⟨b, off, t, k, s, ks, a', c, rfl, hb, hx, c0, c1, c2, c3, hl, hk⟩
theorem RuG.under (h : RuG K w rs a n) (hB : Below w.heap.size w w') {j : Nat} (hj : j < n) : ∃ b off t k s ks a' c, a = some ⟨b, off, none⟩ ∧ b < w.heap.size ∧ rs[j]? = some (t, k, s, ks) ∧
    w'.cell? ⟨b, off + j * 4, none⟩ = some (.string t) ∧ w'.cell? ⟨b, off + j * 4 + 1, none⟩ = some (.int .i64 k) ∧ w'.cell? ⟨b, off + j * 4 + 2, none⟩ = some (.string s) ∧ w'.cell? ⟨b, off + j * 4 + 3, none⟩ = some (.slice a' ks.len c) ∧ ks.len ≤ c ∧ K ks a' := by
  obtain ⟨b, off, t, k, s, ks, a', c, e, hb, hx, c0, c1, c2, c3, hl, hk⟩ := h.get hj
  exact ⟨b, off, t, k, s, ks, a', c, e, hb, hx, (hB.cell (p := ⟨b, off + j * 4, none⟩) hb).trans c0, (hB.cell (p := ⟨b, off + j * 4 + 1, none⟩) hb).trans c1, (hB.cell (p := ⟨b, off + j * 4 + 2, none⟩) hb).trans c2, (hB.cell (p := ⟨b, off + j * 4 + 3, none⟩) hb).trans c3, hl, hk⟩
theorem OwnG.nil (K : Fo → Option Addr → Prop) (w : World) (h : base ≤ w.heap.size) : OwnG K w base (.slice none 0 0) [] := ⟨h, [], World.ownsRow_nil _ _ _ _, rfl⟩
theorem OwnG.made (K : Fo → Option Addr → Prop) (w : World) (hb : base ≤ w.heap.size) : OwnG K (w.alloc (.cells #[] 45)) base (.slice (some ⟨w.heap.size, 0, none⟩) 0 0) [] := ⟨by simp; omega, [], World.ownsRow_made w _ _ hb (by simp [maxLen]) rfl, rfl⟩
theorem OwnG.lt (h : OwnG K w base v rs) : ∀ g, v.ownBlock = some g → base ≤ g ∧ g < w.heap.size := by
  obtain ⟨_, xs, h1, _⟩ := h
  exact World.ownsRow.lt h1
theorem OwnG.imp (h : OwnG K w base v rs) (hK : ∀ ks a, K ks a → K' ks a) : OwnG K' w base v rs := let ⟨h0, xs, h1, h2⟩ := h; ⟨h0, xs, h1, rowG_imp hK h2⟩
theorem OwnG.below (h : OwnG K w base v rs) (hb : Below w.heap.size w w') : OwnG K w' base v rs := by
  obtain ⟨h0, xs, h1, h2⟩ := h
  exact ⟨Nat.le_trans h0 hb.size, xs, World.ownsRow.kept (row := none) h1 ⟨hb.os, hb.tape, hb.output, hb.size, fun i hi _ => hb.block i hi⟩ (by cases v.ownBlock <;> simp), h2⟩
theorem OwnG.grown {r : Option Nat} (h : OwnG K w base v rs) (hg : w.grownBy w' r) (hr : ∀ g, r = some g → g < base ∨ w.heap.size ≤ g) : OwnG K w' base v rs := by
  obtain ⟨h0, xs, h1, h2⟩ := h
  refine ⟨Nat.le_trans h0 hg.size, xs, World.ownsRow.kept h1 hg ?_, h2⟩
  cases hv : v.ownBlock with
  | none => exact .inl rfl
  | some g => exact .inr fun e => by have := World.ownsRow.lt h1 g hv; have := hr g e.symm; omega
theorem OwnG.setCell (h : OwnG K w base v rs) {g : Nat} (hg : g < base) (i : Nat) (u : Value) : OwnG K (w.setCell ⟨g, i, none⟩ u) base v rs :=
  h.grown (r := some g) (grown_set (World.grownBy.refl w _) (.inl rfl) u) fun j e => by injection e with e; omega
theorem OwnG.drewN (h : OwnG K w base v rs) (m : Nat) : OwnG K (w.drewN m) base v rs := h.grown (grown_drewN (World.grownBy.refl w none) m) fun j e => by cases e
theorem OwnG.mono (h : OwnG K w base v rs) (hb : base' ≤ base) : OwnG K w base' v rs := let ⟨h0, xs, h1, h2⟩ := h; ⟨Nat.le_trans hb h0, xs, World.ownsRow.mono h1 hb, h2⟩
/-- as a slice that can be read -/
theorem OwnG.form (h : OwnG K w base v rs) : ∃ a c, v = .slice a rs.length c ∧ rs.length ≤ c ∧ RuG K w rs a rs.length := by
  obtain ⟨h00, xs, h1, h2⟩ := h
  rcases h1.2 with ⟨rfl, h0⟩ | ⟨g, cap, cur, rfl, hb, hg, hc, hm, _⟩
  · exact ⟨none, 0, by rw [h0], by omega, rfl, fun h => absurd h (by omega)⟩
  · refine ⟨_, cap, rfl, hc, rfl, fun _ => ⟨g, 0, rfl, blk_lt hg, fun j t k s ks hj => ?_⟩⟩
    have hcell : ∀ j u, xs[j]? = some u → w.cell? ⟨g, j, none⟩ = some u := fun j u hu => by
      have := World.ownsRow.cells h1 (g := g) rfl j u hu
      rwa [add_none, Nat.zero_add] at this
    obtain ⟨a, c, e0, e1, e2, e3, hc', hk⟩ := rowG_get h2 hj
    rw [Nat.zero_add]
    exact ⟨hcell _ _ e0, hcell _ _ e1, hcell _ _ e2, a, c, hcell _ _ e3, hc', hk⟩
end
/-- one more rule -/
theorem wpList_append_rg {K : Fo → Option Addr → Prop} {w : World} {ops : Array Oper} {rest : List Oper} {o : Oper} {a : Act} {Q : Exit → Act → World → Prop} (hgd : o.guard = none) (s x : Operand)
    (ho : o.op = .call { callee := .builtin .append, args := #[s, x], argTypes := #[24, 24] })
    (base : Nat) (v : Value) (rs : List Ru) (hs : a.eval s = v) (hown : OwnG K w base v rs) (g c1 : Nat) (hx : a.eval x = .slice (some ⟨g, 0, none⟩) 1 c1)
    (t : ByteArray) (k : Int) (y : ByteArray) (ks : Fo) (ad : Option Addr) (c : Nat) {T : TypeId} (hbx : w.heap[g]? = some (.cells #[.string t, .int .i64 k, .string y, .slice ad ks.len c] T (0, 0))) (hc : ks.len ≤ c) (hk : K ks ad)
    (h63 : rs.length ≤ 1000000000)
    (h : ∀ g cap w', OwnG K w' base (.slice (some ⟨g, 0, none⟩) (rs.length + 1) cap) (rs ++ [(t, k, y, ks)]) → w.grownBy w' v.ownBlock → g < w'.heap.size → base ≤ g → wpList Tryz.prog ops Q rest (a.put o.dst (.slice (some ⟨g, 0, none⟩) (rs.length + 1) cap)) w') :
    wpList Tryz.prog ops Q (o :: rest) a w := by
  obtain ⟨i, hi, hz0, hz1, hz2⟩ := info_parts ruleG_info4
  obtain ⟨h00, xs, h1, h2⟩ := hown
  refine wpList_append_at hgd s x 24 ho base 45 i _ 4 64 rulesG_under hi hz0 hz1 hz2 rfl (by decide) v rs.length xs hs h1 ⟨g, 0, none⟩ 1 c1 [.string t, .int .i64 k, .string y, .slice ad ks.len c] hx rfl ?_ (by simp [Value.oneCell']) (by simp only [maxLen]; omega) (by omega) h00 fun v' w' h8 h9 h10 => ?_
  · intro j u hu
    rw [add_none, cell_of_row _ _ _ _ _ _ hbx]
    simpa using hu
  · have h11 := rowG_snoc (t := t) (k := k) (s := y) hc hk h2
    have h14 : w'.ownsRow base 45 4 v' (rs ++ [(t, k, y, ks)]).length (xs ++ [.string t, .int .i64 k, .string y, .slice ad ks.len c]) := by rw [List.length_append]; exact h8
    obtain ⟨g', cap', rfl, h15, h16⟩ := World.ownsRow.form h8 (by omega)
    exact h g' cap' w' ⟨Nat.le_trans h00 h9.size, _, h14, h11⟩ h9 h16 h15

set_option maxRecDepth 100000 in
set_option maxHeartbeats 2000000 in
theorem l3Without_g {K : Fo → Option Addr → Prop} (a : Option Addr) (n c : Nat) (rs : List Ru) (x : ByteArray) (w : World) (hr : RuG K w rs a n) (hn : n ≤ 1048576) :
    Calls Tryz.prog 52 #[.slice a n c, .string x] w fun e w' => ∃ v, e = .returned v ∧ OwnG K w' w.heap.size v (delRu x rs) ∧ Below w.heap.size w w' := by
  have hlen := Lib.hid hr.1
  go_enter Tryz.func52, Tryz.ntmps52
  go_wp2_with fail
  go_loopw [5, 6] (fun v i wr => ∃ j : Nat, j ≤ n ∧ i = .int .i64 j ∧ OwnG K wr w.heap.size v (delRu x (rs.take j)) ∧ Below w.heap.size w wr) (fun _ i _ => n - (intOf i).toNat)
  case atStart => exact ⟨0, Nat.zero_le _, rfl, by simpa [delRu] using OwnG.made K w (Nat.le_refl _), (Below.refl _ _).alloc (Nat.le_refl _) _⟩
  case round =>
    obtain ⟨j, hj, rfl, hown, hB⟩ := hrel
    have Hown := Lib.hid hown
    clear hown
    by_cases hlt : j < n
    · obtain ⟨b, off, t3, k3, s3, ks3, a3, c3, rfl, hb3, hg3, hc0, hc1, hc2, hc3, hcap3, hk3⟩ := hr.under hB hlt
      have hjj : (j : Int) < (n : Int) := by omega
      have hj0 : (0 : Int) ≤ (j : Int) := by omega
      have hst := Lib.hid (delRu_take (x := x) hg3)
      have hdl : (delRu x (rs.take j)).length ≤ 1048576 := by have := List.length_filter_le (fun r : Ru => decide (r.1 ≠ x)) (rs.take j); have := List.length_take_le j rs; unfold delRu; omega
      have hbs := hB.size
      have Hk3 := Lib.hid hk3
      clear hg3 hk3
      by_cases hpx : t3 = x
      · subst hpx
        have hd : (t3.toList == t3.toList) = true := by simp
        go_wp2_with fail
        exact ⟨⟨j + 1, by omega, by go_num, by rw [hst.out]; simpa using Hown.out, hB⟩, by simp [intOf]; omega⟩
      · have hd : (t3.toList == x.toList) = false := by rw [sEq]; simpa using hpx
        have Hpx := Lib.hid hpx
        clear hpx
        go_wp2_with (at_builtin; refine wpList_append_rg rfl _ _ rfl w.heap.size _ (delRu x (rs.take j)) rfl (Hown.out.below ((Below.refl _ _).alloc (Nat.le_refl _) _)) wr.heap.size 1 rfl t3 k3 s3 ks3 a3 c3 (heap_alloc_new wr _) hcap3 Hk3.out (by omega) ?_; intro g6 cap6 w6 hown6 hgrow6 hlt6 hbg6)
        have hlo := Hown.out.lt
        exact ⟨⟨j + 1, by omega, by go_num, by rw [hst.out, if_neg Hpx.out]; exact hown6, (hB.alloc hbs _).grown hgrow6 (by simp; omega) (fun g' e => (hlo _ e).1)⟩, by simp [intOf]; omega⟩
    · have hall : rs.take j = rs := List.take_of_length_le (by have := hlen.out; omega)
      have hjj : ¬ (j : Int) < (n : Int) := by omega
      rw [hall] at Hown
      clear hall
      go_wp2_with fail
      go_ret
      exact ⟨_, rfl, Hown.out, hB⟩

set_option maxRecDepth 100000 in
set_option maxHeartbeats 4000000 in
theorem l3With_g {K : Fo → Option Addr → Prop} (a a0 : Option Addr) (n c c0 : Nat) (rs : List Ru) (t : ByteArray) (k : Int) (s : ByteArray) (ks : Fo) (w : World) (hr : RuG K w rs a n) (hn : n ≤ 1048600) (hka : K ks a0) (hcc : ks.len ≤ c0) :
    Calls Tryz.prog 51 #[.slice a n c, .agg #[.string t, .int .i64 k, .string s, .slice a0 ks.len c0]] w fun e w' => ∃ v, e = .returned v ∧ OwnG K w' w.heap.size v (insR (t, k, s, ks) rs) ∧ Below w.heap.size w w' := by
  have hlen := Lib.hid hr.1
  have hB0 := ((Below.refl w.heap.size w).alloc (Nat.le_refl _) (.cells #[.string t, .int .i64 k, .string s, .slice a0 ks.len c0] 45)).alloc (by simp) (.cells #[] 45)
  have hP0 := (BxR.new w t k s (.slice a0 ks.len c0) 45).alloc (.cells #[] 45)
  have hM0 : OwnG K ((w.alloc (.cells #[.string t, .int .i64 k, .string s, .slice a0 ks.len c0] 45)).alloc (.cells #[] 45)) (w.heap.size + 1) (.slice (some ⟨w.heap.size + 1, 0, none⟩) 0 0) [] := by
    have := OwnG.made (base := w.heap.size + 1) K (w.alloc (.cells #[.string t, .int .i64 k, .string s, .slice a0 ks.len c0] 45)) (by simp)
    simpa using this
  have Hst := Lib.hid (And.intro hB0 (And.intro hP0 hM0))
  clear hB0 hP0 hM0
  go_enter Tryz.func51, Tryz.ntmps51
  go_wp2_with fail
  go_loopw [5, 6, 7] (fun v d i wr => ∃ j : Nat, j ≤ n ∧ i = .int .i64 j ∧ d = .bool (withTo (t, k, s, ks) (rs.take j)).2 ∧ OwnG K wr (w.heap.size + 1) v (withTo (t, k, s, ks) (rs.take j)).1 ∧ BxR wr w.heap.size t k s (.slice a0 ks.len c0) 45 ∧ Below w.heap.size w wr) (fun _ _ i _ => n - (intOf i).toNat)
  case atStart => exact ⟨0, Nat.zero_le _, rfl, rfl, by simpa [withTo] using Hst.out.2.2, Hst.out.2.1, Hst.out.1⟩
  case round =>
    obtain ⟨j, hj, rfl, rfl, hown, hbx, hB⟩ := hrel
    have Hown := Lib.hid hown
    have Hbx := Lib.hid hbx
    have hwl := withTo_len (t, k, s, ks) (rs.take j)
    have hsw := hB.size
    have hbl := blk_lt hbx
    obtain ⟨q0, q1, q2, q3, qf0, qf1, qf2, qf3, hql⟩ := hbx.facts
    have Hka := Lib.hid hka
    clear hown hbx
    by_cases hlt : j < n
    · obtain ⟨b, off, t3, k3, s3, ks3, a3, c3, rfl, hb3, hg3, hc0, hc1, hc2, hc3, hcap3, hk3⟩ := hr.under hB hlt
      have hjj : (j : Int) < (n : Int) := by omega
      have hj0 : (0 : Int) ≤ (j : Int) := by omega
      have hst := Lib.hid (withTo_succ (r := (t, k, s, ks)) hg3)
      have hln : (rs.take j).length ≤ j := List.length_take_le _ _
      have Hk3 := Lib.hid hk3
      clear hg3 hk3
      generalize withTo (t, k, s, ks) (rs.take j) = z at *
      obtain ⟨l, dn⟩ := z
      simp only at hwl Hown
      cases dn with
      | true =>
        have Hw := Lib.hid (show wst (t, k, s, ks) (l, true) (t3, k3, s3, ks3) = (l ++ [(t3, k3, s3, ks3)], true) by simp [wst])
        go_wp2_with fail
        go_quiet (fail)
        have Hown1 := Lib.hid ((Hown.out.drewN nq).below ((Below.refl _ _).alloc (Nat.le_refl _) (.cells #[.string t3, .int .i64 k3, .string s3, .slice a3 ks3.len c3] 45)))
        go_wp2_with (at_builtin; refine wpList_append_rg rfl _ _ rfl (w.heap.size + 1) _ l rfl Hown1.out wr.heap.size 1 rfl t3 k3 s3 ks3 a3 c3 (heap_alloc_new (wr.drewN nq) _) hcap3 Hk3.out (by omega) ?_; intro g6 cap6 w6 hown6 hgrow6 hlt6 hbg6)
        have hlo := Hown1.out.lt
        have hbx6 := bxR_grown ((show BxR (wr.drewN nq) w.heap.size t k s (.slice a0 ks.len c0) 45 from Hbx.out).alloc (.cells #[.string t3, .int .i64 k3, .string s3, .slice a3 ks3.len c3] 45)) hgrow6 (fun x e => by have := (hlo x e).1; omega)
        have hB6 : Below w.heap.size w w6 := ((below_drewN hB nq).alloc hsw _).grown hgrow6 (by simp; omega) (fun g' e => by have := (hlo _ e).1; omega)
        exact ⟨⟨j + 1, by omega, by go_num, by rw [hst.out, Hw.out], by rw [hst.out, Hw.out]; exact hown6, hbx6, hB6⟩, by simp [intOf]; omega⟩
      | false =>
        cases hl : sLess t t3 with
        | true =>
          have Hl := Lib.hid hl
          have he1 : Op.bytesLess t3.toList t.toList = false := sLess_asymm hl
          have he2 : (t3.toList == t.toList) = false := by rw [sEq]; simpa using fun e : t3 = t => sLess_ne hl e.symm
          clear hl
          have Hw := Lib.hid (show wst (t, k, s, ks) (l, false) (t3, k3, s3, ks3) = (l ++ [(t, k, s, ks)] ++ [(t3, k3, s3, ks3)], true) by simp [wst, Hl.out])
          go_wp2_with fail
          go_quiet (fail)
          have Hown1 := Lib.hid ((Hown.out.drewN nq).below ((Below.refl _ _).alloc (Nat.le_refl _) (.cells #[.string t, .int .i64 k, .string s, .slice a0 ks.len c0] 45)))
          go_upto_region 8 with (at_builtin; refine wpList_append_rg rfl _ _ rfl (w.heap.size + 1) _ l rfl Hown1.out wr.heap.size 1 rfl t k s ks a0 c0 (heap_alloc_new (wr.drewN nq) _) hcc Hka.out (by omega) ?_; intro g5 cap5 w5 hown5 hgrow5 hlt5 hbg5)
          have hlo5 := Hown1.out.lt
          have hbx5 := bxR_grown ((show BxR (wr.drewN nq) w.heap.size t k s (.slice a0 ks.len c0) 45 from Hbx.out).alloc (.cells #[.string t, .int .i64 k, .string s, .slice a0 ks.len c0] 45)) hgrow5 (fun x e => by have := (hlo5 x e).1; omega)
          have hB5 : Below w.heap.size w w5 := ((below_drewN hB nq).alloc hsw _).grown hgrow5 (by simp; omega) (fun g' e => by have := (hlo5 _ e).1; omega)
          have hs5 := hgrow5.size
          have hwb : b < wr.heap.size := by omega
          have hk5 : ∀ i, w5.cell? ⟨b, i, none⟩ = wr.cell? ⟨b, i, none⟩ := fun i => (World.cell?_of_block (hgrow5.block b (by simp; omega) (fun e => by have := (hlo5 b e.symm).1; omega))).trans (World.cell?_alloc_lt (wr.drewN nq) _ ⟨b, i, none⟩ (by show b < wr.heap.size; omega))
          have hd0 := (hk5 (off + j * 4)).trans hc0
          have hd1 := (hk5 (off + j * 4 + 1)).trans hc1
          have hd2 := (hk5 (off + j * 4 + 2)).trans hc2
          have hd3 := (hk5 (off + j * 4 + 3)).trans hc3
          have Hown5 := Lib.hid (hown5.below ((Below.refl _ _).alloc (Nat.le_refl _) (.cells #[.string t3, .int .i64 k3, .string s3, .slice a3 ks3.len c3] 45)))
          simp only [World.size_alloc] at hs5
          have hs5' : wr.heap.size + 1 ≤ w5.heap.size := hs5
          clear hk5 hc0 hc1 hc2 hc3 hown5 q0 q1 q2 q3 qf0 qf1 qf2 qf3 hql hs5
          go_wp2_with (at_builtin; refine wpList_append_rg rfl _ _ rfl (w.heap.size + 1) _ (l ++ [(t, k, s, ks)]) rfl Hown5.out w5.heap.size 1 rfl t3 k3 s3 ks3 a3 c3 (heap_alloc_new w5 _) hcap3 Hk3.out (by simp; omega) ?_; intro g6 cap6 w6 hown6 hgrow6 hlt6 hbg6)
          have hlo := Hown5.out.lt
          have hbx6 := bxR_grown (hbx5.alloc (.cells #[.string t3, .int .i64 k3, .string s3, .slice a3 ks3.len c3] 45)) hgrow6 (fun x e => by have := (hlo x e).1; omega)
          have hB6 : Below w.heap.size w w6 := (hB5.alloc (by omega) _).grown hgrow6 (by simp; omega) (fun g' e => by have := (hlo _ e).1; omega)
          exact ⟨⟨j + 1, by omega, by go_num, by rw [hst.out, Hw.out], by rw [hst.out, Hw.out]; simpa using hown6, hbx6, hB6⟩, by simp [intOf]; omega⟩
        | false =>
          have Hl := Lib.hid hl
          obtain ⟨x, hx⟩ : ∃ x, Op.bytesLess t3.toList t.toList = x := ⟨_, rfl⟩
          obtain ⟨y, hy⟩ : ∃ y, (t3.toList == t.toList) = y := ⟨_, rfl⟩
          have hxy : (x || y) = true := by
            by_cases e : t3 = t
            · rw [← hy, sEq, e]; simp
            · rw [← hx, show Op.bytesLess t3.toList t.toList = true from sLess_total hl (fun e' => e e'.symm)]; rfl
          clear hl
          have Hwl := Lib.hid hwl
          cases x <;> cases y
          case false.false => cases hxy
          all_goals
            clear hxy
            have Hw := Lib.hid (show wst (t, k, s, ks) (l, false) (t3, k3, s3, ks3) = (l ++ [(t3, k3, s3, ks3)], false) by simp [wst, Hl.out])
            go_wp2_with fail
            go_quiet (fail)
            have Hown1 := Lib.hid ((Hown.out.drewN nq).below ((Below.refl _ _).alloc (Nat.le_refl _) (.cells #[.string t3, .int .i64 k3, .string s3, .slice a3 ks3.len c3] 45)))
            go_wp2_with (at_builtin; refine wpList_append_rg rfl _ _ rfl (w.heap.size + 1) _ l rfl Hown1.out wr.heap.size 1 rfl t3 k3 s3 ks3 a3 c3 (heap_alloc_new (wr.drewN nq) _) hcap3 Hk3.out (by omega) ?_; intro g6 cap6 w6 hown6 hgrow6 hlt6 hbg6)
            have hlo := Hown1.out.lt
            have hbx6 := bxR_grown ((show BxR (wr.drewN nq) w.heap.size t k s (.slice a0 ks.len c0) 45 from Hbx.out).alloc (.cells #[.string t3, .int .i64 k3, .string s3, .slice a3 ks3.len c3] 45)) hgrow6 (fun x e => by have := (hlo x e).1; omega)
            have hB6 : Below w.heap.size w w6 := ((below_drewN hB nq).alloc hsw _).grown hgrow6 (by simp; omega) (fun g' e => by have := (hlo _ e).1; omega)
            exact ⟨⟨j + 1, by omega, by go_num, by rw [hst.out, Hw.out], by rw [hst.out, Hw.out]; exact hown6, hbx6, hB6⟩, by simp [intOf]; omega⟩
    · have hall : rs.take j = rs := List.take_of_length_le (by have := hlen.out; omega)
      have hjj : ¬ (j : Int) < (n : Int) := by omega
      have hrl := hlen.out
      rw [hall] at hwl Hown
      have hins := withTo_ins (t, k, s, ks) rs
      clear hall hlen
      have hrs : rs.take j = rs := List.take_of_length_le (by omega)
      rw [hrs]
      clear hrs
      generalize withTo (t, k, s, ks) rs = z at *
      obtain ⟨l, dn⟩ := z
      simp only at hwl Hown hins
      have Hins := Lib.hid hins
      clear hins
      cases dn with
      | true =>
        go_wp2_with fail
        go_ret
        have h := Hins.out
        simp only [if_true] at h
        exact ⟨_, rfl, h ▸ Hown.out.mono (Nat.le_succ _), hB⟩
      | false =>
        have Hown1 := Lib.hid (Hown.out.below ((Below.refl _ _).alloc (Nat.le_refl _) (.cells #[.string t, .int .i64 k, .string s, .slice a0 ks.len c0] 45)))
        have hrl2 : rs.length ≤ 1048600 := by omega
        go_wp2_with (at_builtin; refine wpList_append_rg rfl _ _ rfl (w.heap.size + 1) _ l rfl Hown1.out wr.heap.size 1 rfl t k s ks a0 c0 (heap_alloc_new wr _) hcc Hka.out (by omega) ?_; intro g6 cap6 w6 hown6 hgrow6 hlt6 hbg6)
        have hlo := Hown1.out.lt
        have hB6 : Below w.heap.size w w6 := (hB.alloc hsw _).grown hgrow6 (by simp; omega) (fun g' e => by have := (hlo _ e).1; omega)
        go_ret
        have h := Hins.out
        simp only [if_false, Bool.false_eq_true] at h
        exact ⟨_, rfl, h ▸ hown6.mono (Nat.le_succ _), hB6⟩
end Go.Proofs.YtceiafncpimihaaGreat

namespace Go.Proofs.YtceiafncpimihaaGreat
set_option linter.unusedVariables false
open Go.RowKit

/-- a test of each of the first numbers -/
def allTo (p : Nat → Bool) (n : Nat) : Bool := (List.range n).all p
theorem allTo_succ (p : Nat → Bool) (n : Nat) : allTo p (n + 1) = (allTo p n && p n) := by simp [allTo, List.range_succ]
theorem allTo_step {p : Nat → Bool} {n : Nat} (h : allTo p n = true) (h2 : p n = true) : allTo p (n + 1) = true := by rw [allTo_succ, h, h2]; rfl
theorem allTo_false {p : Nat → Bool} {k n : Nat} (hk : k < n) (h : p k = false) : allTo p n = false := by
  unfold allTo
  rw [List.all_eq_false]
  exact ⟨k, List.mem_range.2 hk, by simp [h]⟩
theorem allTo_and (p q : Nat → Bool) (n : Nat) : allTo (fun j => p j && q j) n = (allTo p n && allTo q n) := by
  induction n with
  | zero => rfl
  | succ n ih => rw [allTo_succ, allTo_succ, allTo_succ, ih]; cases allTo p n <;> cases allTo q n <;> cases p n <;> cases q n <;> rfl
/-- the rule at a place -/
def ruGet (rs : List Ru) (j : Nat) : Ru := (rs[j]?).getD (.empty, 0, .empty, .nil)
theorem ruGet_of {rs : List Ru} {j : Nat} {x : Ru} (h : rs[j]? = some x) : ruGet rs j = x := by unfold ruGet; rw [h]; rfl
/-- its target is greater than the one before -/
def ascAt (rs : List Ru) (j : Nat) : Bool := decide (j = 0) || sLess (ruGet rs (j - 1)).1 (ruGet rs j).1
/-- its target is a path and its body is valid -/
def bodyAt (rs : List Ru) (j : Nat) : Bool := pathB (ruGet rs j).1 && validE (ruGet rs j).2.1 (ruGet rs j).2.2.1 (ruGet rs j).2.2.2
/-- its target is no source -/
def freeAt (fs : List Fl) (rs : List Ru) (j : Nat) : Bool := !(findF fs (ruGet rs j).1).2
/-- what l3Rules answers -/
def rulesB (rs : List Ru) : Bool := allTo (fun j => ascAt rs j && bodyAt rs j) rs.length && decide (rs.length ≤ 10)
/-- what ProjectValid answers -/
def projB (fs : List Fl) (rs : List Ru) : Bool := validB fs && rulesB rs && allTo (freeAt fs rs) rs.length
theorem projB_each (fs : List Fl) (rs : List Ru) : projB fs rs = (validB fs && decide (rs.length ≤ 10) && allTo (fun j => (ascAt rs j && bodyAt rs j) && freeAt fs rs j) rs.length) := by
  unfold projB rulesB
  rw [allTo_and (fun j => ascAt rs j && bodyAt rs j)]
  cases validB fs <;> cases allTo (fun j => ascAt rs j && bodyAt rs j) rs.length <;> cases decide (rs.length ≤ 10) <;> rfl
end Go.Proofs.YtceiafncpimihaaGreat

namespace Go.Proofs.YtceiafncpimihaaGreat
set_option linter.unusedVariables false
set_option linter.unusedSimpArgs false
open Go.RowKit

/-- what szProject answers -/
def szP (left : Int) (fs : List Fl) (rs : List Ru) : Int := if (fs.length + tot fs + (rs.length + ruTot rs) : Int) ≤ left then left - (fs.length + tot fs + (rs.length + ruTot rs)) else -1

/-- block g is a box with a project -/
def BxP (w : World) (g : Nat) (u v : Value) (T : TypeId) : Prop := w.heap[g]? = some (.cells #[u, v] T (0, 0))
section
variable {w w' : World} {g : Nat} {u v : Value} {T : TypeId}
theorem BxP.new (w : World) (u v : Value) (T : TypeId) : BxP (w.alloc (.cells #[u, v] T)) w.heap.size u v T := heap_alloc_new w _
theorem BxP.next (h : BxP w g u v T) (hB : Below w.heap.size w w') : BxP w' g u v T := (hB.block g (blk_lt h)).trans h
theorem BxP.alloc (h : BxP w g u v T) (o : Obj) : BxP (w.alloc o) g u v T := (Below.heap_alloc w o g (blk_lt h)).trans h
theorem BxP.set0 (h : BxP w g u v T) (x : Value) : BxP (w.setCell ⟨g, 0, none⟩ x) g x v T := blk_set h 0 x
theorem BxP.set1 (h : BxP w g u v T) (x : Value) : BxP (w.setCell ⟨g, 1, none⟩ x) g u x T := blk_set h 1 x
theorem BxP.other (h : BxP w g u v T) {g' : Nat} (hne : g ≠ g') (i : Nat) (x : Value) : BxP (w.setCell ⟨g', i, none⟩ x) g u v T := (Below.heap_setCell w _ _ g (fun e => hne (by simpa using e))).trans h
theorem BxP.facts (h : BxP w g u v T) : w.cell? ⟨g, 0, none⟩ = some u ∧ w.cell? ⟨g, 1, none⟩ = some v ∧ w.frozen? ⟨g, 0, none⟩ = false ∧ w.frozen? ⟨g, 1, none⟩ = false ∧ g < w.heap.size :=
  ⟨by rw [cell_of_row _ _ _ _ _ _ h]; rfl, by rw [cell_of_row _ _ _ _ _ _ h]; rfl, blk_frozen h 0, blk_frozen h 1, blk_lt h⟩
end
section
variable {w w' : World} {gx gy : Nat} {u v u' v' : Value} {T T' : TypeId}
theorem bxP_next (h : BxP w gx u v T ∧ BxP w gy u' v' T') (hB : Below w.heap.size w w') : BxP w' gx u v T ∧ BxP w' gy u' v' T' := ⟨h.1.next hB, h.2.next hB⟩
theorem bxP_four (h : BxP w gx u v T ∧ BxP w gy u' v' T') : w.cell? ⟨gx, 0, none⟩ = some u ∧ w.cell? ⟨gx, 1, none⟩ = some v ∧ w.cell? ⟨gy, 0, none⟩ = some u' ∧ w.cell? ⟨gy, 1, none⟩ = some v' := ⟨h.1.facts.1, h.1.facts.2.1, h.2.facts.1, h.2.facts.2.1⟩
end
/-- what toProject leaves -/
def ToPP (fs : List Fl) (rs : List Ru) (w : World) (e : Ending) (w' : World) : Prop :=
  ∃ g1 g2, e = .returned (.agg #[.slice (some ⟨g1, 0, none⟩) fs.length fs.length, .slice (some ⟨g2, 0, none⟩) rs.length rs.length]) ∧ FilesAt w' w'.heap.size (some ⟨g1, 0, none⟩) fs.length fs ∧ RuAt w' w.heap.size w'.heap.size rs (some ⟨g2, 0, none⟩) rs.length ∧ Below w.heap.size w w'

end Go.Proofs.YtceiafncpimihaaGreat

namespace Go.Proofs.YtceiafncpimihaaGreat
set_option linter.unusedVariables false
set_option linter.unusedSimpArgs false
open Go.RowKit

/-- the cells of a row of rules; og: the block of the row -/
def RowR (w : World) (L B : Nat) (og : Option Nat) : List Ru → List Value → Prop
  | [], xs => xs = []
  | x :: rs, xs => ∃ a c ys, xs = .string x.1 :: .int .i64 x.2.1 :: .string x.2.2.1 :: .slice a x.2.2.2.len c :: ys ∧ x.2.2.2.len ≤ c ∧ (∃ L1 B1, KA w L1 B1 x.2.2.2 a x.2.2.2.len ∧ L ≤ L1 ∧ B1 ≤ B ∧ ∀ g, og = some g → g < L1 ∨ B1 ≤ g) ∧ RowR w L B og rs ys
section
variable {w w' : World} {L L' B B' b : Nat} {og og' : Option Nat} {rs : List Ru} {xs : List Value}
theorem rowR_len : ∀ {rs : List Ru} {xs : List Value}, RowR w L B og rs xs → xs.length = rs.length * 4
  | [], _, h => by simp only [RowR] at h; subst h; rfl
  | x :: rs, _, ⟨a, c, ys, e, _, _, h⟩ => by subst e; have := rowR_len h; simp only [List.length_cons, this]; omega
theorem rowR_keep (hL : L' ≤ L) (hB : B ≤ B') (ho : ∀ g, og' = some g → og = some g ∨ g < L ∨ B ≤ g) (hk : ∀ p : Addr, L ≤ p.block → p.block < B → og ≠ some p.block → w'.cell? p = w.cell? p) : ∀ {rs : List Ru} {xs : List Value}, RowR w L B og rs xs → RowR w' L' B' og' rs xs
  | [], _, h => h
  | x :: rs, _, ⟨a, c, ys, e, hc, ⟨L1, B1, h1, h2, h3, h4⟩, h⟩ =>
    ⟨a, c, ys, e, hc, ⟨L1, B1, h1.keep (Nat.le_refl _) (Nat.le_refl _) fun p h5 h6 => hk p (by omega) (by omega) (fun e => by have := h4 _ e; omega), by omega, by omega, fun g hg => by
      rcases ho g hg with h | h | h
      · exact h4 g h
      · exact .inl (by omega)
      · exact .inr (by omega)⟩, rowR_keep hL hB ho hk h⟩
theorem rowR_snoc {a : Option Addr} {c L1 B1 : Nat} {t s : ByteArray} {k : Int} {ks : Fo} (hc : ks.len ≤ c) (h1 : KA w L1 B1 ks a ks.len) (h2 : L ≤ L1) (h3 : B1 ≤ B) (h4 : ∀ g, og = some g → g < L1 ∨ B1 ≤ g) :
    ∀ {rs : List Ru} {xs : List Value}, RowR w L B og rs xs → RowR w L B og (rs ++ [(t, k, s, ks)]) (xs ++ [.string t, .int .i64 k, .string s, .slice a ks.len c])
  | [], _, h => by simp only [RowR] at h; subst h; exact ⟨a, c, [], rfl, hc, ⟨L1, B1, h1, h2, h3, h4⟩, rfl⟩
  | x :: rs, _, ⟨a', c', ys, e, hc', h7, h⟩ => by subst e; exact ⟨a', c', _, rfl, hc', h7, rowR_snoc hc h1 h2 h3 h4 h⟩
theorem rowR_get : ∀ {rs : List Ru} {xs : List Value} {j : Nat} {x : Ru}, RowR w L B og rs xs → rs[j]? = some x →
    ∃ a c, xs[j * 4]? = some (.string x.1) ∧ xs[j * 4 + 1]? = some (.int .i64 x.2.1) ∧ xs[j * 4 + 2]? = some (.string x.2.2.1) ∧ xs[j * 4 + 3]? = some (.slice a x.2.2.2.len c) ∧ x.2.2.2.len ≤ c ∧ KA w L B x.2.2.2 a x.2.2.2.len
  | x :: rs, _, 0, _, ⟨a, c, ys, e, hc, ⟨L1, B1, h1, h2, h3, h4⟩, h⟩, hx => by
    simp only [List.getElem?_cons_zero, Option.some.injEq] at hx
    subst hx e
    exact ⟨a, c, rfl, rfl, rfl, rfl, hc, h1.more h2 h3⟩
  | x :: rs, _, j + 1, _, ⟨a, c, ys, e, hc, _, h⟩, hx => by
    subst e
    have := rowR_get (j := j) h (by simpa using hx)
    simpa only [show (j + 1) * 4 = j * 4 + 4 from by omega, show j * 4 + 4 + 1 = (j * 4 + 1) + 4 from by omega, show j * 4 + 4 + 2 = (j * 4 + 2) + 4 from by omega, show j * 4 + 4 + 3 = (j * 4 + 3) + 4 from by omega, List.getElem?_cons_succ] using this
  | [], _, _, _, _, hx => by simp at hx
end
/-- .. whose trees lie in plain blocks -/
def RowP (w : World) (L B : Nat) (og : Option Nat) : List Ru → List Value → Prop
  | [], xs => xs = []
  | x :: rs, xs => ∃ a c ys, xs = .string x.1 :: .int .i64 x.2.1 :: .string x.2.2.1 :: .slice a x.2.2.2.len c :: ys ∧ x.2.2.2.len ≤ c ∧ (∃ L1 B1, KP w L1 B1 x.2.2.2 a x.2.2.2.len ∧ L ≤ L1 ∧ B1 ≤ B ∧ ∀ g, og = some g → g < L1 ∨ B1 ≤ g) ∧ RowP w L B og rs ys
section
variable {w w' : World} {L L' B B' b : Nat} {og og' : Option Nat} {rs : List Ru} {xs : List Value}
theorem rowP_len : ∀ {rs : List Ru} {xs : List Value}, RowP w L B og rs xs → xs.length = rs.length * 4
  | [], _, h => by simp only [RowP] at h; subst h; rfl
  | x :: rs, _, ⟨a, c, ys, e, _, _, h⟩ => by subst e; have := rowP_len h; simp only [List.length_cons, this]; omega
theorem rowP_keep (hL : L' ≤ L) (hB : B ≤ B') (ho : ∀ g, og' = some g → og = some g ∨ g < L ∨ B ≤ g) (hk : ∀ g : Nat, L ≤ g → g < B → og ≠ some g → w'.heap[g]? = w.heap[g]?) : ∀ {rs : List Ru} {xs : List Value}, RowP w L B og rs xs → RowP w' L' B' og' rs xs
  | [], _, h => h
  | x :: rs, _, ⟨a, c, ys, e, hc, ⟨L1, B1, h1, h2, h3, h4⟩, h⟩ =>
    ⟨a, c, ys, e, hc, ⟨L1, B1, h1.keep (Nat.le_refl _) (Nat.le_refl _) fun p h5 h6 => hk p (by omega) (by omega) (fun e => by have := h4 _ e; omega), by omega, by omega, fun g hg => by
      rcases ho g hg with h | h | h
      · exact h4 g h
      · exact .inl (by omega)
      · exact .inr (by omega)⟩, rowP_keep hL hB ho hk h⟩
theorem rowP_snoc {a : Option Addr} {c L1 B1 : Nat} {t s : ByteArray} {k : Int} {ks : Fo} (hc : ks.len ≤ c) (h1 : KP w L1 B1 ks a ks.len) (h2 : L ≤ L1) (h3 : B1 ≤ B) (h4 : ∀ g, og = some g → g < L1 ∨ B1 ≤ g) :
    ∀ {rs : List Ru} {xs : List Value}, RowP w L B og rs xs → RowP w L B og (rs ++ [(t, k, s, ks)]) (xs ++ [.string t, .int .i64 k, .string s, .slice a ks.len c])
  | [], _, h => by simp only [RowP] at h; subst h; exact ⟨a, c, [], rfl, hc, ⟨L1, B1, h1, h2, h3, h4⟩, rfl⟩
  | x :: rs, _, ⟨a', c', ys, e, hc', h7, h⟩ => by subst e; exact ⟨a', c', _, rfl, hc', h7, rowP_snoc hc h1 h2 h3 h4 h⟩
theorem rowP_get : ∀ {rs : List Ru} {xs : List Value} {j : Nat} {x : Ru}, RowP w L B og rs xs → rs[j]? = some x →
    ∃ a c, xs[j * 4]? = some (.string x.1) ∧ xs[j * 4 + 1]? = some (.int .i64 x.2.1) ∧ xs[j * 4 + 2]? = some (.string x.2.2.1) ∧ xs[j * 4 + 3]? = some (.slice a x.2.2.2.len c) ∧ x.2.2.2.len ≤ c ∧ KP w L B x.2.2.2 a x.2.2.2.len
  | x :: rs, _, 0, _, ⟨a, c, ys, e, hc, ⟨L1, B1, h1, h2, h3, h4⟩, h⟩, hx => by
    simp only [List.getElem?_cons_zero, Option.some.injEq] at hx
    subst hx e
    exact ⟨a, c, rfl, rfl, rfl, rfl, hc, h1.more h2 h3⟩
  | x :: rs, _, j + 1, _, ⟨a, c, ys, e, hc, _, h⟩, hx => by
    subst e
    have := rowP_get (j := j) h (by simpa using hx)
    simpa only [show (j + 1) * 4 = j * 4 + 4 from by omega, show j * 4 + 4 + 1 = (j * 4 + 1) + 4 from by omega, show j * 4 + 4 + 2 = (j * 4 + 2) + 4 from by omega, show j * 4 + 4 + 3 = (j * 4 + 3) + 4 from by omega, List.getElem?_cons_succ] using this
  | [], _, _, _, _, hx => by simp at hx
end
/-- a list of rules of one's own -/
def OwnR (w : World) (base : Nat) (v : Value) (rs : List Ru) : Prop := ∃ xs, w.ownsRow base 45 4 v rs.length xs ∧ RowP w base w.heap.size v.ownBlock rs xs
theorem rules_under_ : Tryz.prog.underlying 24 = some (.slice 45) := by kernel_rfl
theorem rule_info4_ : (Tryz.prog.info? 45).map (fun i => (i.zero, i.size, i.bytes)) = some (some (.agg #[.string .empty, .int .i64 0, .string .empty, .slice none 0 0]), 4, 64) := by kernel_rfl
section
variable {w w' : World} {base base' : Nat} {v v' : Value} {rs : List Ru} {r : Option Nat}
theorem OwnR.nil (w : World) (base : Nat) : OwnR w base (.slice none 0 0) [] := ⟨[], World.ownsRow_nil _ _ _ _, rfl⟩
theorem OwnR.lt (h : OwnR w base v rs) : ∀ g, v.ownBlock = some g → base ≤ g ∧ g < w.heap.size := by
  obtain ⟨xs, h1, _⟩ := h
  exact World.ownsRow.lt h1
theorem OwnR.grown (h : OwnR w base v rs) (hg : w.grownBy w' r) (hr : ∀ g, r = some g → g < base ∨ w.heap.size ≤ g) : OwnR w' base v rs := by
  obtain ⟨xs, h1, h2⟩ := h
  refine ⟨xs, World.ownsRow.kept h1 hg ?_, rowP_keep (Nat.le_refl _) hg.size (fun g hg => .inl hg) (fun g h3 h4 _ => hg.block g h4 (fun e => by have := hr _ e.symm; omega)) h2⟩
  cases hv : v.ownBlock with
  | none => exact .inl rfl
  | some g => exact .inr fun e => by have := World.ownsRow.lt h1 g hv; have := hr g e.symm; omega
theorem OwnR.alloc (h : OwnR w base v rs) (o : Obj) : OwnR (w.alloc o) base v rs := h.grown (World.grownBy_alloc w o none) fun g e => by cases e
theorem OwnR.below (h : OwnR w base v rs) (hb : Below w.heap.size w w') : OwnR w' base v rs := h.grown (r := none) ⟨hb.os, hb.tape, hb.output, hb.size, fun i hi _ => hb.block i hi⟩ fun g e => by cases e
theorem OwnR.setCell (h : OwnR w base v rs) {g : Nat} (hg : g < base) (i : Nat) (u : Value) : OwnR (w.setCell ⟨g, i, none⟩ u) base v rs :=
  h.grown (r := some g) (grown_set (World.grownBy.refl w _) (.inl rfl) u) fun j e => by injection e with e; omega
theorem OwnR.drewN (h : OwnR w base v rs) (m : Nat) : OwnR (w.drewN m) base v rs := h.grown (grown_drewN (World.grownBy.refl w none) m) fun j e => by cases e
theorem OwnR.mono (h : OwnR w base v rs) (hb : base' ≤ base) : OwnR w base' v rs := by
  obtain ⟨xs, h1, h2⟩ := h
  exact ⟨xs, World.ownsRow.mono h1 hb, rowP_keep hb (Nat.le_refl _) (fun g hg => .inl hg) (fun _ _ _ _ => rfl) h2⟩
/-- as a slice that can be read -/
theorem OwnR.form (h : OwnR w base v rs) : ∃ a c, v = .slice a rs.length c ∧ rs.length ≤ c ∧ c ≤ maxLen ∧ RuAt w base w.heap.size rs a rs.length := by
  obtain ⟨xs, h1, h2⟩ := h
  rcases h1.2 with ⟨rfl, h0⟩ | ⟨g, cap, cur, rfl, hb, hg, hc, hm, _⟩
  · exact ⟨none, 0, by rw [h0], by omega, by simp [maxLen], rfl, fun h => absurd h (by omega)⟩
  · refine ⟨_, cap, rfl, hc, hm, rfl, fun _ => ⟨g, 0, rfl, hb, blk_lt hg, fun j t k s ks hj => ?_⟩⟩
    have hcell : ∀ j u, xs[j]? = some u → w.cell? ⟨g, j, none⟩ = some u := fun j u hu => by
      have := World.ownsRow.cells h1 (g := g) rfl j u hu
      rwa [add_none, Nat.zero_add] at this
    obtain ⟨a, c, e0, e1, e2, e3, hc', hk⟩ := rowP_get h2 hj
    rw [Nat.zero_add]
    exact ⟨hcell _ _ e0, hcell _ _ e1, hcell _ _ e2, a, _, c, hcell _ _ e3, hc', hk.1⟩
theorem OwnR.some (h : OwnR w base v rs) (hn : 0 < rs.length) : ∃ g cap, v = .slice (some ⟨g, 0, none⟩) rs.length cap ∧ base ≤ g ∧ g < w.heap.size := by
  obtain ⟨xs, h1, _⟩ := h
  exact World.ownsRow.form h1 hn
end
/-- one more rule -/
theorem wp_append_ru {w : World} {o : Oper} {a : Act} {K : Act → World → Prop} {Q : Exit → Act → World → Prop} (s x : Operand)
    (ho : o.op = .call { callee := .builtin .append, args := #[s, x], argTypes := #[24, 24] })
    (base : Nat) (v : Value) (rs : List Ru) (hs : a.eval s = v) (hown : OwnR w base v rs) (g i0 c1 : Nat) (hx : a.eval x = .slice (some ⟨g, i0, none⟩) 1 c1)
    (t : ByteArray) (k : Int) (y : ByteArray) (ks : Fo) (ad : Option Addr) (c L1 B1 : Nat) (hbx : ∀ j u, [Value.string t, .int .i64 k, .string y, .slice ad ks.len c][j]? = some u → w.cell? ⟨g, i0 + j, none⟩ = some u) (hc : ks.len ≤ c) (hk : KP w L1 B1 ks ad ks.len) (hL : base ≤ L1) (hB : B1 ≤ w.heap.size) (hown1 : ∀ g, v.ownBlock = some g → g < L1 ∨ B1 ≤ g)
    (h63 : rs.length ≤ 1000000000) (hbase : base ≤ w.heap.size)
    (h : ∀ g cap w', OwnR w' base (.slice (some ⟨g, 0, none⟩) (rs.length + 1) cap) (rs ++ [(t, k, y, ks)]) → w.grownBy w' v.ownBlock → g < w'.heap.size → base ≤ g → K (a.put o.dst (.slice (some ⟨g, 0, none⟩) (rs.length + 1) cap)) w') :
    Oper.wp Tryz.prog o a w K Q := by
  obtain ⟨i, hi, hz0, hz1, hz2⟩ := info_parts rule_info4_
  obtain ⟨xs, h1, h2⟩ := hown
  refine wp_append_at s x 24 ho base 45 i _ 4 64 rules_under_ hi hz0 hz1 hz2 rfl (by decide) v rs.length xs hs h1 ⟨g, i0, none⟩ 1 c1 [.string t, .int .i64 k, .string y, .slice ad ks.len c] hx rfl ?_ (by simp [Value.oneCell']) (by simp only [maxLen]; omega) (by omega) hbase fun v' w' h8 h9 h10 => ?_
  · intro j u hu
    rw [add_none]
    exact hbx j u hu
  · have h11 := rowP_snoc (t := t) (k := k) (s := y) hc hk hL hB hown1 h2
    have h12 : RowP w' base w'.heap.size v'.ownBlock (rs ++ [(t, k, y, ks)]) (xs ++ [.string t, .int .i64 k, .string y, .slice ad ks.len c]) := by
      refine rowP_keep (Nat.le_refl _) h9.size (fun g e => ?_) (fun g h4 h5 h6 => h9.block g h5 (fun e => h6 e.symm)) h11
      rcases h10 with ho | ho
      · exact .inl (ho ▸ e)
      · exact .inr (.inr (ho g e))
    have h14 : w'.ownsRow base 45 4 v' (rs ++ [(t, k, y, ks)]).length (xs ++ [.string t, .int .i64 k, .string y, .slice ad ks.len c]) := by rw [List.length_append]; exact h8
    obtain ⟨g', cap', rfl, h15, h16⟩ := World.ownsRow.form h8 (by omega)
    exact h g' cap' w' ⟨_, h14, h12⟩ h9 h16 h15
/-- .. at a step of a region that draws -/
theorem step_append_ru {w : World} {ops : Array Oper} {o : Oper} {a : Act} {K : Act → World → Prop} {Q : Exit → Act → World → Prop} {E : Prop} (hgd : o.guard = none) (s x : Operand)
    (ho : o.op = .call { callee := .builtin .append, args := #[s, x], argTypes := #[24, 24] })
    (base : Nat) (v : Value) (rs : List Ru) (hs : a.eval s = v) (hown : OwnR w base v rs) (g c1 : Nat) (hx : a.eval x = .slice (some ⟨g, 0, none⟩) 1 c1)
    (t : ByteArray) (k : Int) (y : ByteArray) (ks : Fo) (ad : Option Addr) (c L1 B1 : Nat) {T : TypeId} (hbx : w.heap[g]? = some (.cells #[.string t, .int .i64 k, .string y, .slice ad ks.len c] T (0, 0))) (hc : ks.len ≤ c) (hk : KP w L1 B1 ks ad ks.len) (hL : base ≤ L1) (hB : B1 ≤ w.heap.size) (hown1 : ∀ g, v.ownBlock = some g → g < L1 ∨ B1 ≤ g)
    (h63 : rs.length ≤ 1000000000) (hbase : base ≤ w.heap.size)
    (h : ∀ g cap w', OwnR w' base (.slice (some ⟨g, 0, none⟩) (rs.length + 1) cap) (rs ++ [(t, k, y, ks)]) → w.grownBy w' v.ownBlock → g < w'.heap.size → base ≤ g → K (a.put o.dst (.slice (some ⟨g, 0, none⟩) (rs.length + 1) cap)) w') :
    if Region.wanted o (yielded ops a.tmps) = true then Oper.wp Tryz.prog o a w K Q else E := by
  have hw : Region.wanted o (yielded ops a.tmps) = true := by simp [Region.wanted, hgd]
  rw [if_pos hw]
  exact wp_append_ru s x ho base v rs hs hown g 0 c1 hx t k y ks ad c L1 B1 (fun j u hu => by rw [cell_of_row _ _ _ _ _ _ hbx]; simpa using hu) hc hk hL hB hown1 h63 hbase h
end Go.Proofs.YtceiafncpimihaaGreat

namespace Go.Proofs.YtceiafncpimihaaGreat
set_option linter.unusedVariables false
set_option linter.unusedSimpArgs false
open Go.RowKit

/-- an own row is no block of another type -/
theorem own_type {w : World} {base e size n g : Nat} {v : Value} {xs : List Value} {cs : Array Value} {T : TypeId} {fr : Nat × Nat} (h : w.ownsRow base e size v n xs) (hv : v.ownBlock = Option.some g) (hb : w.heap[g]? = Option.some (.cells cs T fr)) (hne : e ≠ T) : False := by
  rcases h.2 with ⟨rfl, _⟩ | ⟨g', cap, cur, rfl, _, hg, _⟩
  · simp [Value.ownBlock] at hv
  · simp only [Value.ownBlock, Option.some.injEq] at hv
    subst hv
    rw [hb] at hg
    simp only [Option.some.injEq, Obj.cells.injEq] at hg
    exact hne hg.2.1.symm
section
variable {K : Fo → Option Addr → Prop} {w : World} {base : Nat} {v : Value} {rs : List Ru} {xs : List Value}
theorem OwnG.ne {w' : World} {r : Option Nat} (h : OwnG K w base v rs) (hg : w.grownBy w' r) (hne : ∀ g, v.ownBlock = Option.some g → r ≠ Option.some g) : OwnG K w' base v rs := by
  obtain ⟨h0, xs, h1, h2⟩ := h
  refine ⟨Nat.le_trans h0 hg.size, xs, World.ownsRow.kept h1 hg ?_, h2⟩
  cases hv : v.ownBlock with
  | none => exact .inl rfl
  | some g => exact .inr fun e => hne g hv e.symm
/-- a rule in the middle of the row: another target -/
theorem rowG_target {t' : ByteArray} : ∀ {rs : List Ru} {xs : List Value} {j : Nat} {t s : ByteArray} {k : Int} {ks : Fo}, RowG K rs xs → rs[j]? = some (t, k, s, ks) → RowG K (rs.set j (t', k, s, ks)) (xs.set (j * 4) (.string t'))
  | [], _, _, _, _, _, _, _, hx => by simp at hx
  | x :: rs, _, 0, t, s, k, ks, ⟨a, c, ys, e, hc, h1, h⟩, hx => by
    simp only [List.getElem?_cons_zero, Option.some.injEq] at hx
    subst hx e
    exact ⟨a, c, ys, rfl, hc, h1, h⟩
  | x :: rs, _, j + 1, t, s, k, ks, ⟨a, c, ys, e, hc, h1, h⟩, hx => by
    subst e
    have h2 := rowG_target (t' := t') (j := j) h (by simpa using hx)
    refine ⟨a, c, ys.set (j * 4) (.string t'), ?_, hc, h1, h2⟩
    rw [show (j + 1) * 4 = j * 4 + 4 from by omega]
    simp [List.set]
/-- .. another body -/
theorem rowG_body {k' : Int} {s' : ByteArray} {ks' : Fo} {a' : Option Addr} {c' : Nat} (hc' : ks'.len ≤ c') (hk' : K ks' a') : ∀ {rs : List Ru} {xs : List Value} {j : Nat} {t s : ByteArray} {k : Int} {ks : Fo}, RowG K rs xs → rs[j]? = some (t, k, s, ks) → RowG K (rs.set j (t, k', s', ks')) (((xs.set (j * 4 + 1) (.int .i64 k')).set (j * 4 + 2) (.string s')).set (j * 4 + 3) (.slice a' ks'.len c'))
  | [], _, _, _, _, _, _, _, hx => by simp at hx
  | x :: rs, _, 0, t, s, k, ks, ⟨a, c, ys, e, hc, h1, h⟩, hx => by
    simp only [List.getElem?_cons_zero, Option.some.injEq] at hx
    subst hx e
    exact ⟨a', c', ys, rfl, hc', hk', h⟩
  | x :: rs, _, j + 1, t, s, k, ks, ⟨a, c, ys, e, hc, h1, h⟩, hx => by
    subst e
    have h2 := rowG_body (k' := k') (s' := s') hc' hk' (j := j) h (by simpa using hx)
    refine ⟨a, c, ((ys.set (j * 4 + 1) (.int .i64 k')).set (j * 4 + 2) (.string s')).set (j * 4 + 3) (.slice a' ks'.len c'), ?_, hc, h1, h2⟩
    rw [show (j + 1) * 4 + 1 = (j * 4 + 1) + 4 from by omega, show (j + 1) * 4 + 2 = (j * 4 + 2) + 4 from by omega, show (j + 1) * 4 + 3 = (j * 4 + 3) + 4 from by omega]
    simp [List.set]
/-- what l3Copy made, with the trees' places held at one world -/
theorem OwnR.g (h : OwnR w base v rs) (hb : base ≤ w.heap.size) : OwnG (fun ks a => ∃ L1 B1, KP w L1 B1 ks a ks.len ∧ base ≤ L1 ∧ B1 ≤ w.heap.size ∧ ∀ g, v.ownBlock = Option.some g → g < L1 ∨ B1 ≤ g) w base v rs := by
  obtain ⟨xs, h1, h2⟩ := h
  refine ⟨hb, xs, h1, ?_⟩
  clear h1
  generalize v.ownBlock = og at *
  induction rs generalizing xs with
  | nil => exact h2
  | cons x rs ih =>
    obtain ⟨a, c, ys, e, hc, ⟨L1, B1, q1, q2, q3, q4⟩, h3⟩ := h2
    exact ⟨a, c, ys, e, hc, ⟨L1, B1, q1, q2, q3, q4⟩, ih ys h3⟩
end
/-- one more rule, at a step of a region that draws -/
theorem step_append_rg {K : Fo → Option Addr → Prop} {w : World} {ops : Array Oper} {o : Oper} {a : Act} {K' : Act → World → Prop} {Q : Exit → Act → World → Prop} {E : Prop} (hgd : o.guard = none) (s x : Operand)
    (ho : o.op = .call { callee := .builtin .append, args := #[s, x], argTypes := #[24, 24] })
    (base : Nat) (v : Value) (rs : List Ru) (hs : a.eval s = v) (hown : OwnG K w base v rs) (g c1 : Nat) (hx : a.eval x = .slice (some ⟨g, 0, none⟩) 1 c1)
    (t : ByteArray) (k : Int) (y : ByteArray) (ks : Fo) (ad : Option Addr) (c : Nat) {T : TypeId} (hbx : w.heap[g]? = some (.cells #[.string t, .int .i64 k, .string y, .slice ad ks.len c] T (0, 0))) (hc : ks.len ≤ c) (hk : K ks ad)
    (h63 : rs.length ≤ 1000000000)
    (h : ∀ g cap w', OwnG K w' base (.slice (some ⟨g, 0, none⟩) (rs.length + 1) cap) (rs ++ [(t, k, y, ks)]) → w.grownBy w' v.ownBlock → g < w'.heap.size → base ≤ g → K' (a.put o.dst (.slice (some ⟨g, 0, none⟩) (rs.length + 1) cap)) w') :
    if Region.wanted o (yielded ops a.tmps) = true then Oper.wp Tryz.prog o a w K' Q else E := by
  have hw : Region.wanted o (yielded ops a.tmps) = true := by simp [Region.wanted, hgd]
  rw [if_pos hw]
  obtain ⟨i, hi, hz0, hz1, hz2⟩ := info_parts ruleG_info4
  obtain ⟨h00, xs, h1, h2⟩ := hown
  refine wp_append_at s x 24 ho base 45 i _ 4 64 rulesG_under hi hz0 hz1 hz2 rfl (by decide) v rs.length xs hs h1 ⟨g, 0, none⟩ 1 c1 [.string t, .int .i64 k, .string y, .slice ad ks.len c] hx rfl ?_ (by simp [Value.oneCell']) (by simp only [maxLen]; omega) (by omega) h00 fun v' w' h8 h9 h10 => ?_
  · intro j u hu
    rw [add_none, cell_of_row _ _ _ _ _ _ hbx]
    simpa using hu
  · have h11 := rowG_snoc (t := t) (k := k) (s := y) hc hk h2
    have h14 : w'.ownsRow base 45 4 v' (rs ++ [(t, k, y, ks)]).length (xs ++ [.string t, .int .i64 k, .string y, .slice ad ks.len c]) := by rw [List.length_append]; exact h8
    obtain ⟨g', cap', rfl, h15, h16⟩ := World.ownsRow.form h8 (by omega)
    exact h g' cap' w' ⟨Nat.le_trans h00 h9.size, _, h14, h11⟩ h9 h16 h15
/-- the own row of a list that is not empty, with its cells -/
theorem OwnG.row {K : Fo → Option Addr → Prop} {w : World} {base : Nat} {a : Option Addr} {c : Nat} {rs : List Ru} (h : OwnG K w base (.slice a rs.length c) rs) (hn : 0 < rs.length) : ∃ g, a = some ⟨g, 0, none⟩ ∧ base ≤ g ∧ g < w.heap.size ∧ ∃ xs, w.ownsRow base 45 4 (.slice (some ⟨g, 0, none⟩) rs.length c) rs.length xs ∧ RowG K rs xs := by
  obtain ⟨_, xs, h1, h2⟩ := h
  rcases h1.2 with ⟨e, h0⟩ | ⟨g, cap, cur, e, hb, hg, _⟩
  · exact absurd h0 (by omega)
  · simp only [Value.slice.injEq] at e
    obtain ⟨rfl, -, rfl⟩ := e
    exact ⟨g, rfl, hb, blk_lt hg, xs, h1, h2⟩
end Go.Proofs.YtceiafncpimihaaGreat

namespace Go.Proofs.YtceiafncpimihaaGreat
set_option linter.unusedVariables false
open Go.RowKit

/-- the decimal digits of k ahead of acc -/
def mkD : Nat → Nat → List UInt8 → List UInt8
  | 0, _, acc => acc
  | fuel + 1, k, acc => if k = 0 then acc else mkD fuel (k / 10) (UInt8.ofNat (48 + k % 10) :: acc)
/-- the mark k -/
def mkS (k : Nat) : ByteArray := ⟨#[109]⟩ ++ ⟨(mkD k k []).toArray⟩

theorem conv_digit (k : Nat) (w : World) : (convert 22 9 (.slice (some ⟨w.heap.size, 0, none⟩) 1 1)).run Tryz.prog (w.alloc (.cells #[.int .u8 (48 + (k : Int) % 10)] 5)) = .ok (.string ⟨#[UInt8.ofNat (48 + k % 10)]⟩) (w.alloc (.cells #[.int .u8 (48 + (k : Int) % 10)] 5)) := by
  refine run_convert_bytes_back _ 22 9 5 ⟨w.heap.size, 0, none⟩ 1 [UInt8.ofNat (48 + k % 10)] Tryz.underlying22 Tryz.underlying5 Tryz.underlying9 (fun j hj => ?_)
  obtain rfl : j = 0 := by simpa using hj
  rw [add_none, cell_of_row _ _ _ _ _ _ (heap_alloc_new w _)]
  have h : (UInt8.ofNat (48 + k % 10)).toNat = 48 + k % 10 := by rw [UInt8.toNat_ofNat']; omega
  simp only [List.getElem_cons_zero, h]
  simp

end Go.Proofs.YtceiafncpimihaaGreat

namespace Go.Proofs.YtceiafncpimihaaGreat
set_option linter.unusedVariables false
open Go.RowKit

/-- block b is a row of n expressions -/
def RowE (w : World) (b n : Nat) : Prop := ∃ cs : Array Value, w.heap[b]? = some (.cells cs 43 (0, 0)) ∧ cs.size = n * 3
/-- the slices of operands, from a place of a row on: each begins a row of its own -/
def SkS (w : World) (L B : Nat) : Fo → Nat → Nat → Prop
  | .nil, _, _ => True
  | .node k s ks r, b, j => (∃ a n c, w.cell? ⟨b, j * 3 + 2, none⟩ = some (.slice a n c) ∧ ks.len = n ∧ (0 < n → ∃ b', a = some ⟨b', 0, none⟩ ∧ L ≤ b' ∧ b' < B ∧ RowE w b' n ∧ SkS w L B ks b' 0)) ∧ SkS w L B r b (j + 1)
def SkA (w : World) (L B : Nat) (f : Fo) (a : Option Addr) (n : Nat) : Prop := f.len = n ∧ (0 < n → ∃ b, a = some ⟨b, 0, none⟩ ∧ L ≤ b ∧ b < B ∧ RowE w b n ∧ SkS w L B f b 0)
/-- what marks may turn: kinds and texts of expressions in blocks from L to B -/
structure MkStep (L B : Nat) (w w' : World) : Prop where
  os : w'.os = w.os
  tape : w'.tape = w.tape
  output : w'.output = w.output
  size : w.heap.size ≤ w'.heap.size
  out : ∀ g : Nat, g < w.heap.size → g < L ∨ B ≤ g → w'.heap[g]? = w.heap[g]?
  row : ∀ (g : Nat) (cs : Array Value), w.heap[g]? = some (.cells cs 43 (0, 0)) → ∃ cs' : Array Value, w'.heap[g]? = some (.cells cs' 43 (0, 0)) ∧ cs'.size = cs.size ∧ ∀ i, i % 3 = 2 → cs'[i]? = cs[i]?
section
variable {w w' w'' : World} {L B b j n i : Nat} {f ks : Fo} {k : Int} {s : ByteArray} {a : Option Addr}
theorem MkStep.refl (L B : Nat) (w : World) : MkStep L B w w := ⟨rfl, rfl, rfl, Nat.le_refl _, fun _ _ _ => rfl, fun g cs h => ⟨cs, h, rfl, fun _ _ => rfl⟩⟩
theorem MkStep.trans (h : MkStep L B w w') (h2 : MkStep L B w' w'') : MkStep L B w w'' := ⟨h2.os.trans h.os, h2.tape.trans h.tape, h2.output.trans h.output, Nat.le_trans h.size h2.size,
  fun g hg ho => (h2.out g (Nat.lt_of_lt_of_le hg h.size) ho).trans (h.out g hg ho), fun g cs hg => by
    obtain ⟨c1, h3, h4, h5⟩ := h.row g cs hg
    obtain ⟨c2, h6, h7, h8⟩ := h2.row g c1 h3
    exact ⟨c2, h6, h7.trans h4, fun i hi => (h8 i hi).trans (h5 i hi)⟩⟩
theorem MkStep.of (h : Below w.heap.size w w') : MkStep L B w w' := ⟨h.os, h.tape, h.output, h.size, fun g hg _ => h.block g hg, fun g cs hg => ⟨cs, (h.block g (Array.getElem?_eq_some_iff.1 hg).1).trans hg, rfl, fun _ _ => rfl⟩⟩
theorem set_block (w : World) (g i : Nat) (v : Value) (h : g < w.heap.size) : (w.setCell ⟨g, i, none⟩ v).heap[g]? = match w.heap[g]? with
    | some (.cells c e fr) => some (.cells (c.setIfInBounds i v) e fr)
    | o => o := by
  simp only [World.setCell]
  rw [Array.getElem?_modify, if_pos rfl]
  cases hx : w.heap[g]? with
  | none => rfl
  | some o => cases o <;> rfl
theorem MkStep.set (hL : L ≤ b) (hB : b < B) (hi : i % 3 ≠ 2) (v : Value) : MkStep L B w (w.setCell ⟨b, i, none⟩ v) := by
  refine ⟨rfl, rfl, rfl, by simp, fun g hg ho => Below.heap_setCell w ⟨b, i, none⟩ v g (by show g ≠ b; omega), fun g cs hg => ?_⟩
  by_cases hgb : g = b
  · subst hgb
    refine ⟨cs.setIfInBounds i v, ?_, by simp, fun i' hi' => by rw [Array.getElem?_setIfInBounds_ne (by rintro rfl; exact hi hi')]⟩
    have := (Array.getElem?_eq_some_iff.1 hg).1
    rw [set_block w g i v this, hg]
  · exact ⟨cs, (Below.heap_setCell w ⟨b, i, none⟩ v g hgb).trans hg, rfl, fun _ _ => rfl⟩
theorem RowE.step (h : RowE w b n) (hs : MkStep L B w w') : RowE w' b n := by
  obtain ⟨cs, h1, h2⟩ := h
  obtain ⟨c2, h3, h4, _⟩ := hs.row b cs h1
  exact ⟨c2, h3, h4.trans h2⟩
theorem RowE.slice (h : RowE w b n) (hs : MkStep L B w w') {v : Value} (hc : w.cell? ⟨b, j * 3 + 2, none⟩ = some v) : w'.cell? ⟨b, j * 3 + 2, none⟩ = some v := by
  obtain ⟨cs, h1, h2⟩ := h
  obtain ⟨c2, h3, h4, h5⟩ := hs.row b cs h1
  rw [cell_of_row _ _ _ _ _ _ h3, h5 _ (by omega), ← cell_of_row _ _ _ _ _ _ h1]
  exact hc
theorem sk_step (hs : MkStep L B w w') : ∀ {f : Fo} {b j n : Nat}, RowE w b n → SkS w L B f b j → SkS w' L B f b j
  | .nil, _, _, _, _, _ => trivial
  | .node k s ks r, b, j, n, hr, ⟨⟨a, m, c, h1, h2, h3⟩, h4⟩ => ⟨⟨a, m, c, hr.slice hs h1, h2, fun hm => let ⟨b', e, hl, hb, hr', hk⟩ := h3 hm; ⟨b', e, hl, hb, hr'.step hs, sk_step hs hr' hk⟩⟩, sk_step hs hr h4⟩
theorem SkA.step (h : SkA w L B f a n) (hs : MkStep L B w w') : SkA w' L B f a n := ⟨h.1, fun hn => let ⟨b, e, hl, hb, hr, hk⟩ := h.2 hn; ⟨b, e, hl, hb, hr.step hs, sk_step hs hr hk⟩⟩
theorem sk_get : ∀ {f : Fo} {b j i : Nat}, SkS w L B f b j → i < f.len → ∃ k s ks a n c, f.get i = some (k, s, ks) ∧ w.cell? ⟨b, (j + i) * 3 + 2, none⟩ = some (.slice a n c) ∧ SkA w L B ks a n
  | .node k s ks r, b, j, 0, ⟨⟨a, m, c, h1, h2, h3⟩, _⟩, _ => ⟨k, s, ks, a, m, c, rfl, h1, h2, h3⟩
  | .node k s ks r, b, j, i + 1, ⟨_, h4⟩, hi => by
    obtain ⟨k', s', ks', a, n, c, h1, h2, h3⟩ := sk_get (f := r) (i := i) h4 (by simp only [Fo.len] at hi; omega)
    exact ⟨k', s', ks', a, n, c, h1, by rw [show j + (i + 1) = j + 1 + i from by omega]; exact h2, h3⟩
  | .nil, _, _, _, _, h => absurd h (by simp [Fo.len])
theorem RowE.cells (h : RowE w b n) (hi : i < n * 3) : ∃ v, w.cell? ⟨b, i, none⟩ = some v := by
  obtain ⟨cs, h1, h2⟩ := h
  rw [cell_of_row _ _ _ _ _ _ h1]
  exact ⟨_, Array.getElem?_eq_getElem (by omega)⟩
theorem RowE.frozen (h : RowE w b n) (i : Nat) : w.frozen? ⟨b, i, none⟩ = false := by
  obtain ⟨cs, h1, h2⟩ := h
  exact blk_frozen h1 i
end
end Go.Proofs.YtceiafncpimihaaGreat

namespace Go.Proofs.YtceiafncpimihaaGreat
set_option linter.unusedVariables false
set_option linter.unusedSimpArgs false
open Go.RowKit

/-- the blocks of the rows below (a node's kind is the block of its operands' row) -/
def Fo.blks : Fo → List Nat
  | .nil => []
  | .node k _ ks r => (if ks.len = 0 then [] else k.toNat :: ks.blks) ++ r.blks
/-- the blocks of a list whose row is block g -/
def blksA (g : Nat) (bk : Fo) : List Nat := if bk.len = 0 then [] else g :: bk.blks
/-- block b is a row with room for n expressions -/
def RowC (w : World) (b n : Nat) : Prop := ∃ cs : Array Value, w.heap[b]? = some (.cells cs 43 (0, 0)) ∧ n * 3 ≤ cs.size
/-- the slices of operands, each with a row of its own -/
def Sep (w : World) : Fo → Nat → Nat → Prop
  | .nil, _, _ => True
  | .node k _ ks r, b, j => (∃ a c, w.cell? ⟨b, j * 3 + 2, none⟩ = some (.slice a ks.len c) ∧ (0 < ks.len → a = some ⟨k.toNat, 0, none⟩ ∧ RowC w k.toNat ks.len ∧ Sep w ks k.toNat 0)) ∧ Sep w r b (j + 1)
def SepA (w : World) (bk : Fo) (g : Nat) (a : Option Addr) (n : Nat) : Prop := bk.len = n ∧ (0 < n → a = some ⟨g, 0, none⟩ ∧ RowC w g n ∧ Sep w bk g 0)
def SepN (w : World) (b i g : Nat) (ks : Fo) : Prop := ∃ a c, w.cell? ⟨b, i * 3 + 2, none⟩ = some (.slice a ks.len c) ∧ SepA w ks g a ks.len
/-- the same rows, marked -/
def Mkd (w : World) : Fo → Nat → Nat → Nat → Prop
  | .nil, _, _, _ => True
  | .node k _ ks r, b, j, m => (w.cell? ⟨b, j * 3, none⟩ = some (.int .i64 m) ∧ w.cell? ⟨b, j * 3 + 1, none⟩ = some (.string (mkS (m + 1))) ∧
      ∃ a c, w.cell? ⟨b, j * 3 + 2, none⟩ = some (.slice a ks.len c) ∧ (0 < ks.len → a = some ⟨k.toNat, 0, none⟩ ∧ RowC w k.toNat ks.len ∧ Mkd w ks k.toNat 0 (m + 2))) ∧ Mkd w r b (j + 1) (m + 2 + 2 * ks.size)
def MkdA (w : World) (bk : Fo) (g : Nat) (a : Option Addr) (n m : Nat) : Prop := bk.len = n ∧ (0 < n → a = some ⟨g, 0, none⟩ ∧ RowC w g n ∧ Mkd w bk g 0 m)
def MkdN (w : World) (b i m g : Nat) (ks : Fo) : Prop := w.cell? ⟨b, i * 3, none⟩ = some (.int .i64 m) ∧ w.cell? ⟨b, i * 3 + 1, none⟩ = some (.string (mkS (m + 1))) ∧ ∃ a c, w.cell? ⟨b, i * 3 + 2, none⟩ = some (.slice a ks.len c) ∧ MkdA w ks g a ks.len (m + 2)
section
variable {w w' w'' : World} {b j i g n m : Nat} {bk ks : Fo} {k : Int} {s : ByteArray} {a : Option Addr}
theorem RowC.lt (h : RowC w b n) : b < w.heap.size := by
  obtain ⟨cs, h1, _⟩ := h
  exact blk_lt h1
theorem RowC.keep (h : RowC w b n) (hb : w'.heap[b]? = w.heap[b]?) : RowC w' b n := by
  obtain ⟨cs, h1, h2⟩ := h
  exact ⟨cs, hb.trans h1, h2⟩
theorem RowC.cells (h : RowC w b n) (hi : i < n * 3) : ∃ v, w.cell? ⟨b, i, none⟩ = some v := by
  obtain ⟨cs, h1, h2⟩ := h
  rw [cell_of_row _ _ _ _ _ _ h1]
  exact ⟨_, Array.getElem?_eq_getElem (by omega)⟩
theorem RowC.frozen (h : RowC w b n) (i : Nat) : w.frozen? ⟨b, i, none⟩ = false := by
  obtain ⟨cs, h1, h2⟩ := h
  exact blk_frozen h1 i
theorem RowC.set (h : RowC w b n) (g i : Nat) (v : Value) : RowC (w.setCell ⟨g, i, none⟩ v) b n := by
  obtain ⟨cs, h1, h2⟩ := h
  by_cases e : b = g
  · subst e
    exact ⟨_, blk_set h1 i v, by simpa using h2⟩
  · exact ⟨cs, (Below.heap_setCell w ⟨g, i, none⟩ v b e).trans h1, h2⟩
theorem cell_same (hb : w'.heap[b]? = w.heap[b]?) : w'.cell? ⟨b, i, none⟩ = w.cell? ⟨b, i, none⟩ := World.cell?_of_block hb
theorem blks_mem (h : bk.get i = some (k, s, ks)) : ∀ x, x ∈ blksA k.toNat ks → x ∈ bk.blks := by
  induction bk generalizing i with
  | nil => simp [Fo.get] at h
  | node k' s' ks' r _ ih =>
    intro x hx
    cases i with
    | zero =>
      simp only [Fo.get, Option.some.injEq, Prod.mk.injEq] at h
      obtain ⟨rfl, rfl, rfl⟩ := h
      exact List.mem_append_left _ hx
    | succ i => exact List.mem_append_right _ (ih h x hx)
theorem blks_nodup (hn : bk.blks.Nodup) (h : bk.get i = some (k, s, ks)) : (blksA k.toNat ks).Nodup := by
  induction bk generalizing i with
  | nil => simp [Fo.get] at h
  | node k' s' ks' r _ ih =>
    have hn' := List.nodup_append.1 hn
    cases i with
    | zero =>
      simp only [Fo.get, Option.some.injEq, Prod.mk.injEq] at h
      obtain ⟨rfl, rfl, rfl⟩ := h
      exact hn'.1
    | succ i => exact ih hn'.2.1 h
theorem blks_apart {i' : Nat} {k' : Int} {s' : ByteArray} {ks' : Fo} (hn : bk.blks.Nodup) (h : bk.get i = some (k, s, ks)) (h' : bk.get i' = some (k', s', ks')) (hi : i ≠ i') : ∀ x, x ∈ blksA k.toNat ks → x ∉ blksA k'.toNat ks' := by
  induction bk generalizing i i' with
  | nil => simp [Fo.get] at h
  | node k0 s0 ks0 r _ ih =>
    have hn' := List.nodup_append.1 hn
    intro x hx hx'
    cases i with
    | zero =>
      cases i' with
      | zero => exact hi rfl
      | succ i' =>
        simp only [Fo.get, Option.some.injEq, Prod.mk.injEq] at h
        obtain ⟨rfl, rfl, rfl⟩ := h
        exact hn'.2.2 x hx x (blks_mem (bk := r) h' x hx') rfl
    | succ i =>
      cases i' with
      | zero =>
        simp only [Fo.get, Option.some.injEq, Prod.mk.injEq] at h'
        obtain ⟨rfl, rfl, rfl⟩ := h'
        exact hn'.2.2 x hx' x (blks_mem (bk := r) h x hx) rfl
      | succ i' => exact ih hn'.2.1 h h' (by omega) x hx hx'
theorem sep_keep : ∀ {bk : Fo} {b j : Nat}, b < w.heap.size → (∀ x, x ∈ b :: bk.blks → x < w.heap.size → w'.heap[x]? = w.heap[x]?) → Sep w bk b j → Sep w' bk b j
  | .nil, _, _, _, _, _ => trivial
  | .node k s ks r, b, j, hb, hk, ⟨⟨a, c, h1, h2⟩, h3⟩ => by
    refine ⟨⟨a, c, (cell_same (hk b (List.mem_cons_self ..) hb)).trans h1, fun hn => ?_⟩, sep_keep hb (fun x hx => hk x ?_) h3⟩
    · obtain ⟨h4, h5, h6⟩ := h2 hn
      have hin : ∀ x, x ∈ k.toNat :: ks.blks → x ∈ b :: (Fo.node k s ks r).blks := fun x hx => List.mem_cons_of_mem _ (List.mem_append_left _ (by rw [if_neg (by omega)]; exact hx))
      exact ⟨h4, h5.keep (hk _ (hin _ (List.mem_cons_self ..)) h5.lt), sep_keep h5.lt (fun x hx => hk x (hin x hx)) h6⟩
    · rcases List.mem_cons.1 hx with rfl | hx
      · exact List.mem_cons_self ..
      · exact List.mem_cons_of_mem _ (List.mem_append_right _ hx)
theorem SepA.keep (h : SepA w bk g a n) (hk : ∀ x, x ∈ blksA g bk → x < w.heap.size → w'.heap[x]? = w.heap[x]?) : SepA w' bk g a n := by
  refine ⟨h.1, fun hn => ?_⟩
  obtain ⟨h4, h5, h6⟩ := h.2 hn
  have e : blksA g bk = g :: bk.blks := by unfold blksA; rw [if_neg (by have := h.1; omega)]
  rw [e] at hk
  exact ⟨h4, h5.keep (hk _ (List.mem_cons_self ..) h5.lt), sep_keep h5.lt hk h6⟩
theorem mkd_keep : ∀ {bk : Fo} {b j m : Nat}, b < w.heap.size → (∀ x, x ∈ b :: bk.blks → x < w.heap.size → w'.heap[x]? = w.heap[x]?) → Mkd w bk b j m → Mkd w' bk b j m
  | .nil, _, _, _, _, _, _ => trivial
  | .node k s ks r, b, j, m, hb, hk, ⟨⟨h00, h01, a, c, h1, h2⟩, h3⟩ => by
    have hbb := hk b (List.mem_cons_self ..) hb
    refine ⟨⟨(cell_same hbb).trans h00, (cell_same hbb).trans h01, a, c, (cell_same hbb).trans h1, fun hn => ?_⟩, mkd_keep hb (fun x hx => hk x ?_) h3⟩
    · obtain ⟨h4, h5, h6⟩ := h2 hn
      have hin : ∀ x, x ∈ k.toNat :: ks.blks → x ∈ b :: (Fo.node k s ks r).blks := fun x hx => List.mem_cons_of_mem _ (List.mem_append_left _ (by rw [if_neg (by omega)]; exact hx))
      exact ⟨h4, h5.keep (hk _ (hin _ (List.mem_cons_self ..)) h5.lt), mkd_keep h5.lt (fun x hx => hk x (hin x hx)) h6⟩
    · rcases List.mem_cons.1 hx with rfl | hx
      · exact List.mem_cons_self ..
      · exact List.mem_cons_of_mem _ (List.mem_append_right _ hx)
theorem MkdA.keep (h : MkdA w bk g a n m) (hk : ∀ x, x ∈ blksA g bk → x < w.heap.size → w'.heap[x]? = w.heap[x]?) : MkdA w' bk g a n m := by
  refine ⟨h.1, fun hn => ?_⟩
  obtain ⟨h4, h5, h6⟩ := h.2 hn
  have e : blksA g bk = g :: bk.blks := by unfold blksA; rw [if_neg (by have := h.1; omega)]
  rw [e] at hk
  exact ⟨h4, h5.keep (hk _ (List.mem_cons_self ..) h5.lt), mkd_keep h5.lt hk h6⟩
theorem sep_get : ∀ {bk : Fo} {b j i : Nat} {k : Int} {s : ByteArray} {ks : Fo}, Sep w bk b j → bk.get i = some (k, s, ks) → SepN w b (j + i) k.toNat ks
  | .nil, _, _, _, _, _, _, _, h => by simp [Fo.get] at h
  | .node k s ks r, b, j, 0, _, _, _, ⟨⟨a, c, h1, h2⟩, _⟩, h => by
    simp only [Fo.get, Option.some.injEq, Prod.mk.injEq] at h
    obtain ⟨rfl, rfl, rfl⟩ := h
    exact ⟨a, c, h1, rfl, h2⟩
  | .node k s ks r, b, j, i + 1, _, _, _, ⟨_, h3⟩, h => by
    have := sep_get (bk := r) (i := i) h3 h
    rwa [show j + (i + 1) = j + 1 + i from by omega]
theorem mkd_get : ∀ {bk : Fo} {b j i m : Nat} {k : Int} {s : ByteArray} {ks : Fo}, Mkd w bk b j m → bk.get i = some (k, s, ks) → MkdN w b (j + i) (m + 2 * bk.size - 2 * (bk.drop i).size) k.toNat ks
  | .nil, _, _, _, _, _, _, _, _, h => by simp [Fo.get] at h
  | .node k s ks r, b, j, 0, m, _, _, _, ⟨⟨h00, h01, a, c, h1, h2⟩, _⟩, h => by
    simp only [Fo.get, Option.some.injEq, Prod.mk.injEq] at h
    obtain ⟨rfl, rfl, rfl⟩ := h
    rw [Fo.drop_zero, Nat.add_sub_cancel]
    exact ⟨h00, h01, a, c, h1, rfl, h2⟩
  | .node k s ks r, b, j, i + 1, m, _, _, _, ⟨_, h3⟩, h => by
    have h4 := mkd_get (bk := r) (i := i) h3 h
    have hd : (Fo.node k s ks r).drop (i + 1) = r.drop i := rfl
    rw [hd, show j + (i + 1) = j + 1 + i from by omega, show m + 2 * (Fo.node k s ks r).size - 2 * (r.drop i).size = m + 2 + 2 * ks.size + 2 * r.size - 2 * (r.drop i).size from by simp only [Fo.size]; omega]
    exact h4
theorem drop_size_le : ∀ (bk : Fo) (i : Nat), (bk.drop i).size ≤ bk.size
  | .nil, 0 => Nat.le_refl _
  | .nil, _ + 1 => Nat.le_refl _
  | .node _ _ _ _, 0 => Nat.le_refl _
  | .node k s ks r, i + 1 => by have := drop_size_le r i; simp only [Fo.drop, Fo.size]; omega
theorem mkd_of : ∀ {bk : Fo} {b j m : Nat}, (∀ i k s ks, bk.get i = some (k, s, ks) → MkdN w b (j + i) (m + 2 * bk.size - 2 * (bk.drop i).size) k.toNat ks) → Mkd w bk b j m
  | .nil, _, _, _, _ => trivial
  | .node k s ks r, b, j, m, h => by
    have h0 := h 0 k s ks rfl
    rw [Fo.drop_zero, Nat.add_sub_cancel, Nat.add_zero] at h0
    obtain ⟨h00, h01, a, c, h1, h2⟩ := h0
    refine ⟨⟨h00, h01, a, c, h1, h2.2⟩, mkd_of fun i k' s' ks' hg => ?_⟩
    have h4 := h (i + 1) k' s' ks' hg
    have hd : (Fo.node k s ks r).drop (i + 1) = r.drop i := rfl
    rw [hd, show j + (i + 1) = j + 1 + i from by omega, show m + 2 * (Fo.node k s ks r).size - 2 * (r.drop i).size = m + 2 + 2 * ks.size + 2 * r.size - 2 * (r.drop i).size from by simp only [Fo.size]; omega] at h4
    exact h4
/-- only these blocks may have been written to -/
structure TchL (bs : List Nat) (w w' : World) : Prop where
  os : w'.os = w.os
  tape : w'.tape = w.tape
  output : w'.output = w.output
  size : w.heap.size ≤ w'.heap.size
  out : ∀ g : Nat, g < w.heap.size → g ∉ bs → w'.heap[g]? = w.heap[g]?
theorem TchL.refl (bs : List Nat) (w : World) : TchL bs w w := ⟨rfl, rfl, rfl, Nat.le_refl _, fun _ _ _ => rfl⟩
theorem TchL.trans {bs : List Nat} (h : TchL bs w w') (h2 : TchL bs w' w'') : TchL bs w w'' := ⟨h2.os.trans h.os, h2.tape.trans h.tape, h2.output.trans h.output, Nat.le_trans h.size h2.size, fun g hg ho => (h2.out g (Nat.lt_of_lt_of_le hg h.size) ho).trans (h.out g hg ho)⟩
theorem TchL.of {bs : List Nat} (h : Below w.heap.size w w') : TchL bs w w' := ⟨h.os, h.tape, h.output, h.size, fun g hg _ => h.block g hg⟩
theorem TchL.set {bs : List Nat} (hL : g ∈ bs) (v : Value) : TchL bs w (w.setCell ⟨g, i, none⟩ v) := ⟨rfl, rfl, rfl, by simp, fun g' hg ho => Below.heap_setCell w ⟨g, i, none⟩ v g' (by show g' ≠ g; rintro rfl; exact ho hL)⟩
theorem TchL.more {bs bs' : List Nat} (h : TchL bs w w') (hL : ∀ x, x ∈ bs → x ∈ bs') : TchL bs' w w' := ⟨h.os, h.tape, h.output, h.size, fun g hg ho => h.out g hg fun hx => ho (hL g hx)⟩
end
end Go.Proofs.YtceiafncpimihaaGreat
