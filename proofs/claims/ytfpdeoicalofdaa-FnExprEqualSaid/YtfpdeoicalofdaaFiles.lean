/-
  Lists of files in memory: what a slice of files reads as. Over whatever program.
-/
import Derived.Test.YtfpdeoicalofdaaBase
import Derived.Below
import Derived.Laws.OwnMore
import Derived.Deep.AppendLies
import Derived.Deep.Draws
import Derived.Laws.Rows
import Derived.Laws.MakeOwn
import Derived.Laws.Entries
namespace Go.Proofs.Ytfpdeoicalofdaa
set_option linter.unusedVariables false
open Go.RowKit

theorem below_drewN {B : Nat} {a w : World} (h : Below B a w) (n : Nat) : Below B a (w.drewN n) := ⟨h.os, h.tape, h.output, h.size, h.block⟩

/-- a file: its path and its text -/
abbrev Fl := ByteArray × ByteArray

def fcells (fs : List Fl) : List Value := fs.flatMap fun f => [.string f.1, .string f.2]
theorem fcells_nil : fcells [] = [] := rfl
theorem fcells_cons (f : Fl) (fs : List Fl) : fcells (f :: fs) = .string f.1 :: .string f.2 :: fcells fs := rfl
theorem fcells_append (a b : List Fl) : fcells (a ++ b) = fcells a ++ fcells b := by simp [fcells]
theorem fcells_length (fs : List Fl) : (fcells fs).length = fs.length * 2 := by
  induction fs with
  | nil => rfl
  | cons f fs ih => rw [fcells_cons]; simp [ih]; omega
theorem fcells_get (fs : List Fl) : ∀ {k : Nat} {p t : ByteArray}, fs[k]? = some (p, t) → (fcells fs)[k * 2]? = some (.string p) ∧ (fcells fs)[k * 2 + 1]? = some (.string t) := by
  induction fs with
  | nil => intro k p t h; simp at h
  | cons f fs ih =>
    intro k p t h
    cases k with
    | zero => simp at h; subst h; exact ⟨rfl, rfl⟩
    | succ k =>
      have := ih (k := k) (p := p) (t := t) (by simpa using h)
      rw [fcells_cons, show (k + 1) * 2 = k * 2 + 1 + 1 from by omega]
      simpa using this
theorem fcells_inv (fs : List Fl) : ∀ {j : Nat} {u : Value}, (fcells fs)[j]? = some u → ∃ (k : Nat) (p t : ByteArray), fs[k]? = some (p, t) ∧ ((j = k * 2 ∧ u = .string p) ∨ (j = k * 2 + 1 ∧ u = .string t)) := by
  induction fs with
  | nil => intro j u h; simp [fcells] at h
  | cons f fs ih =>
    intro j u h
    rw [fcells_cons] at h
    match j with
    | 0 => simp at h; exact ⟨0, f.1, f.2, rfl, .inl ⟨rfl, h.symm⟩⟩
    | 1 => simp at h; exact ⟨0, f.1, f.2, rfl, .inr ⟨rfl, h.symm⟩⟩
    | j + 2 =>
      simp at h
      obtain ⟨k, p, t, hk, hh⟩ := ih h
      refine ⟨k + 1, p, t, by simpa using hk, ?_⟩
      rcases hh with ⟨rfl, hu⟩ | ⟨rfl, hu⟩
      · exact .inl ⟨by omega, hu⟩
      · exact .inr ⟨by omega, hu⟩
theorem fcells_oneCell (fs : List Fl) : ∀ u ∈ fcells fs, u.oneCell' = true := by
  intro u hu
  simp [fcells] at hu
  obtain ⟨a, b, _, rfl | rfl⟩ := hu <;> rfl

/-- each string of the list fits -/
def Fits (fs : List Fl) : Prop := ∀ f ∈ fs, f.1.size ≤ maxLen ∧ f.2.size ≤ maxLen
theorem Fits.get {fs : List Fl} (h : Fits fs) {k : Nat} {p t : ByteArray} (hk : fs[k]? = some (p, t)) : p.size ≤ maxLen ∧ t.size ≤ maxLen := h _ (List.mem_of_getElem? hk)

/-- the bytes of a list of files -/
def tot : List Fl → Nat
  | [] => 0
  | f :: fs => f.1.size + f.2.size + tot fs
theorem tot_append (a b : List Fl) : tot (a ++ b) = tot a + tot b := by
  induction a with
  | nil => simp [tot]
  | cons f a ih => simp only [List.cons_append, tot, ih]; omega
theorem tot_take_succ {fs : List Fl} {k : Nat} {p t : ByteArray} (h : fs[k]? = some (p, t)) : tot (fs.take (k + 1)) = tot (fs.take k) + (p.size + t.size) := by
  rw [List.take_add_one, h, tot_append]
  simp [tot]
theorem tot_take_le (fs : List Fl) (k : Nat) : tot (fs.take k) ≤ tot fs := by
  have h := tot_append (fs.take k) (fs.drop k)
  rw [List.take_append_drop] at h
  omega

/-- is the file at place k as a valid list has it? -/
def okAt (fs : List Fl) (k : Nat) : Bool :=
  match fs[k]? with
  | none => true
  | some (p, t) => pathB p && textB t && (match k with
    | 0 => true
    | j + 1 => match fs[j]? with
      | none => true
      | some (q, _) => sLess q p)
def okTo (fs : List Fl) (k : Nat) : Bool := (List.range k).all (okAt fs)
theorem okTo_succ (fs : List Fl) (k : Nat) : okTo fs (k + 1) = (okTo fs k && okAt fs k) := by
  simp [okTo, List.range_succ]
theorem okTo_step {fs : List Fl} {k : Nat} (h1 : okTo fs k = true) (h2 : okAt fs k = true) : okTo fs (k + 1) = true := by rw [okTo_succ, h1, h2]; rfl
theorem okTo_false {fs : List Fl} {k n : Nat} (hk : k < n) (h : okAt fs k = false) : okTo fs n = false := by
  unfold okTo
  rw [List.all_eq_false]
  exact ⟨k, by simpa using hk, by simp [h]⟩
theorem okAt_path {fs : List Fl} {k : Nat} {p t : ByteArray} (hg : fs[k]? = some (p, t)) (h : pathB p = false) : okAt fs k = false := by
  unfold okAt; rw [hg]; simp [h]
theorem okAt_text {fs : List Fl} {k : Nat} {p t : ByteArray} (hg : fs[k]? = some (p, t)) (h : textB t = false) : okAt fs k = false := by
  unfold okAt; rw [hg]; simp [h]
theorem okAt_zero {fs : List Fl} {p t : ByteArray} (hg : fs[0]? = some (p, t)) (h1 : pathB p = true) (h2 : textB t = true) : okAt fs 0 = true := by
  unfold okAt; rw [hg]; simp [h1, h2]
theorem okAt_succ {fs : List Fl} {k : Nat} {p t q r : ByteArray} (hg : fs[k + 1]? = some (p, t)) (hq : fs[k]? = some (q, r)) (h1 : pathB p = true) (h2 : textB t = true) : okAt fs (k + 1) = sLess q p := by
  unfold okAt; rw [hg]; simp [h1, h2, hq]
def validB (fs : List Fl) : Bool := decide (fs.length ≤ 12) && okTo fs fs.length

theorem validB_false {fs : List Fl} {n k : Nat} {p t : ByteArray} (hl : fs.length = n) (hk : k < n) (_hg : fs[k]? = some (p, t)) (h : okAt fs k = false) : validB fs = false := by
  unfold validB
  rw [okTo_false (n := fs.length) (by omega) h, Bool.and_false]
theorem validB_all {fs : List Fl} {n : Nat} (hl : fs.length = n) (h : okTo fs n = true) : validB fs = decide ((n : Int) ≤ 12) := by
  unfold validB
  rw [hl, h, Bool.and_true]
  congr 1
  exact propext (by omega)

/-- the text of the first file with this path -/
def findF : List Fl → ByteArray → ByteArray × Bool
  | [], _ => (.empty, false)
  | f :: fs, x => if f.1 = x then (f.2, true) else findF fs x
theorem findF_none {fs : List Fl} {x : ByteArray} (h : ∀ (j : Nat) (p t : ByteArray), fs[j]? = some (p, t) → p ≠ x) : findF fs x = (.empty, false) := by
  induction fs with
  | nil => rfl
  | cons f fs ih =>
    rw [findF, if_neg (h 0 f.1 f.2 rfl)]
    exact ih fun j p t hj => h (j + 1) p t (by simpa using hj)
theorem findF_at {fs : List Fl} {x t : ByteArray} : ∀ {k : Nat}, (∀ (j : Nat) (p t : ByteArray), j < k → fs[j]? = some (p, t) → p ≠ x) → fs[k]? = some (x, t) → findF fs x = (t, true) := by
  induction fs with
  | nil => intro k _ h; simp at h
  | cons f fs ih =>
    intro k h hk
    cases k with
    | zero => simp at hk; subst hk; simp [findF]
    | succ k =>
      rw [findF, if_neg (h 0 f.1 f.2 (by omega) rfl)]
      exact ih (k := k) (fun j p t hj hjj => h (j + 1) p t (by omega) (by simpa using hjj)) (by simpa using hk)

/-- none of the first k files has this path -/
def notTo (fs : List Fl) (x : ByteArray) (k : Nat) : Prop := ∀ (j : Nat) (p t : ByteArray), j < k → fs[j]? = some (p, t) → p ≠ x
theorem notTo_zero (fs : List Fl) (x : ByteArray) : notTo fs x 0 := fun j p t h => absurd h (by omega)
theorem notTo_step {fs : List Fl} {x p t : ByteArray} {k : Nat} (h : notTo fs x k) (hg : fs[k]? = some (p, t)) (hp : ¬ p = x) : notTo fs x (k + 1) := by
  intro j p' t' hj hg'
  by_cases e : j = k
  · subst e; rw [hg] at hg'; cases hg'; exact hp
  · exact h j p' t' (by omega) hg'
theorem notTo_all {fs : List Fl} {x : ByteArray} {n : Nat} (hl : fs.length = n) (h : notTo fs x n) : findF fs x = (.empty, false) :=
  findF_none fun j p t hj => h j p t (by have := (List.getElem?_eq_some_iff.1 hj).1; omega) hj

/-- the bytes of the text of a list of files -/
def fmtF (fs : List Fl) : List UInt8 := fs.flatMap fun f => f.1.data.toList ++ [32] ++ f.2.data.toList ++ [10]
def fmtS (fs : List Fl) : ByteArray := if validB fs = true then ⟨(fmtF fs).toArray⟩ else .empty
theorem fmtF_take_succ {fs : List Fl} {k : Nat} {p t : ByteArray} (h : fs[k]? = some (p, t)) : fmtF (fs.take (k + 1)) = fmtF (fs.take k) ++ p.data.toList ++ [32] ++ t.data.toList ++ [10] := by
  unfold fmtF
  rw [List.take_add_one, h]
  simp
theorem okTo_le {fs : List Fl} {k n : Nat} (h : okTo fs n = true) (hk : k < n) : okAt fs k = true := by
  unfold okTo at h
  rw [List.all_eq_true] at h
  exact h k (by simpa using hk)
theorem okAt_sizes {fs : List Fl} {k : Nat} {p t : ByteArray} (h : okAt fs k = true) (hg : fs[k]? = some (p, t)) : p.size ≤ 8 ∧ t.size ≤ 60 := by
  unfold okAt at h
  rw [hg] at h
  simp only [Bool.and_eq_true] at h
  exact ⟨((pathB_iff p).1 h.1.1).2.1, ((textB_iff t).1 h.1.2).1⟩
theorem valid_sizes {fs : List Fl} (h : validB fs = true) {k : Nat} {p t : ByteArray} (hg : fs[k]? = some (p, t)) : p.size ≤ 8 ∧ t.size ≤ 60 := by
  unfold validB at h
  simp only [Bool.and_eq_true] at h
  exact okAt_sizes (okTo_le h.2 (List.getElem?_eq_some_iff.1 hg).1) hg
theorem valid_length {fs : List Fl} (h : validB fs = true) : fs.length ≤ 12 := by
  unfold validB at h
  simp only [Bool.and_eq_true, decide_eq_true_eq] at h
  exact h.1
theorem fmtF_length {fs : List Fl} (h : validB fs = true) : ∀ {k : Nat}, k ≤ fs.length → (fmtF (fs.take k)).length ≤ 70 * k := by
  intro k
  induction k with
  | zero => intro _; simp [fmtF]
  | succ k ih =>
    intro hk
    have hg : fs[k]? = some (fs[k].1, fs[k].2) := List.getElem?_eq_getElem (by omega)
    have := ih (by omega)
    have hs := valid_sizes h hg
    have e1 : fs[k].1.data.size ≤ 8 := hs.1
    have e2 : fs[k].2.data.size ≤ 60 := hs.2
    rw [fmtF_take_succ hg]
    simp only [List.length_append, Array.length_toList, List.length_cons, List.length_nil]
    omega

theorem add_none (b off i : Nat) : (⟨b, off, none⟩ : Addr).add i = ⟨b, off + i, none⟩ := by
  unfold Addr.add; by_cases h : i = 0 <;> simp [h]

/-- the slice at a of n elements reads as the files fs and lies below block B -/
def FilesAt (w : World) (B : Nat) (a : Option Addr) (n : Nat) (fs : List Fl) : Prop :=
  fs.length = n ∧ (0 < n → ∃ b off, a = some ⟨b, off, none⟩ ∧ b < B ∧ ∀ j u, (fcells fs)[j]? = some u → w.cell? ⟨b, off + j, none⟩ = some u)

section
variable {w w' : World} {B B' n : Nat} {a : Option Addr} {fs : List Fl}
theorem FilesAt.get (h : FilesAt w B a n fs) {k : Nat} (hk : k < n) :
    ∃ b off p t, a = some ⟨b, off, none⟩ ∧ b < B ∧ fs[k]? = some (p, t) ∧ w.cell? ⟨b, off + k * 2, none⟩ = some (.string p) ∧ w.cell? ⟨b, off + k * 2 + 1, none⟩ = some (.string t) := by
  obtain ⟨b, off, ha, hb, hc⟩ := h.2 (by omega)
  have hl : k < fs.length := by have := h.1; omega
  have hg : fs[k]? = some (fs[k].1, fs[k].2) := List.getElem?_eq_getElem hl
  obtain ⟨h1, h2⟩ := fcells_get fs hg
  exact ⟨b, off, _, _, ha, hb, hg, hc _ _ h1, by have := hc _ _ h2; rwa [← Nat.add_assoc] at this⟩
theorem FilesAt.keep (h : FilesAt w B a n fs) (hk : ∀ p : Addr, p.block < B → w'.cell? p = w.cell? p) : FilesAt w' B a n fs :=
  ⟨h.1, fun hn => by
    obtain ⟨b, off, ha, hb, hc⟩ := h.2 hn
    exact ⟨b, off, ha, hb, fun j u hu => (hk ⟨b, off + j, none⟩ hb).trans (hc j u hu)⟩⟩
theorem FilesAt.more (h : FilesAt w B a n fs) (hB : B ≤ B') : FilesAt w B' a n fs :=
  ⟨h.1, fun hn => by
    obtain ⟨b, off, ha, hb, hc⟩ := h.2 hn
    exact ⟨b, off, ha, by omega, hc⟩⟩
theorem FilesAt.below (h : FilesAt w B a n fs) (hb : Below B w w') : FilesAt w' B a n fs := h.keep fun _ hp => hb.cell hp
theorem FilesAt.drew (h : FilesAt w B a n fs) : FilesAt w.drew B a n fs := h
theorem FilesAt.drewN (h : FilesAt w B a n fs) (k : Nat) : FilesAt (w.drewN k) B a n fs := h
theorem FilesAt.alloc (h : FilesAt w B a n fs) (hB : B ≤ w.heap.size) (o : Obj) : FilesAt (w.alloc o) B a n fs := h.keep fun p hp => World.cell?_alloc_lt w o p (by omega)
end

theorem make_row {P : Program} (t e : TypeId) (i : TypeInfo) (z : Value) (ht : P.underlying t = some (.slice e)) (hi : P.info? e = some i) (hz : i.zero = some z)
    (kl kc : IntKind) (n c : Nat) (hnc : n ≤ c) (hbytes : i.bytes * c ≤ 281474976710656) (h63 : c ≤ 9223372036854775807) (w : World) :
    (Instr.makeSlice t (.int kl (n : Int)) (.int kc (c : Int))).run P w = .ok (.slice (some ⟨w.heap.size, 0, none⟩) n c) (w.alloc (.cells (madeCells z.cells (c * i.size)) e)) := by
  have hb : (i.bytes : Int) * (c : Int) ≤ 281474976710656 := by
    have h : ((i.bytes * c : Nat) : Int) ≤ 281474976710656 := by omega
    rwa [Int.natCast_mul] at h
  have hr := run_make (P := P) w t e i z ht hi hz kl kc n c (by omega) (by omega) hb (by omega)
  simp only [Int.toNat_natCast] at hr
  exact hr

theorem blk_lt {w : World} {g : Nat} {o : Obj} (h : w.heap[g]? = some o) : g < w.heap.size := by
  rcases Nat.lt_or_ge g w.heap.size with hlt | hge
  · exact hlt
  · rw [Array.getElem?_eq_none hge] at h; cases h
theorem blk_frozen {w : World} {g : Nat} {e : TypeId} {cs : Array Value} (h : w.heap[g]? = some (.cells cs e (0, 0))) (i : Nat) : w.frozen? ⟨g, i, none⟩ = false := by
  simp [World.frozen?, h]

theorem blk_set {w : World} {g : Nat} {e : TypeId} {cs : Array Value} (h : w.heap[g]? = some (.cells cs e (0, 0))) (i : Nat) (u : Value) :
    (w.setCell ⟨g, i, none⟩ u).heap[g]? = some (.cells (cs.setIfInBounds i u) e (0, 0)) := by
  simp [World.setCell, Array.getElem?_modify, h]
theorem fill_two {l xs : List Value} {k : Nat} (u v : Value) (hl : k * 2 + 1 < l.length) (h : l.take (k * 2) = xs) :
    ((l.set (k * 2) u).set (k * 2 + 1) v).take ((k + 1) * 2) = xs ++ [u, v] := by
  subst h
  rw [show (k + 1) * 2 = k * 2 + 1 + 1 from by omega, List.take_add_one, List.take_add_one]
  simp [List.take_set_of_le, hl, show k * 2 < l.length from by omega]
theorem fcells_take_succ {fs : List Fl} {k : Nat} {p t : ByteArray} (h : fs[k]? = some (p, t)) : fcells (fs.take (k + 1)) = fcells (fs.take k) ++ [.string p, .string t] := by
  rw [List.take_add_one, h, fcells_append]
  simp [fcells]
theorem fill_file {cur : Array Value} {fs : List Fl} {n k : Nat} {p t : ByteArray} (hsz : cur.size = n * 2) (hk : k < n) (hcur : cur.toList.take (k * 2) = fcells (fs.take k)) (hg : fs[k]? = some (p, t)) :
    (((cur.setIfInBounds (k * 2) (.string p)).setIfInBounds (k * 2 + 1) (.string t)).toList).take ((k + 1) * 2) = fcells (fs.take (k + 1)) := by
  rw [fcells_take_succ hg]
  have := fill_two (l := cur.toList) (k := k) (.string p) (.string t) (by simp; omega) hcur
  simpa using this

theorem take_eq_succ {fs gs : List Fl} {k : Nat} {p t p' t' : ByteArray} (h : fs.take k = gs.take k) (h1 : fs[k]? = some (p, t)) (h2 : gs[k]? = some (p', t')) (he : (p, t) = (p', t')) : fs.take (k + 1) = gs.take (k + 1) := by
  rw [List.take_add_one, List.take_add_one, h1, h2, h, he]
theorem ne_of_get {fs gs : List Fl} {k : Nat} {p t p' t' : ByteArray} (h1 : fs[k]? = some (p, t)) (h2 : gs[k]? = some (p', t')) (he : ¬ (p, t) = (p', t')) : ¬ fs = gs := by
  rintro rfl
  rw [h1] at h2
  exact he (Option.some.inj h2)

/-- block g is a row of elements of type e that reads as the files fs, none of it frozen -/
def OwnF (w : World) (e : TypeId) (g : Nat) (fs : List Fl) : Prop := w.heap[g]? = some (.cells (fcells fs).toArray e (0, 0))

section
variable {w w' : World} {g : Nat} {e : TypeId} {fs : List Fl}
theorem OwnF.lt (h : OwnF w e g fs) : g < w.heap.size := by
  rcases Nat.lt_or_ge g w.heap.size with hlt | hge
  · exact hlt
  · unfold OwnF at h; rw [Array.getElem?_eq_none hge] at h; cases h
theorem OwnF.cell (h : OwnF w e g fs) (i : Nat) : w.cell? ⟨g, i, none⟩ = (fcells fs)[i]? := by
  have := cell_of_row w g i (fcells fs).toArray e (0, 0) h
  simpa using this
theorem OwnF.frozen (h : OwnF w e g fs) (i : Nat) : w.frozen? ⟨g, i, none⟩ = false := by
  unfold OwnF at h
  simp [World.frozen?, h]
theorem OwnF.drew (h : OwnF w e g fs) : OwnF w.drew e g fs := h
theorem OwnF.drewN (h : OwnF w e g fs) (n : Nat) : OwnF (w.drewN n) e g fs := h
theorem OwnF.alloc (h : OwnF w e g fs) (o : Obj) : OwnF (w.alloc o) e g fs := (Below.heap_alloc w o g h.lt).trans h
theorem OwnF.below {B : Nat} (h : OwnF w e g fs) (hb : Below B w w') (hg : g < B) : OwnF w' e g fs := (hb.block g hg).trans h
theorem OwnF.far (h : OwnF w e g fs) {p : Addr} (hp : g ≠ p.block) (u : Value) : OwnF (w.setCell p u) e g fs := (Below.heap_setCell w p u g hp).trans h
theorem OwnF.in_ {n : Nat} (h : OwnF w e g fs) (hl : fs.length = n) : FilesAt w w.heap.size (some ⟨g, 0, none⟩) n fs :=
  ⟨hl, fun _ => ⟨g, 0, rfl, h.lt, fun j u hu => by rw [Nat.zero_add, h.cell, hu]⟩⟩
theorem OwnF.at_ (h : OwnF w e g fs) : FilesAt w (g + 1) (some ⟨g, 0, none⟩) fs.length fs :=
  ⟨rfl, fun _ => ⟨g, 0, rfl, by omega, fun j u hu => by rw [Nat.zero_add, h.cell, hu]⟩⟩
end

theorem fcells_set1 {s t : ByteArray} : ∀ {fs : List Fl} {k : Nat} {p : ByteArray}, fs[k]? = some (p, t) → fcells (fs.set k (s, t)) = (fcells fs).set (k * 2) (.string s) := by
  intro fs
  induction fs with
  | nil => intro k p h; simp at h
  | cons f fs ih =>
    intro k p h
    cases k with
    | zero => simp at h; subst h; rfl
    | succ k =>
      rw [List.set_cons_succ, fcells_cons, fcells_cons, show (k + 1) * 2 = k * 2 + 1 + 1 from by omega, List.set_cons_succ, List.set_cons_succ, ih (by simpa using h)]
theorem fcells_set2 {s p : ByteArray} : ∀ {fs : List Fl} {k : Nat} {t : ByteArray}, fs[k]? = some (p, t) → fcells (fs.set k (p, s)) = (fcells fs).set (k * 2 + 1) (.string s) := by
  intro fs
  induction fs with
  | nil => intro k t h; simp at h
  | cons f fs ih =>
    intro k t h
    cases k with
    | zero => simp at h; subst h; rfl
    | succ k =>
      rw [List.set_cons_succ, fcells_cons, fcells_cons, show (k + 1) * 2 + 1 = k * 2 + 1 + 1 + 1 from by omega, List.set_cons_succ, List.set_cons_succ, ih (by simpa using h)]
end Go.Proofs.Ytfpdeoicalofdaa
