/-
  Plain words on the reference's reading of expressions: at a place of a text, down to a depth. No program is named here.
-/
import Derived.Test.YtfpdeoicalofdaaParX
namespace Go.Proofs.Ytfpdeoicalofdaa
set_option linter.unusedVariables false
open Go.RowKit

theorem nodeB_txN {k : Int} {s : ByteArray} {n : Nat} (h : nodeB k s n = true) : TxN k s n := by
  rcases node_kinds h with ⟨h1, h2, h3⟩ | ⟨h1, h2, h3⟩ | ⟨h1, h2, h3⟩ | ⟨h1, h2, h3⟩
  · refine .inl ⟨h1, h2, fun h4 => ?_⟩
    unfold plainB noQ at h3
    simp only [Bool.and_eq_true, List.all_eq_true, decide_eq_true_eq] at h3
    exact h3.1 39 h4 rfl
  · exact .inr (.inl ⟨h1, h3⟩)
  · exact .inr (.inr (.inl ⟨h1, h2, h3⟩))
  · exact .inr (.inr (.inr ⟨h1, h2, h3⟩))
theorem shape_tx : ∀ {f : Fo} {d : Nat}, shape f d = true → Tx f
  | .nil, _, _ => trivial
  | .node k s ks r, d, h => by
    simp only [shape, Bool.and_eq_true] at h
    exact ⟨nodeB_txN h.1.1.2, shape_tx h.1.2, shape_tx h.2⟩
theorem shape_one {k : Int} {s : ByteArray} {ks : Fo} {d : Nat} (h : shape (.node k s ks .nil) d = true) : 1 ≤ d ∧ nodeB k s ks.len = true ∧ shape ks (d - 1) = true := by
  simp only [shape, Bool.and_eq_true, decide_eq_true_eq, and_true] at h
  exact ⟨h.1.1, h.1.2, h.2⟩
theorem shape_app : ∀ {f g : Fo} {d : Nat}, shape (f.app g) d = true → shape g d = true
  | .nil, _, _, h => h
  | .node k s ks r, _, d, h => by simp only [Fo.app, shape, Bool.and_eq_true] at h; exact shape_app (f := r) h.2
theorem app_snoc (k : Int) (s : ByteArray) (ks g : Fo) (sn : Fo → Int → ByteArray → Fo → Fo) (hn : ∀ k s ks, sn .nil k s ks = .node k s ks .nil) (hc : ∀ k' s' ks' r k s ks, sn (.node k' s' ks' r) k s ks = .node k' s' ks' (sn r k s ks)) : ∀ f : Fo, f.app (.node k s ks g) = (sn f k s ks).app g
  | .nil => by rw [hn]; rfl
  | .node k' s' ks' r => by rw [hc]; simp only [Fo.app, app_snoc k s ks g sn hn hc r]
/-- how large a node may be at a depth -/
def Bd : Nat → Nat
  | 0 => 1
  | d + 1 => 1 + 5 * Bd d
theorem Bd_pos : ∀ d, 1 ≤ Bd d
  | 0 => Nat.le_refl _
  | d + 1 => by simp only [Bd]; omega
theorem Bd_mono : ∀ d, Bd d ≤ Bd (d + 1)
  | d => by have := Bd_pos d; simp only [Bd]; omega
/-- what the reference hands back is of a bounded size -/
def NOk (d : Nat) (k : Int) (s : ByteArray) (ks : Fo) : Prop := ks.size + 1 ≤ Bd d ∧ s.size ≤ 1048576 ∧ ks.Fits ∧ ks.len ≤ 5
theorem nok_zero (d : Nat) (k : Int) : NOk d k ⟨#[]⟩ .nil := ⟨by have := Bd_pos d; simp only [Fo.size]; omega, Nat.zero_le _, trivial, Nat.zero_le _⟩
/-- if the text at this place begins with a node of this depth, that is it -/
def Want (t : List UInt8) (d : Nat) (at_ : Nat) (k : Int) (s : ByteArray) (ks : Fo) (next : Int) : Prop := ∀ k' s' ks' tail, shape (.node k' s' ks' .nil) d = true → t = fm1 k' s' ks' ++ tail → k = k' ∧ s = s' ∧ ks = ks' ∧ next = at_ + (fm1 k' s' ks').length
def sp4 : List (List UInt8) := [[61], [63], [58], [93]]
def Want4 (r : List UInt8) (d : Nat) (at_ : Nat) (k : Int) (s : ByteArray) (ks : Fo) (next : Int) : Prop := ∀ ks' tail, shape ks' d = true → ks'.len = 4 → r = fmS ks' sp4 ++ tail → k = 4 ∧ s = .empty ∧ ks = ks' ∧ next = at_ + (fmS ks' sp4).length
def Want3 (r : List UInt8) (d : Nat) (at_ : Nat) (k : Int) (s : ByteArray) (ks : Fo) (next : Int) : Prop := ∀ ks' tail, shape ks' d = true → ks'.len ≤ 4 → r = fmS ks' [] ++ 41 :: tail → k = 3 ∧ s = .empty ∧ ks = ks' ∧ next = at_ + (fmS ks' []).length + 1
section
variable {t r : List UInt8} {d at_ : Nat} {k K : Int} {s : ByteArray} {ks : Fo} {next : Int}
theorem want_zero : Want t 0 at_ k s ks next := fun k' s' ks' tail h => absurd (shape_one h).1 (by omega)
theorem want_nil : Want [] d at_ k s ks next := fun k' s' ks' tail _ e => by rw [fm1_hd] at e; simp at e
theorem want_other {c : UInt8} (h : ∀ k : Int, (k = 1 ∨ k = 2 ∨ k = 3 ∨ k = 4 ∨ k = 5 ∨ k = 6 ∨ k = 7) → hdB k ≠ c) : Want (c :: r) d at_ k s ks next := fun k' s' ks' tail h1 e => by
  rw [fm1_hd, List.cons_append] at e
  injection e with e1 _
  exact absurd e1.symm (h k' (txN_kind (nodeB_txN (shape_one h1).2.1)))
theorem want_text {x y : List UInt8} (hx : (39 : UInt8) ∉ x) : Want (39 :: (x ++ 39 :: y)) d at_ 1 ⟨x.toArray⟩ .nil ((at_ : Int) + 1 + x.length + 1) := fun k' s' ks' tail h1 e => by
  have ht := nodeB_txN (shape_one h1).2.1
  have hz : TxN 1 (⟨x.toArray⟩ : ByteArray) Fo.nil.len := .inl ⟨rfl, rfl, by simpa using hx⟩
  have e2 : fm1 1 ⟨x.toArray⟩ .nil ++ y = fm1 k' s' ks' ++ tail := by rw [← e, fm1_hd]; simp [hdB, tlB]
  obtain ⟨rfl, rfl, rfl, rfl⟩ := u1 hz trivial ht (shape_tx (shape_one h1).2.2) e2
  refine ⟨rfl, rfl, rfl, ?_⟩
  rw [fm1_hd]; simp [tlB]; omega
theorem want_noquote (h : (39 : UInt8) ∉ r) : Want (39 :: r) d at_ k s ks next := fun k' s' ks' tail h1 e => by
  rw [fm1_hd, List.cons_append] at e
  injection e with e1 e2
  obtain rfl := hd_inj (txN_kind (nodeB_txN (shape_one h1).2.1)) (.inl rfl : (1 : Int) = 1 ∨ _) e1.symm
  exact absurd (by rw [e2]; simp [tlB]) h
theorem want_four (h : Want4 r d (at_ + 1) k s ks next) : Want (91 :: r) (d + 1) at_ k s ks next := fun k' s' ks' tail h1 e => by
  obtain ⟨_, h2, h3⟩ := shape_one h1
  have ht := nodeB_txN h2
  rw [fm1_hd, List.cons_append] at e
  injection e with e1 e2
  obtain rfl := hd_inj (txN_kind ht) (by omega : (4 : Int) = 1 ∨ _) e1.symm
  obtain ⟨hl, he⟩ : ks'.len = 4 ∧ s' = .empty := by
    rcases ht with ⟨h, _⟩ | ⟨h, _⟩ | ⟨_, h5, h6⟩ | ⟨h, _⟩
    · omega
    · omega
    · exact ⟨h5, h6⟩
    · omega
  have e3 : r = fmS ks' sp4 ++ tail := by simpa [tlB, sp4] using e2
  obtain ⟨h4, h5, h6, h7⟩ := h ks' tail (by simpa using h3) hl e3
  refine ⟨h4, h5.trans he.symm, h6, ?_⟩
  rw [h7, fm1_hd]; simp [tlB, sp4]; omega
theorem want_join (h : Want3 r d (at_ + 1) k s ks next) : Want (40 :: r) (d + 1) at_ k s ks next := fun k' s' ks' tail h1 e => by
  obtain ⟨_, h2, h3⟩ := shape_one h1
  have ht := nodeB_txN h2
  rw [fm1_hd, List.cons_append] at e
  injection e with e1 e2
  obtain rfl := hd_inj (txN_kind ht) (by omega : (3 : Int) = 1 ∨ _) e1.symm
  obtain ⟨hl, he⟩ : ks'.len ≤ 4 ∧ s' = .empty := by
    rcases node_kinds h2 with ⟨h, _⟩ | ⟨_, h5, h6⟩ | ⟨h, _⟩ | ⟨h, _⟩
    · omega
    · exact ⟨h5, h6⟩
    · omega
    · omega
  have e3 : r = fmS ks' [] ++ 41 :: tail := by simpa [tlB] using e2
  obtain ⟨h4, h5, h6, h7⟩ := h ks' tail (by simpa using h3) hl e3
  refine ⟨h4, h5.trans he.symm, h6, ?_⟩
  rw [h7, fm1_hd]; simp [tlB]; omega
theorem want_op (hK : K = 2 ∨ K = 5 ∨ K = 6 ∨ K = 7) (h : Want r d (at_ + 1) k s ks next) : Want (hdB K :: r) (d + 1) at_ K .empty (.node k s ks .nil) next := fun k' s' ks' tail h1 e => by
  obtain ⟨_, h2, h3⟩ := shape_one h1
  have ht := nodeB_txN h2
  rw [fm1_hd, List.cons_append] at e
  injection e with e1 e2
  obtain rfl := hd_inj (txN_kind ht) (by omega : K = 1 ∨ _) e1.symm
  obtain ⟨hl, he⟩ : ks'.len = 1 ∧ s' = .empty := by
    rcases ht with ⟨h, _⟩ | ⟨h, _⟩ | ⟨h, _⟩ | ⟨_, h5, h6⟩
    · omega
    · omega
    · omega
    · exact ⟨h5, h6⟩
  obtain ⟨k2, s2, f2, rfl⟩ := len_one hl
  have e3 : tlB k' s' (.node k2 s2 f2 .nil) = fm1 k2 s2 f2 := by
    unfold tlB
    rw [if_neg (by omega), if_neg (by omega), if_neg (by omega), fmS_one]
  rw [e3] at e2
  obtain ⟨rfl, rfl, rfl, h7⟩ := h k2 s2 f2 tail (by simpa using h3) e2
  refine ⟨rfl, he.symm, rfl, ?_⟩
  rw [h7, fm1_hd k', e3]; simp; omega
end
/-- what a list of operands that was read so far says of the rest: a comparison's -/
def R4 (l : List UInt8) (at0 d : Nat) (f : Fo) (at_ : Nat) : Prop := ∀ ks' tail, shape ks' d = true → ks'.len = 4 → l.drop at0 = fmS ks' sp4 ++ tail → ∃ g, ks' = f.app g ∧ l.drop at_ = fmS g (sp4.drop f.len) ++ tail ∧ at_ = at0 + (fmS f sp4).length
/-- .. a concatenation's -/
def R3 (l : List UInt8) (at0 d : Nat) (f : Fo) (at_ : Int) : Prop := ∀ ks' tail, shape ks' d = true → ks'.len ≤ 4 → l.drop at0 = fmS ks' [] ++ 41 :: tail → 0 ≤ at_ ∧ ∃ g, ks' = f.app g ∧ l.drop at_.toNat = fmS g [] ++ 41 :: tail ∧ at_ = at0 + (fmS f []).length
section
variable {l : List UInt8} {at0 d at_ : Nat} {f : Fo} {k : Int} {s : ByteArray} {ks : Fo} {next : Int} {sn : Fo → Int → ByteArray → Fo → Fo}
theorem r4_start : R4 l at0 d .nil at0 := fun ks' tail _ _ e => ⟨ks', rfl, by simpa [Fo.len] using e, by simp [fmS]⟩
theorem r3_start : R3 l at0 d .nil (at0 : Int) := fun ks' tail _ _ e => ⟨by omega, ks', rfl, by simpa using e, by simp [fmS]⟩
theorem fmS_snoc' (hn : ∀ k s ks, sn .nil k s ks = .node k s ks .nil) (hc : ∀ k' s' ks' r k s ks, sn (.node k' s' ks' r) k s ks = .node k' s' ks' (sn r k s ks)) (k : Int) (s : ByteArray) (ks : Fo) : ∀ (f : Fo) (sp : List (List UInt8)), fmS (sn f k s ks) sp = fmS f sp ++ fm1 k s ks ++ (sp.drop f.len).headD [] ∧ (sn f k s ks).len = f.len + 1
  | .nil, sp => by
    refine ⟨?_, by rw [hn]; rfl⟩
    rw [hn, fmS_node]
    show fm1 k s ks ++ sp.headD [] ++ [] = [] ++ fm1 k s ks ++ (sp.drop 0).headD []
    simp
  | .node k' s' ks' r, sp => by
    obtain ⟨h1, h2⟩ := fmS_snoc' hn hc k s ks r sp.tail
    rw [hc]
    simp only [fmS_node, Fo.len, h1, h2, and_true]
    cases sp with
    | nil => simp
    | cons a sp => simp
theorem drop_more {l a b : List UInt8} {n m : Nat} (h : l.drop n = a ++ b) (hm : m = n + a.length) : l.drop m = b := by
  subst hm
  rw [← List.drop_drop, h, List.drop_left]
theorem r4_next (hr : R4 l at0 d f at_) (hf : f.len < 4) (hw : Want (l.drop at_) d at_ k s ks next) {ks' : Fo} {tail : List UInt8} (h1 : shape ks' d = true) (h2 : ks'.len = 4) (h3 : l.drop at0 = fmS ks' sp4 ++ tail) :
    ∃ g m, ks' = f.app (.node k s ks g) ∧ sp4[f.len]? = some m ∧ next = at_ + (fm1 k s ks).length ∧ l.drop (at_ + (fm1 k s ks).length) = m ++ (fmS g (sp4.drop (f.len + 1)) ++ tail) ∧ at_ = at0 + (fmS f sp4).length := by
  obtain ⟨g, rfl, h4, h5⟩ := hr ks' tail h1 h2 h3
  rw [Fo.app_len] at h2
  match g, h1, h2, h4 with
  | .nil, _, h2, _ => simp only [Fo.len] at h2; omega
  | .node k' s' k1 g, h1, h2, h4 =>
    have hg := shape_app h1
    simp only [shape, Bool.and_eq_true] at hg
    have hlt : f.len < sp4.length := by show f.len < 4; exact hf
    have hd : sp4.drop f.len = sp4[f.len] :: sp4.drop (f.len + 1) := List.drop_eq_getElem_cons hlt
    rw [fmS_node, hd, List.append_assoc, List.append_assoc] at h4
    simp only [List.headD_cons, List.tail_cons] at h4
    obtain ⟨rfl, rfl, rfl, h7⟩ := hw k' s' k1 _ (by simp only [shape, Bool.and_eq_true, and_true]; exact hg.1) h4
    exact ⟨g, _, rfl, List.getElem?_eq_getElem hlt, h7, drop_more h4 rfl, h5⟩
theorem r4_step (hn : ∀ k s ks, sn .nil k s ks = .node k s ks .nil) (hc : ∀ k' s' ks' r k s ks, sn (.node k' s' ks' r) k s ks = .node k' s' ks' (sn r k s ks)) (hr : R4 l at0 d f at_) (hf : f.len < 4) {nx : Nat} (hw : Want (l.drop at_) d at_ k s ks (nx : Int)) : R4 l at0 d (sn f k s ks) (nx + 1) := fun ks' tail h1 h2 h3 => by
  obtain ⟨g, m, rfl, hm, h4, h5, h6⟩ := r4_next hr hf hw h1 h2 h3
  obtain ⟨h7, h8⟩ := fmS_snoc' hn hc k s ks f sp4
  have hml : m.length = 1 := by
    have : ∀ i (h : i < 4), (sp4[i]?.getD []).length = 1 := by decide
    have h9 := this f.len hf
    rw [hm] at h9
    exact h9
  refine ⟨g, app_snoc k s ks g sn hn hc f, ?_, ?_⟩
  · rw [h8]; exact drop_more h5 (by omega)
  · have h9 : (sp4.drop f.len).headD [] = m := by rw [List.headD_eq_head?_getD, List.head?_drop, hm]; rfl
    rw [h7, h9]; simp only [List.length_append]; omega
theorem r4_fail {k2 : Int} {s2 : ByteArray} {ks2 : Fo} {next2 : Int} (hr : R4 l at0 d f at_) (hf : f.len < 4) (hw : Want (l.drop at_) d at_ k s ks next) (hno : ∀ (nx : Nat) (m : List UInt8) (t : List UInt8), next = nx → sp4[f.len]? = some m → l.drop nx ≠ m ++ t) : Want4 (l.drop at0) d at0 k2 s2 ks2 next2 := fun ks' tail h1 h2 h3 => by
  obtain ⟨g, m, rfl, hm, h4, h5, h6⟩ := r4_next hr hf hw h1 h2 h3
  exact absurd h5 (hno _ m _ (by rw [h4]; omega) hm)
theorem r4_done (hr : R4 l at0 d f at_) (hf : f.len = 4) : Want4 (l.drop at0) d at0 4 .empty f at_ := fun ks' tail h1 h2 h3 => by
  obtain ⟨g, rfl, h4, h5⟩ := hr ks' tail h1 h2 h3
  rw [Fo.app_len] at h2
  obtain rfl := len_zero (ks := g) (by omega)
  rw [Fo.app_nil]
  exact ⟨rfl, rfl, rfl, by omega⟩
theorem r3_next (hr : R3 l at0 d f (at_ : Int)) (hw : Want (l.drop at_) d at_ k s ks next) (hc : ∀ t, l.drop at_ ≠ 41 :: t) {ks' : Fo} {tail : List UInt8} (h1 : shape ks' d = true) (h2 : ks'.len ≤ 4) (h3 : l.drop at0 = fmS ks' [] ++ 41 :: tail) :
    ∃ g, ks' = f.app (.node k s ks g) ∧ next = at_ + (fm1 k s ks).length ∧ l.drop (at_ + (fm1 k s ks).length) = fmS g [] ++ 41 :: tail ∧ at_ = at0 + (fmS f []).length := by
  obtain ⟨_, g, rfl, h4, h5⟩ := hr ks' tail h1 h2 h3
  simp only [Int.toNat_natCast] at h4
  match g, h1, h2, h4 with
  | .nil, _, _, h4 => exact absurd (by simpa [fmS] using h4) (hc tail)
  | .node k' s' k1 g, h1, h2, h4 =>
    have hg := shape_app h1
    simp only [shape, Bool.and_eq_true] at hg
    rw [fmS_node, List.append_assoc, List.append_assoc] at h4
    simp only [List.headD_nil, List.tail_nil, List.nil_append] at h4
    obtain ⟨rfl, rfl, rfl, h7⟩ := hw k' s' k1 _ (by simp only [shape, Bool.and_eq_true, and_true]; exact hg.1) h4
    exact ⟨g, rfl, h7, drop_more h4 rfl, by omega⟩
theorem r3_step (hn : ∀ k s ks, sn .nil k s ks = .node k s ks .nil) (hc : ∀ k' s' ks' r k s ks, sn (.node k' s' ks' r) k s ks = .node k' s' ks' (sn r k s ks)) (hr : R3 l at0 d f (at_ : Int)) (hw : Want (l.drop at_) d at_ k s ks next) (hno : ∀ t, l.drop at_ ≠ 41 :: t) : R3 l at0 d (sn f k s ks) next := fun ks' tail h1 h2 h3 => by
  obtain ⟨g, rfl, h4, h5, h6⟩ := r3_next hr hw hno h1 h2 h3
  obtain ⟨h7, h8⟩ := fmS_snoc' hn hc k s ks f []
  refine ⟨by omega, g, app_snoc k s ks g sn hn hc f, ?_, ?_⟩
  · rw [h4, show ((at_ : Int) + ((fm1 k s ks).length : Nat)).toNat = at_ + (fm1 k s ks).length from by omega]; exact h5
  · rw [h7]; simp only [List.drop_nil, List.headD_nil, List.append_nil, List.length_append]; omega
theorem r3_long {k2 : Int} {s2 : ByteArray} {ks2 : Fo} {next2 next : Int} (hr : R3 l at0 d f next) (hf : 4 < f.len) : Want3 (l.drop at0) d at0 k2 s2 ks2 next2 := fun ks' tail h1 h2 h3 => by
  obtain ⟨_, g, rfl, _⟩ := hr ks' tail h1 h2 h3
  rw [Fo.app_len] at h2
  omega
theorem r3_bad {k2 : Int} {s2 : ByteArray} {ks2 : Fo} {next2 next : Int} (hr : R3 l at0 d f next) (hf : next < 0 ∨ (l.length : Int) ≤ next) : Want3 (l.drop at0) d at0 k2 s2 ks2 next2 := fun ks' tail h1 h2 h3 => by
  obtain ⟨h4, g, rfl, h5, _⟩ := hr ks' tail h1 h2 h3
  have h6 : l.length ≤ next.toNat := by omega
  rw [List.drop_of_length_le h6] at h5
  exact absurd h5 (by simp)
theorem r3_done {t : List UInt8} (hr : R3 l at0 d f (at_ : Int)) (ht : l.drop at_ = 41 :: t) : Want3 (l.drop at0) d at0 3 .empty f ((at_ : Int) + 1) := fun ks' tail h1 h2 h3 => by
  obtain ⟨_, g, rfl, h4, h5⟩ := hr ks' tail h1 h2 h3
  simp only [Int.toNat_natCast] at h4
  rw [ht] at h4
  match g, h1, h4 with
  | .nil, _, _ => rw [Fo.app_nil]; exact ⟨rfl, rfl, rfl, by omega⟩
  | .node k' s' k1 g, h1, h4 =>
    have hg := shape_app h1
    simp only [shape, Bool.and_eq_true] at hg
    rw [fmS_node, fm1_hd] at h4
    simp only [List.cons_append] at h4
    injection h4 with h4 _
    exact absurd h4.symm (hd_not (txN_kind (nodeB_txN hg.1.1.2)))
end
end Go.Proofs.Ytfpdeoicalofdaa
