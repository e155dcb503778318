/-
  Plain words on texts of lists of files: how such a text is parted. No program is named here.
-/
import Derived.Test.YtpmncjeccemgfaaGreatMaps
namespace Go.Proofs.YtpmncjeccemgfaaGreat
set_option linter.unusedVariables false
open Go.RowKit

theorem split_unique {a : UInt8} : ∀ {x x' y y' : List UInt8}, x ++ a :: y = x' ++ a :: y' → a ∉ x → a ∉ x' → x = x' ∧ y = y'
  | [], [], y, y', h, _, _ => ⟨rfl, by simpa using h⟩
  | [], b :: x', y, y', h, _, h2 => by
    simp at h
    exact absurd (by simp [h.1]) h2
  | b :: x, [], y, y', h, h1, _ => by
    simp at h
    exact absurd (by simp [← h.1]) h1
  | b :: x, b' :: x', y, y', h, h1, h2 => by
    simp at h h1 h2
    obtain ⟨rfl, h⟩ := h
    obtain ⟨rfl, rfl⟩ := split_unique h h1.2 h2.2
    exact ⟨rfl, rfl⟩

/-- no blank in the path, no newline anywhere -/
def Clean (f : Fl) : Prop := (32 : UInt8) ∉ f.1.data.toList ∧ (10 : UInt8) ∉ f.1.data.toList ∧ (10 : UInt8) ∉ f.2.data.toList
def lineF (f : Fl) : List UInt8 := f.1.data.toList ++ 32 :: f.2.data.toList
theorem fmtF_cons (f : Fl) (fs : List Fl) : fmtF (f :: fs) = lineF f ++ 10 :: fmtF fs := by simp [fmtF, lineF]
theorem fmtF_nil : fmtF [] = [] := rfl
theorem fmtF_append (a b : List Fl) : fmtF (a ++ b) = fmtF a ++ fmtF b := by simp [fmtF]
theorem lineF_clean {f : Fl} (h : Clean f) : (10 : UInt8) ∉ lineF f := by
  unfold lineF; simp [h.2.1, h.2.2]
theorem lineF_inj {f g : Fl} (hf : Clean f) (hg : Clean g) (h : lineF f = lineF g) : f = g := by
  obtain ⟨h1, h2⟩ := split_unique h hf.1 hg.1
  exact Prod.ext (bytes_ext h1) (bytes_ext h2)
theorem path_clean {p : ByteArray} (h : pathB p = true) : (32 : UInt8) ∉ p.data.toList ∧ (10 : UInt8) ∉ p.data.toList := by
  have h3 := (btw_iff _ _ _).1 ((pathB_iff p).1 h).2.2
  exact ⟨fun hm => by have := h3 _ hm; revert this; decide, fun hm => by have := h3 _ hm; revert this; decide⟩
theorem text_clean {t : ByteArray} (h : textB t = true) : (10 : UInt8) ∉ t.data.toList := by
  have h3 := (btw_iff _ _ _).1 ((textB_iff t).1 h).2
  exact fun hm => by have := h3 _ hm; revert this; decide
theorem valid_clean {fs : List Fl} (h : validB fs = true) : ∀ f ∈ fs, Clean f := fun f hf => by
  have := (validB_iff.1 h).2.1 f hf
  exact ⟨(path_clean this.1).1, (path_clean this.1).2, text_clean this.2⟩

/-- a list whose text begins as another's -/
theorem fmt_prefix : ∀ {l fs : List Fl} {r : List UInt8}, (∀ f ∈ l, Clean f) → (∀ f ∈ fs, Clean f) → fmtF fs = fmtF l ++ r → ∃ gs, fs = l ++ gs ∧ r = fmtF gs
  | [], fs, r, _, _, h => ⟨fs, rfl, by rw [h]; rfl⟩
  | g :: l, [], r, _, _, h => by
    rw [fmtF_cons] at h
    have := congrArg List.length h
    simp [fmtF_nil] at this
  | g :: l, f :: fs, r, hl, hf, h => by
    rw [fmtF_cons, fmtF_cons, List.append_assoc, List.cons_append] at h
    obtain ⟨h1, h2⟩ := split_unique h (lineF_clean (hf f (by simp))) (lineF_clean (hl g (by simp)))
    obtain rfl := lineF_inj (hf f (by simp)) (hl g (by simp)) h1
    obtain ⟨gs, rfl, rfl⟩ := fmt_prefix (fun x hx => hl x (by simp [hx])) (fun x hx => hf x (by simp [hx])) h2
    exact ⟨gs, rfl, rfl⟩
theorem fmtF_eq_nil {fs : List Fl} (h : fmtF fs = []) : fs = [] := by
  cases fs with
  | nil => rfl
  | cons f fs => rw [fmtF_cons] at h; simp at h
theorem fmt_inj {fs gs : List Fl} (hf : ∀ f ∈ fs, Clean f) (hg : ∀ f ∈ gs, Clean f) (h : fmtF fs = fmtF gs) : fs = gs := by
  obtain ⟨ks, rfl, hk⟩ := fmt_prefix (r := []) hg hf (by simpa using h)
  rw [fmtF_eq_nil hk.symm, List.append_nil]

open Classical in
/-- what parsing answers -/
noncomputable def parseR (s : List UInt8) : List Fl × Bool := if h : ∃ fs, validB fs = true ∧ fmtF fs = s then (h.choose, true) else ([], false)
theorem parseR_fine {s : List UInt8} {fs : List Fl} (h1 : validB fs = true) (h2 : fmtF fs = s) : parseR s = (fs, true) := by
  unfold parseR
  have h : ∃ fs, validB fs = true ∧ fmtF fs = s := ⟨fs, h1, h2⟩
  rw [dif_pos h]
  have hc := h.choose_spec
  rw [fmt_inj (valid_clean hc.1) (valid_clean h1) (hc.2.trans h2.symm)]
theorem parseR_bad {s : List UInt8} (h : ∀ fs, validB fs = true → fmtF fs = s → False) : parseR s = ([], false) := by
  unfold parseR
  rw [dif_neg (fun ⟨fs, h1, h2⟩ => h fs h1 h2)]
theorem parseR_true {s : List UInt8} {xs : List Fl} (h : parseR s = (xs, true)) : validB xs = true ∧ fmtF xs = s := by
  unfold parseR at h
  split at h
  · rename_i hx; cases h; exact hx.choose_spec
  · cases h
theorem parseR_nil {s : List UInt8} {xs : List Fl} (h : parseR s = (xs, false)) : xs = [] := by
  unfold parseR at h
  split at h
  · cases h
  · cases h; rfl

/-! ### the ways of the program's loop -/
theorem way_miss {s r : List UInt8} {l : List Fl} (hl : ∀ f ∈ l, Clean f) (hs : fmtF l ++ r = s) (hr : r ≠ []) (hn : (10 : UInt8) ∉ r) : parseR s = ([], false) :=
  parseR_bad fun fs h1 h2 => by
    obtain ⟨gs, rfl, rfl⟩ := fmt_prefix hl (valid_clean h1) (h2.trans hs.symm)
    cases gs with
    | nil => exact hr rfl
    | cons g gs => exact hn (by rw [fmtF_cons]; simp)
theorem way_blank {s x y : List UInt8} {l : List Fl} (hl : ∀ f ∈ l, Clean f) (hs : fmtF l ++ (x ++ 10 :: y) = s) (hx : (10 : UInt8) ∉ x) (hn : (32 : UInt8) ∉ x) : parseR s = ([], false) :=
  parseR_bad fun fs h1 h2 => by
    obtain ⟨gs, rfl, hr⟩ := fmt_prefix hl (valid_clean h1) (h2.trans hs.symm)
    cases gs with
    | nil => simp [fmtF_nil] at hr
    | cons g gs =>
      rw [fmtF_cons] at hr
      obtain ⟨rfl, _⟩ := split_unique hr hx (lineF_clean (valid_clean h1 g (by simp)))
      exact hn (by unfold lineF; simp)
theorem way_long {s r : List UInt8} {l : List Fl} (hl : ∀ f ∈ l, Clean f) (hs : fmtF l ++ r = s) (hr : r ≠ []) (hn : l.length = 12) : parseR s = ([], false) :=
  parseR_bad fun fs h1 h2 => by
    obtain ⟨gs, rfl, rfl⟩ := fmt_prefix hl (valid_clean h1) (h2.trans hs.symm)
    have := valid_length h1
    rw [List.length_append, hn] at this
    cases gs with
    | nil => exact hr rfl
    | cons g gs => simp only [List.length_cons] at this; omega
theorem way_end {s : List UInt8} {l : List Fl} (hl : ∀ f ∈ l, Clean f) (hs : fmtF l = s) (hv : validB l = false) : parseR s = ([], false) :=
  parseR_bad fun fs h1 h2 => by
    rw [fmt_inj (valid_clean h1) hl (h2.trans hs.symm), hv] at h1
    cases h1
theorem way_on {s x y z : List UInt8} {l : List Fl} (hl : ∀ f ∈ l, Clean f) (hs : fmtF l ++ ((x ++ 32 :: z) ++ 10 :: y) = s) (hx : (10 : UInt8) ∉ x ++ 32 :: z) (hn : (32 : UInt8) ∉ x) :
    (∀ f ∈ l ++ [((⟨x.toArray⟩, ⟨z.toArray⟩) : Fl)], Clean f) ∧ fmtF (l ++ [((⟨x.toArray⟩, ⟨z.toArray⟩) : Fl)]) ++ y = s := by
  refine ⟨fun f hf => ?_, ?_⟩
  · rcases List.mem_append.1 hf with hf | hf
    · exact hl f hf
    · obtain rfl : f = (⟨x.toArray⟩, ⟨z.toArray⟩) := by simpa using hf
      simp at hx
      exact ⟨by simpa using hn, by simpa using hx.1, by simpa using hx.2⟩
  · rw [fmtF_append, fmtF_cons, fmtF_nil, ← hs]
    simp [lineF]

/-! ### the model's way: lines, each parted at its first blank -/
/-- newline behind each -/
def flat (ls : List (List UInt8)) : List UInt8 := ls.flatMap fun l => l ++ [10]
theorem flat_append (a b : List (List UInt8)) : flat (a ++ b) = flat a ++ flat b := by simp [flat]
theorem flat_cons (l : List UInt8) (ls : List (List UInt8)) : flat (l :: ls) = l ++ 10 :: flat ls := by simp [flat]
theorem fmtF_flat (fs : List Fl) : fmtF fs = flat (fs.map lineF) := by
  induction fs with
  | nil => rfl
  | cons f fs ih => rw [fmtF_cons, List.map_cons, flat_cons, ih]
theorem flat_unique : ∀ {ls ks : List (List UInt8)} {z : List UInt8}, (∀ l ∈ ls, (10 : UInt8) ∉ l) → (∀ l ∈ ks, (10 : UInt8) ∉ l) → (10 : UInt8) ∉ z → flat ls ++ z = flat ks → ls = ks ∧ z = []
  | [], [], z, _, _, _, h => ⟨rfl, by simpa [flat] using h⟩
  | [], k :: ks, z, _, _, hz, h => by
    rw [flat_cons] at h
    have : (10 : UInt8) ∈ z := by
      have h' : z = k ++ 10 :: flat ks := by simpa [flat] using h
      rw [h']; simp
    exact absurd this hz
  | l :: ls, [], z, _, _, _, h => by
    rw [flat_cons] at h
    simp [flat] at h
  | l :: ls, k :: ks, z, h1, h2, hz, h => by
    rw [flat_cons, flat_cons, List.append_assoc, List.cons_append] at h
    obtain ⟨rfl, h5⟩ := split_unique h (h1 l (by simp)) (h2 k (by simp))
    obtain ⟨e1, e2⟩ := flat_unique (ls := ls) (ks := ks) (fun x hx => h1 x (by simp [hx])) (fun x hx => h2 x (by simp [hx])) hz h5
    exact ⟨by rw [e1], e2⟩
/-- a line parted at its first blank -/
def partB (l : List UInt8) : List UInt8 × List UInt8 := if (32 : UInt8) ∈ l then (l.takeWhile (· != 32), (l.dropWhile (· != 32)).drop 1) else (l, [])
theorem partB_hit {x y : List UInt8} (h : (32 : UInt8) ∉ x) : partB (x ++ 32 :: y) = (x, y) := by
  unfold partB
  rw [if_pos (by simp)]
  have h1 : ∀ b ∈ x, (b != 32) = true := fun b hb => by simp; rintro rfl; exact h hb
  rw [List.takeWhile_append_of_pos h1, List.dropWhile_append_of_pos h1]
  simp
theorem partB_miss {x : List UInt8} (h : (32 : UInt8) ∉ x) : partB x = (x, []) := by unfold partB; rw [if_neg h]
def fileOf (l : List UInt8) : Fl := (⟨(partB l).1.toArray⟩, ⟨(partB l).2.toArray⟩)
theorem fileOf_line {f : Fl} (h : Clean f) : fileOf (lineF f) = f := by
  unfold fileOf lineF
  rw [partB_hit h.1]
/-- what the lines of a text tell of it -/
theorem lines_of {s z : List UInt8} {ls : List (List UInt8)} (h : flat ls ++ z = s) (hl : ∀ l ∈ ls, (10 : UInt8) ∉ l) (hz : (10 : UInt8) ∉ z) {fs : List Fl} (h1 : validB fs = true) (h2 : fmtF fs = s) : ls = fs.map lineF ∧ ls.map fileOf = fs ∧ ls.length = fs.length := by
  rw [fmtF_flat] at h2
  obtain ⟨rfl, _⟩ := flat_unique hl (fun l hl => by obtain ⟨f, hf, rfl⟩ := List.mem_map.1 hl; exact lineF_clean (valid_clean h1 f hf)) hz (h.trans h2.symm)
  refine ⟨rfl, ?_, by simp⟩
  rw [List.map_map]
  exact (List.map_congr_left fun f hf => fileOf_line (valid_clean h1 f hf)).trans (List.map_id fs)
theorem spec_long {s z : List UInt8} {ls : List (List UInt8)} (h : flat ls ++ z = s) (hl : ∀ l ∈ ls, (10 : UInt8) ∉ l) (hz : (10 : UInt8) ∉ z) (hn : 12 < ls.length) : parseR s = ([], false) :=
  parseR_bad fun fs h1 h2 => by have := (lines_of h hl hz h1 h2).2.2; have := valid_length h1; omega
theorem spec_bad {s z : List UInt8} {ls : List (List UInt8)} (h : flat ls ++ z = s) (hl : ∀ l ∈ ls, (10 : UInt8) ∉ l) (hz : (10 : UInt8) ∉ z) (hn : ¬ ((fmtS (ls.map fileOf)).data.toList = s ∧ validB (ls.map fileOf) = true)) : parseR s = ([], false) :=
  parseR_bad fun fs h1 h2 => by
    have := (lines_of h hl hz h1 h2).2.1
    rw [this] at hn
    exact hn ⟨by unfold fmtS; rw [if_pos h1]; simpa using h2, h1⟩
theorem spec_fine {s : List UInt8} {gs : List Fl} (h : (fmtS gs).data.toList = s) (hv : validB gs = true) : parseR s = (gs, true) :=
  parseR_fine hv (by unfold fmtS at h; rw [if_pos hv] at h; simpa using h)
end Go.Proofs.YtpmncjeccemgfaaGreat
