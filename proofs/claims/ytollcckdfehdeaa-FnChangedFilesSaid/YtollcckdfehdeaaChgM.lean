/-
  Plain words on the differences of two lists of files. No program is named here.
-/
import Derived.Test.YtollcckdfehdeaaMaps
import Derived.Lib.Bytealg
namespace Go.Proofs.Ytollcckdfehdeaa
set_option linter.unusedVariables false
open Go.RowKit

/-- the sign of the comparison of two strings -/
def cmpS (a b : ByteArray) : Int := if a = b then 0 else if sLess a b = true then -1 else 1
theorem compare_bytes : ∀ (a b : List UInt8), Lib.compareBytes a b = if a = b then 0 else if a < b then -1 else 1
  | [], [] => by simp [Lib.compareBytes]
  | [], _ :: _ => by simp [Lib.compareBytes]
  | _ :: _, [] => by simp [Lib.compareBytes]
  | a :: as, b :: bs => by
    rw [Lib.compareBytes, compare_bytes as bs]
    by_cases h1 : a < b
    · have h2 : a ≠ b := fun e => by subst e; exact absurd h1 (UInt8.lt_irrefl _)
      simp [h1, h2, List.cons_lt_cons_iff]
    · by_cases h2 : b < a
      · have h3 : a ≠ b := fun e => by subst e; exact absurd h2 (UInt8.lt_irrefl _)
        simp [h1, h2, h3, List.cons_lt_cons_iff]
      · have h3 : a = b := UInt8.le_antisymm (UInt8.not_lt.1 h2) (UInt8.not_lt.1 h1)
        subst h3
        simp
theorem compare_cmpS (a b : ByteArray) : Lib.compareBytes a.data.toList b.data.toList = cmpS a b := by
  rw [compare_bytes]
  unfold cmpS
  rw [sLess_lt]
  by_cases h : a = b
  · simp [h]
  · have h2 : ¬ a.data.toList = b.data.toList := fun e => h (bytes_ext e)
    rw [if_neg h, if_neg h2]
    by_cases h3 : a.data.toList < b.data.toList
    · simp only [h3, decide_true, if_pos]
    · simp only [h3, decide_false, if_false]; rfl

def noF : Fl := (.empty, .empty)
/-- the order of the next paths -/
def ordAt (fs gs : List Fl) (i j : Nat) : Int :=
  match fs[i]?, gs[j]? with
  | none, _ => 1
  | _, none => -1
  | some f, some g => cmpS f.1 g.1
def lAt (fs gs : List Fl) (i j : Nat) : Fl := if ordAt fs gs i j ≤ 0 then (fs[i]?).getD noF else noF
def rAt (fs gs : List Fl) (i j : Nat) : Fl := if 0 ≤ ordAt fs gs i j then (gs[j]?).getD noF else noF
def iNext (fs gs : List Fl) (i j : Nat) : Nat := if ordAt fs gs i j ≤ 0 then i + 1 else i
def jNext (fs gs : List Fl) (i j : Nat) : Nat := if 0 ≤ ordAt fs gs i j then j + 1 else j
/-- the pairs of files with one path, from places i and j on -/
def prs (fs gs : List Fl) : Nat → Nat → Nat → List (Fl × Fl)
  | 0, _, _ => []
  | n + 1, i, j => if i < fs.length ∨ j < gs.length then (lAt fs gs i j, rAt fs gs i j) :: prs fs gs n (iNext fs gs i j) (jNext fs gs i j) else []
theorem next_more (fs gs : List Fl) (i j : Nat) : i + j + 1 ≤ iNext fs gs i j + jNext fs gs i j := by
  unfold iNext jNext; split <;> split <;> omega
theorem ord_left {fs gs : List Fl} {i j : Nat} (h : ordAt fs gs i j ≤ 0) : i < fs.length := by
  unfold ordAt at h
  rcases Nat.lt_or_ge i fs.length with hl | hl
  · exact hl
  · rw [List.getElem?_eq_none hl] at h; simp at h
theorem ord_right {fs gs : List Fl} {i j : Nat} (h : 0 ≤ ordAt fs gs i j) (hor : i < fs.length ∨ j < gs.length) : j < gs.length := by
  unfold ordAt at h
  rcases Nat.lt_or_ge j gs.length with hl | hl
  · exact hl
  · rw [List.getElem?_eq_none hl] at h
    cases hi : fs[i]? with
    | none => have := List.getElem?_eq_none_iff.1 hi; omega
    | some f => rw [hi] at h; simp at h
/-- all pairs -/
def allP (fs gs : List Fl) (i j : Nat) : List (Fl × Fl) := prs fs gs (fs.length + gs.length - (i + j)) i j
theorem prs_more {fs gs : List Fl} : ∀ (n m i j : Nat), i ≤ fs.length → j ≤ gs.length → fs.length + gs.length - (i + j) ≤ n → n ≤ m → prs fs gs m i j = prs fs gs n i j
  | 0, 0, _, _, _, _, _, _ => rfl
  | 0, m + 1, i, j, hi, hj, h1, _ => by
    show (if i < fs.length ∨ j < gs.length then (lAt fs gs i j, rAt fs gs i j) :: prs fs gs m (iNext fs gs i j) (jNext fs gs i j) else []) = []
    rw [if_neg (by omega)]
  | n + 1, 0, _, _, _, _, _, h2 => absurd h2 (by omega)
  | n + 1, m + 1, i, j, hi, hj, h1, h2 => by
    rw [prs, prs]
    split
    · rename_i hor
      have := next_more fs gs i j
      have hi2 : iNext fs gs i j ≤ fs.length := by unfold iNext; split; exact ord_left ‹_›; exact hi
      have hj2 : jNext fs gs i j ≤ gs.length := by unfold jNext; split; exact ord_right ‹_› hor; exact hj
      rw [prs_more n m _ _ hi2 hj2 (by omega) (by omega)]
    · rfl
theorem next_le {fs gs : List Fl} {i j : Nat} (hi : i ≤ fs.length) (hj : j ≤ gs.length) (hor : i < fs.length ∨ j < gs.length) : iNext fs gs i j ≤ fs.length ∧ jNext fs gs i j ≤ gs.length := by
  refine ⟨?_, ?_⟩
  · unfold iNext; split; exact ord_left ‹_›; exact hi
  · unfold jNext; split; exact ord_right ‹_› hor; exact hj
theorem allP_step {fs gs : List Fl} {i j : Nat} (hi : i ≤ fs.length) (hj : j ≤ gs.length) (hor : i < fs.length ∨ j < gs.length) :
    allP fs gs i j = (lAt fs gs i j, rAt fs gs i j) :: allP fs gs (iNext fs gs i j) (jNext fs gs i j) := by
  have hn := next_more fs gs i j
  obtain ⟨h1, h2⟩ := next_le hi hj hor
  unfold allP
  obtain ⟨n, hnn⟩ : ∃ n, fs.length + gs.length - (i + j) = n + 1 := ⟨fs.length + gs.length - (i + j) - 1, by omega⟩
  rw [hnn, prs, if_pos hor]
  congr 1
  exact prs_more _ _ _ _ h1 h2 (Nat.le_refl _) (by omega)
theorem allP_end (fs gs : List Fl) : allP fs gs fs.length gs.length = [] := by unfold allP; rw [Nat.sub_self]; rfl

theorem prs_length (fs gs : List Fl) : ∀ n i j, (prs fs gs n i j).length ≤ n
  | 0, _, _ => Nat.le_refl _
  | n + 1, i, j => by
    rw [prs]
    split
    · exact Nat.succ_le_succ (prs_length fs gs n _ _)
    · exact Nat.zero_le _
theorem pre_short {fs gs : List Fl} {i j : Nat} {pre : List (Fl × Fl)} (h : allP fs gs 0 0 = pre ++ allP fs gs i j) (hi : i ≤ fs.length) (hj : j ≤ gs.length) (hor : i < fs.length ∨ j < gs.length) : pre.length < fs.length + gs.length := by
  have h1 := prs_length fs gs (fs.length + gs.length - (0 + 0)) 0 0
  have h2 := congrArg List.length h
  rw [allP_step hi hj hor, List.length_append, List.length_cons] at h2
  unfold allP at h2
  omega

/-- the first that is not empty -/
def orS (a b : ByteArray) : ByteArray := if a = .empty then b else a
/-- what a pair adds -/
def chg (p : Fl × Fl) : List ByteArray := if p.1 = p.2 then [] else [orS p.1.1 p.2.1]
def chgs (l : List (Fl × Fl)) : List ByteArray := l.flatMap chg
theorem chgs_append (a b : List (Fl × Fl)) : chgs (a ++ b) = chgs a ++ chgs b := by simp [chgs]
theorem chgs_one (p : Fl × Fl) : chgs [p] = chg p := by simp [chgs]
theorem chgs_cons (p : Fl × Fl) (l : List (Fl × Fl)) : chgs (p :: l) = chg p ++ chgs l := by simp [chgs]
theorem chgs_length (l : List (Fl × Fl)) : (chgs l).length ≤ l.length := by
  induction l with
  | nil => simp [chgs]
  | cons p l ih =>
    rw [chgs_cons]
    unfold chg
    split <;> simp <;> omega
/-- what ChangedFiles answers -/
def chgR (fs gs : List Fl) : List ByteArray := if validB fs = true ∧ validB gs = true then chgs (allP fs gs 0 0) else []
theorem path_nonempty {p : ByteArray} (h : pathB p = true) : p ≠ .empty := by
  rintro rfl
  have := ((pathB_iff _).1 h).1
  simp at this
theorem valid_path {fs : List Fl} (h : validB fs = true) {i : Nat} {p t : ByteArray} (hg : fs[i]? = some (p, t)) : p ≠ .empty := path_nonempty ((validB_iff.1 h).2.1 _ (List.mem_of_getElem? hg)).1
/-- the three ways of a round -/
theorem way_left {fs gs : List Fl} {i j : Nat} {p t : ByteArray} (hf : fs[i]? = some (p, t)) (hp : p ≠ .empty) (h : gs[j]? = none ∨ ∃ q u, gs[j]? = some (q, u) ∧ sLess p q = true) :
    chg (lAt fs gs i j, rAt fs gs i j) = [p] ∧ iNext fs gs i j = i + 1 ∧ jNext fs gs i j = j := by
  have ho : ordAt fs gs i j = -1 := by
    unfold ordAt
    rw [hf]
    rcases h with h | ⟨q, u, h, hl⟩
    · rw [h]
    · rw [h]; show cmpS p q = -1; unfold cmpS; rw [if_neg (sLess_ne hl), if_pos hl]
  unfold lAt rAt iNext jNext
  rw [ho, hf]
  refine ⟨?_, by simp, by simp⟩
  have : ¬ (p, t) = noF := fun e => hp (congrArg Prod.fst e)
  simp only [show ((-1 : Int) ≤ 0) = True from by simp, show ((0 : Int) ≤ -1) = False from by simp, if_true, if_false, Option.getD_some]
  unfold chg
  rw [if_neg this]
  simp [orS, hp]
theorem way_right {fs gs : List Fl} {i j : Nat} {q u : ByteArray} (hg : gs[j]? = some (q, u)) (hq : q ≠ .empty) (h : fs[i]? = none ∨ ∃ p t, fs[i]? = some (p, t) ∧ sLess q p = true) :
    chg (lAt fs gs i j, rAt fs gs i j) = [q] ∧ iNext fs gs i j = i ∧ jNext fs gs i j = j + 1 := by
  have ho : ordAt fs gs i j = 1 := by
    unfold ordAt
    rcases h with h | ⟨p, t, h, hl⟩
    · rw [h]
    · rw [h, hg]; show cmpS p q = 1; unfold cmpS; rw [if_neg (sLess_ne hl).symm, if_neg (by rw [sLess_asymm hl]; simp)]
  unfold lAt rAt iNext jNext
  rw [ho, hg]
  refine ⟨?_, by simp, by simp⟩
  have : ¬ noF = (q, u) := fun e => hq (congrArg Prod.fst e).symm
  simp only [show ((1 : Int) ≤ 0) = False from by simp, show ((0 : Int) ≤ 1) = True from by simp, if_true, if_false, Option.getD_some]
  unfold chg
  rw [if_neg this]
  simp [orS, noF]
theorem way_both {fs gs : List Fl} {i j : Nat} {p t u : ByteArray} (hf : fs[i]? = some (p, t)) (hg : gs[j]? = some (p, u)) (hp : p ≠ .empty) :
    chg (lAt fs gs i j, rAt fs gs i j) = (if t = u then [] else [p]) ∧ iNext fs gs i j = i + 1 ∧ jNext fs gs i j = j + 1 := by
  have ho : ordAt fs gs i j = 0 := by
    unfold ordAt
    rw [hf, hg]; show cmpS p p = 0; unfold cmpS; rw [if_pos rfl]
  unfold lAt rAt iNext jNext
  rw [ho, hf, hg]
  refine ⟨?_, by simp, by simp⟩
  simp only [Int.le_refl, if_true, Option.getD_some]
  unfold chg
  by_cases htu : t = u
  · subst htu; simp
  · rw [if_neg (fun e => htu (congrArg Prod.snd e)), if_neg htu]
    simp [orS, hp]
end Go.Proofs.Ytollcckdfehdeaa
