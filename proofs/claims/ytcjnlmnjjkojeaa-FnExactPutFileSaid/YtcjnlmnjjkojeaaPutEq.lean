/-
  What l1Put's list is: the list with the file put in, in order.
-/
import Derived.Test.YtcjnlmnjjkojeaaFPut
import Derived.Test.YtcjnlmnjjkojeaaMaps
namespace Go.Proofs.Ytcjnlmnjjkojeaa
set_option linter.unusedVariables false
open Go.RowKit

/-- a file put in at its place -/
def insF (f : Fl) : List Fl → List Fl
  | [] => [f]
  | x :: l => if sLess x.1 f.1 = true then x :: insF f l else putU f (x :: l)
theorem put_true (f : Fl) : ∀ (l acc : List Fl), l.foldl (putStep f) (acc, true) = (acc ++ l.filter (fun g => decide (g.1 ≠ f.1)), true)
  | [], acc => by simp
  | x :: l, acc => by
    rw [List.foldl_cons]
    by_cases h : x.1 = f.1
    · rw [show putStep f (acc, true) x = (acc, true) from by simp [putStep, h], put_true f l]
      simp [h]
    · rw [show putStep f (acc, true) x = (acc ++ [x], true) from by simp [putStep, h], put_true f l]
      simp [h]
theorem put_false (f : Fl) : ∀ (l acc : List Fl), (if (l.foldl (putStep f) (acc, false)).2 = true then (l.foldl (putStep f) (acc, false)).1 else (l.foldl (putStep f) (acc, false)).1 ++ [f]) = acc ++ insF f l
  | [], acc => by simp [insF]
  | x :: l, acc => by
    rw [List.foldl_cons, insF]
    by_cases h : sLess x.1 f.1 = true
    · have hne : ¬ x.1 = f.1 := sLess_ne h
      rw [show putStep f (acc, false) x = (acc ++ [x], false) from by simp [putStep, h, hne], put_false f l, if_pos h]
      simp
    · rw [if_neg h]
      have h' : sLess x.1 f.1 = false := by simpa using h
      by_cases hx : x.1 = f.1
      · rw [show putStep f (acc, false) x = (acc ++ [f], true) from by simp [putStep, hx, sLess_irrefl], put_true]
        simp [putU, hx]
      · rw [show putStep f (acc, false) x = (acc ++ [f] ++ [x], true) from by simp [putStep, h', hx], put_true]
        simp [putU, hx]
theorem putF_ins (f : Fl) (fs : List Fl) : putF f fs = insF f fs := by
  unfold putF putTo
  have := put_false f fs []
  simpa using this
theorem mem_insF {f g : Fl} {fs : List Fl} (h : g ∈ insF f fs) : g = f ∨ g ∈ fs := by
  induction fs with
  | nil => simp [insF] at h; exact .inl h
  | cons x l ih =>
    rw [insF] at h
    split at h
    · rcases List.mem_cons.1 h with rfl | h
      · exact .inr (by simp)
      · exact (ih h).imp id (List.mem_cons_of_mem _)
    · exact (mem_putU.1 h).imp id fun h => h.1
theorem insF_asc {f : Fl} {fs : List Fl} (h : Asc fs) : Asc (insF f fs) := by
  induction fs with
  | nil => exact List.pairwise_singleton _ _
  | cons x l ih =>
    obtain ⟨h1, h2⟩ := List.pairwise_cons.1 h
    rw [insF]
    split
    · rename_i hx
      refine List.pairwise_cons.2 ⟨fun y hy => ?_, ih h2⟩
      rcases mem_insF hy with rfl | hy
      · exact hx
      · exact h1 y hy
    · rename_i hx
      refine List.pairwise_cons.2 ⟨fun y hy => ?_, h.filter _⟩
      obtain ⟨hy1, hy2⟩ := List.mem_filter.1 hy
      have hne : y.1 ≠ f.1 := by simpa using hy2
      have hx' : sLess x.1 f.1 = false := by simpa using hx
      rcases List.mem_cons.1 hy1 with rfl | hy
      · exact sLess_total hx' hne
      · by_cases he : x.1 = f.1
        · rw [← he]; exact h1 y hy
        · exact sLess_trans (sLess_total hx' he) (h1 y hy)
theorem insF_perm {f : Fl} {fs : List Fl} (h : Asc fs) : (insF f fs).Perm (putU f fs) := by
  induction fs with
  | nil => exact .refl _
  | cons x l ih =>
    obtain ⟨h1, h2⟩ := List.pairwise_cons.1 h
    rw [insF]
    split
    · rename_i hx
      have hne : ¬ x.1 = f.1 := sLess_ne hx
      unfold putU
      rw [List.filter_cons_of_pos (by simpa using hne)]
      exact ((ih h2).cons x).trans (.swap f x _)
    · exact .refl _
theorem putF_asc {f : Fl} {fs : List Fl} (h : Asc fs) : Asc (putF f fs) := by rw [putF_ins]; exact insF_asc h
theorem putF_perm {f : Fl} {fs : List Fl} (h : Asc fs) : (putF f fs).Perm (putU f fs) := by rw [putF_ins]; exact insF_perm h
theorem srtF_put {f : Fl} {fs gs : List Fl} (h : Asc fs) (hp : gs.Perm (putU f fs)) : srtF gs = putF f fs :=
  srtF_eq ((putU_once h.once).perm hp.symm) (hp.trans (putF_perm h).symm) (putF_asc h)
theorem srtF_del {p : ByteArray} {fs gs : List Fl} (h : Asc fs) (hp : gs.Perm (delU p fs)) : srtF gs = delU p fs :=
  srtF_eq ((h.filter _).once.perm hp.symm) hp (h.filter _)

/-! ### putting and striking, together -/
section
variable {f g : Fl} {fs : List Fl}
theorem mem_putF (h : Asc fs) {x : Fl} : x ∈ putF f fs ↔ x = f ∨ (x ∈ fs ∧ x.1 ≠ f.1) := by
  rw [(putF_perm h).mem_iff, mem_putU]
theorem putU_twice_same (he : f.1 = g.1) : putU g (putU f fs) = putU g fs := by
  unfold putU
  rw [List.filter_cons_of_neg (by simp [he]), List.filter_filter]
  congr 2
  funext x
  simp [he]
theorem putF_twice (h : Asc fs) (he : f.1 = g.1) : putF g (putF f fs) = putF g fs := by
  refine (putF_asc (putF_asc h)).eq (putF_asc h) ?_
  have h1 := (putF_perm (f := g) (putF_asc (f := f) h)).trans (putU_perm (putF_perm h))
  rw [putU_twice_same he] at h1
  exact h1.trans (putF_perm h).symm
theorem putU_swap (he : f.1 ≠ g.1) : (putU g (putU f fs)).Perm (putU f (putU g fs)) := by
  unfold putU
  rw [List.filter_cons_of_pos (by simpa using he), List.filter_cons_of_pos (by simpa using he.symm), List.filter_filter, List.filter_filter]
  refine (List.Perm.swap _ _ _).trans ?_
  rw [show (fun x : Fl => decide (x.1 ≠ g.1) && decide (x.1 ≠ f.1)) = fun x : Fl => decide (x.1 ≠ f.1) && decide (x.1 ≠ g.1) from funext fun x => Bool.and_comm _ _]
theorem putF_swap (h : Asc fs) (he : f.1 ≠ g.1) : putF g (putF f fs) = putF f (putF g fs) := by
  refine (putF_asc (putF_asc h)).eq (putF_asc (putF_asc h)) ?_
  exact ((putF_perm (putF_asc h)).trans (putU_perm (putF_perm h))).trans ((putU_swap he).trans ((putU_perm (putF_perm h).symm).trans (putF_perm (putF_asc h)).symm))
theorem putF_len_same (h : Asc fs) (hm : ∃ x ∈ fs, x.1 = f.1) : (putF f fs).length = fs.length := by
  rw [(putF_perm h).length_eq]
  obtain ⟨x, hx, he⟩ := hm
  have : fs.Perm (x :: delU f.1 fs) := by
    refine (List.perm_ext_iff_of_nodup (h.once.imp fun hne e => hne (by rw [e])) ?_).2 fun y => ?_
    · exact List.nodup_cons.2 ⟨fun hd => (mem_delU.1 hd).2 he, ((h.filter _).once).imp fun hne e => hne (by rw [e])⟩
    · rw [List.mem_cons, mem_delU]
      constructor
      · intro hy
        by_cases hyf : y.1 = f.1
        · exact .inl (h.once.inj hy hx (by rw [hyf, he]))
        · exact .inr ⟨hy, hyf⟩
      · rintro (rfl | ⟨hy, _⟩)
        · exact hx
        · exact hy
  rw [this.length_eq]
  rfl
theorem putF_len_new (h : Asc fs) (hn : ∀ x ∈ fs, x.1 ≠ f.1) : (putF f fs).length = fs.length + 1 := by
  rw [(putF_perm h).length_eq, (putU_new hn).length_eq, List.length_append]; rfl
theorem putF_len (h : Asc fs) : fs.length ≤ (putF f fs).length ∧ (putF f fs).length ≤ fs.length + 1 := by
  by_cases hm : ∃ x ∈ fs, x.1 = f.1
  · rw [putF_len_same h hm]; omega
  · rw [putF_len_new h fun x hx e => hm ⟨x, hx, e⟩]; omega
/-- a list with one put in is valid just where it is not too long and the file is one -/
theorem valid_put (h : validB fs = true) : validB (putF f fs) = true ↔ ((putF f fs).length ≤ 12 ∧ pathB f.1 = true ∧ textB f.2 = true) := by
  obtain ⟨h1, h2, h3⟩ := validB_iff.1 h
  rw [validB_iff]
  refine and_congr_right fun _ => ⟨fun h4 => h4.1 f ((mem_putF h3).2 (.inl rfl)), fun h4 => ⟨fun x hx => ?_, putF_asc h3⟩⟩
  rcases (mem_putF h3).1 hx with rfl | ⟨hx, _⟩
  · exact h4
  · exact h2 x hx
theorem delU_put (h : Asc fs) (hn : ∀ x ∈ fs, x.1 ≠ f.1) : delU f.1 (putF f fs) = fs := by
  refine ((putF_asc h).filter _).eq h ?_
  refine (delU_perm (putF_perm h)).trans ?_
  unfold delU putU
  rw [List.filter_cons_of_neg (by simp), List.filter_filter, List.filter_eq_self.2 fun x hx => by simpa using hn x hx]
theorem put_delU (h : Asc fs) (hm : f ∈ fs) : putF f (delU f.1 fs) = fs := by
  have ha : Asc (delU f.1 fs) := h.filter _
  refine (putF_asc ha).eq h ?_
  refine (putF_perm ha).trans ?_
  refine (List.perm_ext_iff_of_nodup ((putU_once ha.once).imp fun hne e => hne (by rw [e])) (h.once.imp fun hne e => hne (by rw [e]))).2 fun y => ?_
  rw [mem_putU, mem_delU]
  constructor
  · rintro (rfl | ⟨⟨hy, _⟩, _⟩)
    · exact hm
    · exact hy
  · intro hy
    by_cases he : y.1 = f.1
    · exact .inl (h.once.inj hy hm he)
    · exact .inr ⟨⟨hy, he⟩, he⟩
theorem valid_del {p : ByteArray} (h : validB fs = true) : validB (delU p fs) = true := by
  obtain ⟨h1, h2, h3⟩ := validB_iff.1 h
  exact validB_iff.2 ⟨Nat.le_trans (List.length_filter_le _ _) h1, fun x hx => h2 x (mem_delU.1 hx).1, h3.filter _⟩
/-- what is found behind a put -/
theorem find_put (h : Asc fs) (p : ByteArray) : findF (putF f fs) p = if f.1 = p then (f.2, true) else findF fs p := by
  have ha := (putF_asc (f := f) h).once
  by_cases he : f.1 = p
  · subst he
    rw [if_pos rfl]
    exact findF_mem ha ((mem_putF h).2 (.inl rfl))
  · rw [if_neg he]
    rcases findF_cases fs p with ⟨t, hm, hf⟩ | ⟨hn, hf⟩
    · rw [hf]
      exact findF_mem ha ((mem_putF h).2 (.inr ⟨hm, fun e => he e.symm⟩))
    · rw [hf]
      refine findF_not fun x hx => ?_
      rcases (mem_putF h).1 hx with rfl | ⟨hx, _⟩
      · exact he
      · exact hn x hx
theorem find_del (p : ByteArray) : findF (delU p fs) p = (.empty, false) := findF_not fun x hx => (mem_delU.1 hx).2
end
end Go.Proofs.Ytcjnlmnjjkojeaa
