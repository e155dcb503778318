/-
  What PutFile and RemoveFile answer, of the program and of the model.
-/
import Derived.Test.YtmmjeokmoffdpaaGreatGone
import Derived.Test.YtmmjeokmoffdpaaGreatQFValid
namespace Go.Proofs.YtmmjeokmoffdpaaGreat
set_option linter.unusedVariables false
open Go.RowKit Go.Maps

def putR (f : Fl) (fs : List Fl) : List Fl × Bool := if validB fs = true ∧ validB (putF f fs) = true then (putF f fs, true) else ([], false)
def delR (x : ByteArray) (fs : List Fl) : List Fl × Bool := if validB fs = true ∧ hasF fs x = true then (delU x fs, true) else ([], false)
theorem putR_bad {f : Fl} {fs : List Fl} (h : validB fs = false) : putR f fs = ([], false) := by unfold putR; rw [if_neg (by simp [h])]
theorem putR_not {f : Fl} {fs : List Fl} (h : validB (putF f fs) = false) : putR f fs = ([], false) := by unfold putR; rw [if_neg (by simp [h])]
theorem putR_fine {f : Fl} {fs : List Fl} (h : validB fs = true) (h2 : validB (putF f fs) = true) : putR f fs = (putF f fs, true) := by unfold putR; rw [if_pos ⟨h, h2⟩]
theorem delR_bad {x : ByteArray} {fs : List Fl} (h : validB fs = false) : delR x fs = ([], false) := by unfold delR; rw [if_neg (by simp [h])]
theorem delR_not {x : ByteArray} {fs : List Fl} (h : hasF fs x = false) : delR x fs = ([], false) := by unfold delR; rw [if_neg (by simp [h])]
theorem delR_fine {x : ByteArray} {fs : List Fl} (h : validB fs = true) (h2 : hasF fs x = true) : delR x fs = (delU x fs, true) := by unfold delR; rw [if_pos ⟨h, h2⟩]
theorem hasF_find (fs : List Fl) (x : ByteArray) : (findF fs x).2 = hasF fs x := by
  rcases findF_cases fs x with ⟨t, hm, hf⟩ | ⟨hn, hf⟩
  · rw [hf]; symm; unfold hasF; rw [List.any_eq_true]; exact ⟨_, hm, by simp⟩
  · rw [hf]; symm; unfold hasF; rw [List.any_eq_false]; exact fun g hg => by simpa using hn g hg

theorem fits_put {p t : ByteArray} {fs : List Fl} (h : Fits fs) (hp : p.size ≤ maxLen) (ht : t.size ≤ maxLen) : Fits (putF (p, t) fs) := fun y hy => by
  rcases putF_mem hy with rfl | hy
  · exact ⟨hp, ht⟩
  · exact h y hy
theorem delU_take {x p t : ByteArray} {fs : List Fl} {k : Nat} (h : fs[k]? = some (p, t)) : delU x (fs.take (k + 1)) = delU x (fs.take k) ++ if p = x then [] else [(p, t)] := by
  rw [List.take_add_one, h]
  unfold delU
  rw [List.filter_append]
  by_cases hp : p = x <;> simp [hp]
theorem delU_len (x : ByteArray) (fs : List Fl) (k : Nat) : (delU x (fs.take k)).length ≤ k := Nat.le_trans (List.length_filter_le _ _) (List.length_take_le _ _)

end Go.Proofs.YtmmjeokmoffdpaaGreat
