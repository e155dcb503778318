/-
  The drawing functions on lists of files: num, l1Path, l1Files.
-/
import Derived.Test.YtahdpocaldhamaaGreatQStepK
import Derived.Test.YtahdpocaldhamaaGreatGone
namespace Go.Proofs.YtahdpocaldhamaaGreat
set_option linter.unusedVariables false
open Go.RowKit

theorem putStep_mem {f x : Fl} {s : List Fl × Bool} {y : Fl} (h : y ∈ (putStep f s x).1) : y = f ∨ y = x ∨ y ∈ s.1 := by
  obtain ⟨l, b⟩ := s
  unfold putStep at h
  cases b <;> cases hl : sLess x.1 f.1 <;> by_cases hp : x.1 = f.1 <;> simp [hp, hl] at h <;> grind
theorem putTo_mem {f : Fl} (l : List Fl) : ∀ (s : List Fl × Bool) (y : Fl), y ∈ (l.foldl (putStep f) s).1 → y = f ∨ y ∈ l ∨ y ∈ s.1 := by
  induction l with
  | nil => intro s y h; exact .inr (.inr h)
  | cons x l ih =>
    intro s y h
    rcases ih _ _ h with h | h | h
    · exact .inl h
    · exact .inr (.inl (List.mem_cons_of_mem _ h))
    · rcases putStep_mem h with h | h | h
      · exact .inl h
      · exact .inr (.inl (by rw [h]; exact List.mem_cons_self ..))
      · exact .inr (.inr h)
theorem putF_mem {f y : Fl} {fs : List Fl} (h : y ∈ putF f fs) : y = f ∨ y ∈ fs := by
  have key : ∀ y, y ∈ (putTo f fs).1 → y = f ∨ y ∈ fs := fun y hy => by
    rcases putTo_mem fs _ y hy with h | h | h
    · exact .inl h
    · exact .inr h
    · simp at h
  unfold putF at h
  split at h
  · exact key y h
  · rw [List.mem_append] at h
    rcases h with h | h
    · exact key y h
    · exact .inl (by simpa using h)
theorem putF_length (f : Fl) (fs : List Fl) : (putF f fs).length ≤ fs.length + 1 := by
  have h := putTo_owed f fs ([], false)
  unfold putF
  unfold putTo
  generalize fs.foldl (putStep f) ([], false) = s at *
  obtain ⟨l, b⟩ := s
  cases b <;> simp [owed] at h ⊢ <;> omega

/-- every string of the list has at most m bytes -/
def Short (m : Nat) (fs : List Fl) : Prop := ∀ f ∈ fs, f.1.size ≤ m ∧ f.2.size ≤ m
theorem Short.fits {m : Nat} {fs : List Fl} (h : Short m fs) (hm : m ≤ 1000) : Fits fs := fun f hf => by have := h f hf; unfold maxLen; omega
theorem Short.put {m : Nat} {f : Fl} {fs : List Fl} (h : Short m fs) (hf : f.1.size ≤ m ∧ f.2.size ≤ m) : Short m (putF f fs) := fun y hy => by
  rcases putF_mem hy with rfl | hy
  · exact hf
  · exact h y hy

/-- what a drawing function of lists leaves -/
def ListPost (w : World) (B R : Nat) (a : Option Addr) (n c p k m l : Nat) (e : Ending) (w' : World) : Prop :=
  ∃ a' c' fs q, e = .returned (.slice a' (List.length fs) c') ∧ FilesAt w' w'.heap.size a' (List.length fs) fs ∧ Short m fs ∧ List.length fs ≤ l ∧ Step w w' B R a n c p q k

end Go.Proofs.YtahdpocaldhamaaGreat
