/-
  The drawing function l1Mutate: a copy of a list, sometimes changed in one place.
-/
import Derived.Test.YtahdpocaldhamaaGreatQDrawF
import Derived.RangeFuncBox
namespace Go.Proofs.YtahdpocaldhamaaGreat
set_option linter.unusedVariables false
open Go.RowKit

theorem Short.more {m l : Nat} {fs : List Fl} (h : Short m fs) (hl : m ≤ l) : Short l fs := fun f hf => by have := h f hf; omega
theorem Short.snoc {m : Nat} {fs : List Fl} {f : Fl} (h : Short m fs) (hf : f.1.size ≤ m ∧ f.2.size ≤ m) : Short m (fs ++ [f]) := fun y hy => by
  rcases List.mem_append.1 hy with hy | hy
  · exact h y hy
  · obtain rfl : y = f := by simpa using hy
    exact hf
theorem Short.set {m k : Nat} {fs : List Fl} {f : Fl} (h : Short m fs) (hf : f.1.size ≤ m ∧ f.2.size ≤ m) : Short m (fs.set k f) := fun y hy => by
  rcases List.mem_or_eq_of_mem_set hy with hy | rfl
  · exact h y hy
  · exact hf

theorem OwnsF.files {w : World} {base n c : Nat} {a : Option Addr} {fs : List Fl} (h : OwnsF w base (.slice a n c) fs) : n = fs.length ∧ FilesAt w w.heap.size a fs.length fs := by
  obtain ⟨b, d, e, hf⟩ := h.form
  cases e
  exact ⟨rfl, hf⟩

/-- what l1Mutate leaves: a list of its own -/
def ListNew (w : World) (B R : Nat) (a : Option Addr) (n c p k m l : Nat) (e : Ending) (w' : World) : Prop :=
  ∃ a' c' fs q, e = .returned (.slice a' (List.length fs) c') ∧ FilesAt w' w'.heap.size a' (List.length fs) fs ∧ Short m fs ∧ List.length fs ≤ l ∧ Step w w' B R a n c p q k ∧ ∀ x, a' = some x → w.heap.size ≤ x.block

/-- what l1Mutate leaves: a row of its own -/
def ListOwn (w : World) (B R : Nat) (a : Option Addr) (n c p k m l : Nat) (e : Ending) (w' : World) : Prop :=
  ∃ a' c' fs q, e = .returned (.slice a' (List.length fs) c') ∧ OwnsF w' w.heap.size (.slice a' (List.length fs) c') fs ∧ Short m fs ∧ List.length fs ≤ l ∧ Step w w' B R a n c p q k

end Go.Proofs.YtahdpocaldhamaaGreat
