/-
  Boxes with entries whose reads lie somewhere.
-/
import Derived.Test.YtaiijnepeccllaaGreatQEnW
namespace Go.Proofs.YtaiijnepeccllaaGreat
set_option linter.unusedVariables false
open Go.RowKit

/-- what a law's argument is told of: a readable entry -/
def InN (w : World) (t s : ByteArray) (fs : List Fl) (x : ByteArray) (a : Option Addr) (n : Nat) : Prop := FilesAt w w.heap.size a n fs ∧ EnFit (t, s, fs, x) ∧ n ≤ maxLen
theorem BxN.four {w : World} {g : Nat} {t s : ByteArray} {v : Value} {x : ByteArray} {T : TypeId} (h : BxN w g t s v x T) : w.cell? ⟨g, 0, none⟩ = some (.string t) ∧ w.cell? ⟨g, 1, none⟩ = some (.string s) ∧ w.cell? ⟨g, 2, none⟩ = some v ∧ w.cell? ⟨g, 3, none⟩ = some (.string x) := ⟨h.facts.1, h.facts.2.1, h.facts.2.2.1, h.facts.2.2.2.1⟩
/-- a box with an entry whose reads lie somewhere -/
def EnB (V : World) (k : Nat) (t s : ByteArray) (fs : List Fl) (x : ByteArray) (a : Option Addr) (n c : Nat) (T : TypeId) : Prop := BxN V k t s (.slice a n c) x T ∧ FilesAt V V.heap.size a n fs
theorem and8 {a b c d e f g h : Prop} (H : (a ∧ b ∧ c ∧ d) ∧ (e ∧ f ∧ g ∧ h)) : a ∧ b ∧ c ∧ d ∧ e ∧ f ∧ g ∧ h := ⟨H.1.1, H.1.2.1, H.1.2.2.1, H.1.2.2.2, H.2⟩
theorem EnB.next {V V' : World} {k : Nat} {t s : ByteArray} {fs : List Fl} {x : ByteArray} {a : Option Addr} {n c : Nat} {T : TypeId} (h : EnB V k t s fs x a n c T) (hB : Below V.heap.size V V') : EnB V' k t s fs x a n c T := ⟨h.1.next hB, (h.2.below hB).more hB.size⟩
/-- two of them -/
def EnB2 (V : World) (k : Nat) (t s : ByteArray) (fs : List Fl) (x : ByteArray) (a : Option Addr) (n c : Nat) (T : TypeId) (k' : Nat) (t' s' : ByteArray) (fs' : List Fl) (x' : ByteArray) (a' : Option Addr) (n' c' : Nat) (T' : TypeId) : Prop := EnB V k t s fs x a n c T ∧ EnB V k' t' s' fs' x' a' n' c' T'
section
variable {V V' : World} {k : Nat} {t s : ByteArray} {fs : List Fl} {x : ByteArray} {a : Option Addr} {n c : Nat} {T : TypeId} {k' : Nat} {t' s' : ByteArray} {fs' : List Fl} {x' : ByteArray} {a' : Option Addr} {n' c' : Nat} {T' : TypeId}
theorem EnB2.next (h : EnB2 V k t s fs x a n c T k' t' s' fs' x' a' n' c' T') (hB : Below V.heap.size V V') : EnB2 V' k t s fs x a n c T k' t' s' fs' x' a' n' c' T' := ⟨h.1.next hB, h.2.next hB⟩
theorem EnB2.cells (h : EnB2 V k t s fs x a n c T k' t' s' fs' x' a' n' c' T') : V.cell? ⟨k, 0, none⟩ = some (.string t) ∧ V.cell? ⟨k, 1, none⟩ = some (.string s) ∧ V.cell? ⟨k, 2, none⟩ = some (.slice a n c) ∧ V.cell? ⟨k, 3, none⟩ = some (.string x) ∧ V.cell? ⟨k', 0, none⟩ = some (.string t') ∧ V.cell? ⟨k', 1, none⟩ = some (.string s') ∧ V.cell? ⟨k', 2, none⟩ = some (.slice a' n' c') ∧ V.cell? ⟨k', 3, none⟩ = some (.string x') :=
  ⟨h.1.1.four.1, h.1.1.four.2.1, h.1.1.four.2.2.1, h.1.1.four.2.2.2, h.2.1.four.1, h.2.1.four.2.1, h.2.1.four.2.2.1, h.2.1.four.2.2.2⟩
end

end Go.Proofs.YtaiijnepeccllaaGreat
