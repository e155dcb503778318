/-
  Valid expressions with one text are one. No program is named here.
-/
import Derived.Test.YtfpdeoicalofdaaParT
namespace Go.Proofs.Ytfpdeoicalofdaa
set_option linter.unusedVariables false
open Go.RowKit

theorem validE_tx {k : Int} {s : ByteArray} {ks : Fo} (h : validE k s ks = true) : TxN k s ks.len ∧ Tx ks := by
  unfold validE at h
  rw [Bool.and_eq_true] at h
  have h1 := shape_tx h.1
  exact ⟨h1.1, h1.2.1⟩
theorem fmtE_law {r : Bool} {k k' : Int} {s s' : ByteArray} {ks ks' : Fo} (hr : r = true ↔ k = k' ∧ s = s' ∧ ks = ks') :
    fmtE k s ks = .empty ∨ fmtE k' s' ks' = .empty ∨ r = decide (fmtE k s ks = fmtE k' s' ks') := by
  by_cases h : validE k s ks = true
  · by_cases h' : validE k' s' ks' = true
    · refine .inr (.inr ?_)
      rw [Bool.eq_iff_iff, decide_eq_true_iff, hr]
      constructor
      · rintro ⟨rfl, rfl, rfl⟩
        rfl
      · intro e
        unfold fmtE at e
        rw [if_pos h, if_pos h'] at e
        have e1 : fm1 k s ks = fm1 k' s' ks' := by simpa using congrArg (fun x : ByteArray => x.data.toList) e
        obtain ⟨h1, h2⟩ := validE_tx h
        obtain ⟨h3, h4⟩ := validE_tx h'
        obtain ⟨e2, e3, e4, _⟩ := u1 (t := []) (t' := []) h1 h2 h3 h4 (by rw [e1])
        exact ⟨e2, e3, e4⟩
    · exact .inr (.inl (if_neg h'))
  · exact .inl (if_neg h)
end Go.Proofs.Ytfpdeoicalofdaa
