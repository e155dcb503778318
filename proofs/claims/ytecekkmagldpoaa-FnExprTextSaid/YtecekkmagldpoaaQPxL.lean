/-
  What the two parsers' answers say of each other.
-/
import Derived.Test.YtecekkmagldpoaaQParP
import Derived.Test.YtecekkmagldpoaaQParQ
namespace Go.Proofs.Ytecekkmagldpoaa
set_option linter.unusedVariables false
set_option linter.unusedSimpArgs false
open Go.RowKit

theorem valid_uniq {k k' : Int} {s s' : ByteArray} {ks ks' : Fo} (h : validE k s ks = true) (h' : validE k' s' ks' = true) (e : fm1 k s ks = fm1 k' s' ks') : k = k' ∧ s = s' ∧ ks = ks' := by
  obtain ⟨h1, h2, _⟩ := valid_tx h
  obtain ⟨h3, h4, _⟩ := valid_tx h'
  obtain ⟨a, b, c, _⟩ := u1 (t := []) (t' := []) h1 h2 h3 h4 (by rw [e])
  exact ⟨a, b, c⟩
theorem valid_fits {l : List UInt8} {k : Int} {s : ByteArray} {ks : Fo} (h : validE k s ks = true) (e : l = fm1 k s ks) (hl : l.length ≤ 1048576) : s.size ≤ maxLen ∧ ks.Fits ∧ ks.len ≤ maxLen := by
  obtain ⟨h1, h2, h3⟩ := valid_tx h
  exact reads_fits (l := l) (n := 20) (t := []) ⟨h1, h2, by rw [e, List.append_nil], h3⟩ (Nat.le_refl _) hl
/-- ParseExpr's answers: at the text of a valid expression -/
def PsYes (k : Int) (s : ByteArray) (ks : Fo) (w : World) (e : Ending) (w' : World) : Prop := ∃ a c, e = .returned (.tuple #[.agg #[.int .i64 k, .string s, .slice a (Fo.len ks) c], .bool true]) ∧ KP w' w.heap.size w'.heap.size ks a ks.len ∧ ks.len ≤ c ∧ Below w.heap.size w w'
def PeYes (k : Int) (s : ByteArray) (ks : Fo) (w : World) (e : Ending) (w' : World) : Prop := ∃ a c bk g, e = .returned (.tuple #[.agg #[.int .i64 k, .string s, .slice a (Fo.len ks) c], .bool true]) ∧ CopX w' w.heap.size ks a c bk g ∧ Below w.heap.size w w'
def PxNo (w : World) (e : Ending) (w' : World) : Prop := e = .returned (.tuple #[.agg #[.int .i64 0, .string ⟨#[]⟩, .slice none 0 0], .bool false]) ∧ Below w.heap.size w w'
section
variable {l : List UInt8} {w w' : World} {e : Ending} {k : Int} {s : ByteArray} {ks : Fo}
theorem PsPost.yes (h : PsPost l w e w') (hv : validE k s ks = true) (hl : l = fm1 k s ks) : PsYes k s ks w e w' := by
  obtain ⟨hB, ⟨k', s', ks', a, c, he, hk, hc, hv', hl'⟩ | ⟨_, hno⟩⟩ := h
  · obtain ⟨rfl, rfl, rfl⟩ := valid_uniq hv hv' (hl ▸ hl')
    exact ⟨a, c, he, hk, hc, hB⟩
  · exact absurd hl (hno k s ks hv)
theorem PePost.yes (h : PePost l w e w') (hv : validE k s ks = true) (hl : l = fm1 k s ks) : PeYes k s ks w e w' := by
  obtain ⟨hB, ⟨k', s', ks', a, c, bk, g, he, hk, hv', hl'⟩ | ⟨_, hno⟩⟩ := h
  · obtain ⟨rfl, rfl, rfl⟩ := valid_uniq hv hv' (hl ▸ hl')
    exact ⟨a, c, bk, g, he, hk, hB⟩
  · exact absurd hl (hno k s ks hv)
theorem PsPost.no (h : PsPost l w e w') (hn : ∀ k s ks, validE k s ks = true → l ≠ fm1 k s ks) : PxNo w e w' := by
  obtain ⟨hB, ⟨k', s', ks', a, c, he, hk, hc, hv', hl'⟩ | ⟨he, _⟩⟩ := h
  · exact absurd hl' (hn _ _ _ hv')
  · exact ⟨he, hB⟩
theorem PePost.no (h : PePost l w e w') (hn : ∀ k s ks, validE k s ks = true → l ≠ fm1 k s ks) : PxNo w e w' := by
  obtain ⟨hB, ⟨k', s', ks', a, c, bk, g, he, hk, hv', hl'⟩ | ⟨he, _⟩⟩ := h
  · exact absurd hl' (hn _ _ _ hv')
  · exact ⟨he, hB⟩
end
end Go.Proofs.Ytecekkmagldpoaa
