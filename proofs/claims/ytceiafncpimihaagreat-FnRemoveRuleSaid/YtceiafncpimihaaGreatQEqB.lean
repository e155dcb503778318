/-
  A law's copies of expressions lie in blocks that nothing has frozen; two boxes with expressions.
-/
import Derived.Test.YtceiafncpimihaaGreatGtwo
import Derived.Test.YtceiafncpimihaaGreatQBoxE
namespace Go.Proofs.YtceiafncpimihaaGreat
set_option linter.unusedVariables false
open Go.RowKit

theorem RowE.pln {w : World} {b n : Nat} (h : RowE w b n) : Pln w b := let ⟨cs, h1, _⟩ := h; ⟨cs, _, h1⟩
theorem rdF_of {w : World} {L B L' B' : Nat} : ∀ {f : Fo} {b j : Nat}, Seg w L B f b (j * 3) → SkS w L' B' f b j → RdF w f b (j * 3)
  | .nil, _, _, _, _ => trivial
  | .node k s ks r, b, j, ⟨h1, h2, ⟨a, n, c, h3, h4, h5, h6⟩, h7⟩, ⟨⟨a', n', c', h8, h9, h10⟩, h11⟩ => by
    rw [h3] at h8
    cases h8
    refine ⟨h1, h2, ⟨a, n, c, h3, h4, h5, fun hn => ?_⟩, ?_⟩
    · obtain ⟨b1, o1, e1, _, _, hs⟩ := h6 hn
      obtain ⟨b2, e2, _, _, hr, hk⟩ := h10 hn
      rw [e1] at e2
      cases e2
      exact ⟨b1, 0, e1, hr.pln, by have := rdF_of (f := ks) (j := 0) (by simpa using hs) hk; simpa using this⟩
    · have := rdF_of (f := r) (j := j + 1) (by rw [show (j + 1) * 3 = j * 3 + 3 from by omega]; exact h7) h11
      rwa [show (j + 1) * 3 = j * 3 + 3 from by omega] at this
theorem KS.rd {w : World} {L B : Nat} {f : Fo} {a : Option Addr} {n : Nat} (h : KS w L B f a n) : RdA w f a n := by
  obtain ⟨h1, h2⟩ := h
  refine ⟨h1.1, fun hn => ?_⟩
  obtain ⟨b1, o1, e1, _, _, hs⟩ := h1.2 hn
  obtain ⟨b2, e2, _, _, hr, hk⟩ := h2.2 hn
  rw [e1] at e2
  cases e2
  exact ⟨b1, 0, e1, hr.pln, by have := rdF_of (f := f) (j := 0) (by simpa using hs) hk; simpa using this⟩
end Go.Proofs.YtceiafncpimihaaGreat
