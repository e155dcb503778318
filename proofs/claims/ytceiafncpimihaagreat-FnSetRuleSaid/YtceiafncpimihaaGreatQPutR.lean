/-
  A rule put into a list of rules, in plain words.
-/
import Derived.Test.YtceiafncpimihaaGreatGone
import Derived.Test.YtceiafncpimihaaGreatQEdV
namespace Go.Proofs.YtceiafncpimihaaGreat
set_option linter.unusedVariables false
set_option linter.unusedSimpArgs false
open Go.RowKit Go.Maps

theorem mapR_put {r : Ru} {v : Value} {rs : List Ru} {gs : List Kv} {w : World} {B : Nat} (hb : BodyV w B (r.1, v) r) (h1 : ∀ g ∈ gs, ∃ y ∈ rs, BodyV w B g y) (h2 : ∀ y ∈ rs, ∃ g ∈ gs, g.1 = y.1) :
    (∀ g ∈ putV (r.1, v) gs, ∃ y ∈ putRu r rs, BodyV w B g y) ∧ (∀ y ∈ putRu r rs, ∃ g ∈ putV (r.1, v) gs, g.1 = y.1) := by
  constructor
  · intro g hg
    rcases mem_putV.1 hg with rfl | ⟨hg1, hg2⟩
    · exact ⟨r, mem_putRu.2 (.inl rfl), hb⟩
    · obtain ⟨y, hy, hyb⟩ := h1 g hg1
      exact ⟨y, mem_putRu.2 (.inr ⟨hy, fun e => hg2 (hyb.1.trans e)⟩), hyb⟩
  · intro y hy
    rcases mem_putRu.1 hy with rfl | ⟨hy1, hy2⟩
    · exact ⟨_, mem_putV.2 (.inl rfl), rfl⟩
    · obtain ⟨g, hg, e⟩ := h2 y hy1
      exact ⟨g, mem_putV.2 (.inr ⟨hg, fun e' => hy2 (e.symm.trans e')⟩), e⟩
end Go.Proofs.YtceiafncpimihaaGreat
