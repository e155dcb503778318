/-
  The copy of a project that a law hands to the program, in one word: what lies where, and what stays.
-/
import Derived.Test.YtmmjeokmoffdpaaGreatQMarkP
namespace Go.Proofs.YtmmjeokmoffdpaaGreat
set_option linter.unusedVariables false
open Go.RowKit

/-- the copy of the argument, below S -/
structure FrB (W : World) (L S g1 g2 gx : Nat) (fs : List Fl) (rs : List Ru) : Prop where
  hf : FilesAt W S (some ⟨g1, 0, none⟩) fs.length fs
  hr : RuAt W 0 S rs (some ⟨g2, 0, none⟩) rs.length
  own : OwnF W 83 g1 fs
  sk : SkR W (g2 + 1) gx rs g2 rs.length
  bx : BxP W gx (.slice (some ⟨g1, 0, none⟩) fs.length fs.length) (.slice (some ⟨g2, 0, none⟩) rs.length rs.length) 36
  l1 : L ≤ g1
  l12 : g1 < g2
  l2 : g2 < gx
  lx : gx < S
section
variable {W W' : World} {L S G gp ge gx gy g1 g2 g7 c0 c1 c2 c7 : Nat} {fs : List Fl} {rs : List Ru}
theorem FrB.below (h : FrB W L S g1 g2 gx fs rs) (hb : Below S W W') : FrB W' L S g1 g2 gx fs rs := by
  have hlx := h.lx
  have hl2 := h.l2
  have hl12 := h.l12
  refine ⟨h.hf.below hb, h.hr.below hb, (hb.block g1 (by omega)).trans h.own, ?_, (hb.block gx h.lx).trans h.bx, h.l1, h.l12, h.l2, h.lx⟩
  obtain ⟨⟨cs, h3, h4⟩, h5⟩ := h.sk
  have hb2 := hb.block g2 (by omega)
  refine ⟨⟨cs, hb2.trans h3, h4⟩, fun i t k s ks hg => ?_⟩
  obtain ⟨a, m, c, h6, h7⟩ := h5 i t k s ks hg
  exact ⟨a, m, c, (show W'.cell? ⟨g2, i * 4 + 3, none⟩ = _ from World.cell?_of_block hb2).trans h6, h7.below (hb.mono (by omega))⟩
end
end Go.Proofs.YtmmjeokmoffdpaaGreat
