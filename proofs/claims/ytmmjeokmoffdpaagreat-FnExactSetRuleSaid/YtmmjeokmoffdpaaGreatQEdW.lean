/-
  What the walks of the laws on edits of projects say of memory.
-/
import Derived.Test.YtmmjeokmoffdpaaGreatQEdU
import Derived.Test.YtmmjeokmoffdpaaGreatQEdM
import Derived.Test.YtmmjeokmoffdpaaGreatQBunB
import Derived.Test.YtmmjeokmoffdpaaGreatQPrS
import Derived.Test.YtmmjeokmoffdpaaGreatQWalkPV
namespace Go.Proofs.YtmmjeokmoffdpaaGreat
set_option linter.unusedVariables false
set_option linter.unusedSimpArgs false
open Go.RowKit

/-- what lies below L through the whole walk: the argument and the reference's answer, with their boxes -/
structure EdA (W : World) (L gp ge : Nat) (fs : List Fl) (rs : List Ru) (fs' : List Fl) (rs' : List Ru) (a1 a2 a0 b0 : Option Addr) (c1 c2 c0 d0 : Nat) (X : World → Prop) : Prop where
  hf : FilesAt W L a1 fs.length fs
  hr : RuAt W 0 L rs a2 rs.length
  h0 : FilesAt W L a0 fs'.length fs'
  r0 : RuAt W 0 L rs' b0 rs'.length
  bx : BxP W gp (.slice a1 fs.length c1) (.slice a2 rs.length c2) 25
  b0 : BxP W ge (.slice a0 fs'.length c0) (.slice b0 rs'.length d0) 36
  lp : gp < L
  le : ge < L
  ex : X W
  xk : ∀ V V', Below L V V' → X V → X V'
section
variable {X : World → Prop} {W W' w w' : World} {L gp ge c0 c1 c2 d0 : Nat} {fs fs' : List Fl} {rs rs' : List Ru} {a1 a2 a0 b0 : Option Addr} {b : Bool} {e : Ending}
theorem EdA.below (h : EdA W L gp ge fs rs fs' rs' a1 a2 a0 b0 c1 c2 c0 d0 X) (hb : Below L W W') : EdA W' L gp ge fs rs fs' rs' a1 a2 a0 b0 c1 c2 c0 d0 X :=
  ⟨h.hf.below hb, h.hr.below hb, h.h0.below hb, h.r0.below hb, (hb.block gp h.lp).trans h.bx, (hb.block ge h.le).trans h.b0, h.lp, h.le, h.xk _ _ hb h.ex, h.xk⟩
/-- the reference's answer, in plain words -/
def EdSx (fs : List Fl) (rs : List Ru) (b : Bool) (w : World) (e : Ending) (w' : World) : Prop := ∃ a1 c1 a2 c2, e = .returned (.tuple #[.agg #[.slice a1 fs.length c1, .slice a2 rs.length c2], .bool b]) ∧ FilesAt w' w'.heap.size a1 fs.length fs ∧ RuAt w' 0 w'.heap.size rs a2 rs.length ∧ Below w.heap.size w w'
theorem edS_x (h : EdS (fs, rs, b) w e w') : EdSx fs rs b w e w' := by
  obtain ⟨a1, c1, a2, c2, rfl, h1, h2, h3⟩ := h
  exact ⟨a1, c1, a2, c2, rfl, OwnsF.at_ h1, h2.more (Nat.zero_le _) (Nat.le_refl _), h3⟩
/-- the program's answer, in plain words -/
def EdPx (fs : List Fl) (rs : List Ru) (b : Bool) (w : World) (e : Ending) (w' : World) : Prop := ∃ av cv a4 c4 bs g, e = .returned (.tuple #[.agg #[.slice av fs.length cv, .slice a4 rs.length c4], .bool b]) ∧ (∀ G, w'.heap.size < G → EdC (w'.alloc (.cells #[.slice av fs.length cv, .slice a4 rs.length c4] 36)) w.heap.size G w'.heap.size g fs rs bs av a4 cv c4) ∧ Below w.heap.size w w'
theorem edR_x (h : EdR (fs, rs, b) w e w') : EdPx fs rs b w e w' := by
  obtain ⟨av, cv, a4, c4, bs, g, rfl, h1, h2, ⟨h3, h4, h5, h6, h7⟩, h8⟩ := h
  refine ⟨av, cv, a4, c4, bs, g, rfl, fun G hG => ?_, h8⟩
  have hB := (Below.refl w'.heap.size w').alloc (Nat.le_refl _) (.cells #[.slice av fs.length cv, .slice a4 rs.length c4] 36)
  exact ⟨ownsF_alloc h1 _, fun x hx => by have := (OwnsF.lt h1 x hx).2; omega, (h3.below hB).more (Nat.le_refl _) (by omega), h4.keep fun x _ hx => hB.block x hx, h5, fun x hx => by have := h6 x hx; omega, h2, h7, BxP.new _ _ _ _, h8.size, hG⟩
theorem ed_small (h : rs'.length + ruTot rs' ≤ 1048576) : ruMk rs' ≤ 4000000 := by have := ruMk_le rs'; omega
theorem del_res {x : ByteArray} (h : delSrcR x fs rs = (fs', rs', b)) (hrf : RuFits rs) (hz : rs.length + ruTot rs ≤ 1048576) (hl : fs.length ≤ 1048576) : RuFits rs' ∧ fs'.length ≤ 1048576 ∧ rs'.length + ruTot rs' ≤ 1048576 := by
  unfold delSrcR at h
  split at h
  · cases h
    exact ⟨hrf, by have := List.length_filter_le (fun g : Fl => decide (g.1 ≠ x)) fs; unfold delU; omega, hz⟩
  · cases h
    exact ⟨(fun y hy => by cases hy), by simp, by simp [ruTot]⟩
theorem put_res {f : Fl} (h : setSrcR f fs rs = (fs', rs', b)) (hrf : RuFits rs) (hz : rs.length + ruTot rs ≤ 1048576) (hl : fs.length ≤ 1048576) : RuFits rs' ∧ fs'.length ≤ 1048576 ∧ rs'.length + ruTot rs' ≤ 1048576 := by
  unfold setSrcR at h
  split at h
  · rename_i h2
    cases h
    exact ⟨hrf, by have := valid_length (proj_valid h2.2); omega, hz⟩
  · cases h
    exact ⟨(fun y hy => by cases hy), by simp, by simp [ruTot]⟩
end
end Go.Proofs.YtmmjeokmoffdpaaGreat
