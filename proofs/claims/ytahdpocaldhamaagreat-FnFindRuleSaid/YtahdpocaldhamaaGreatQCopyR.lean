/-
  The program's copyProject: the copy lies in rows that share no block.
-/
import Derived.Test.YtahdpocaldhamaaGreatQCopyQ
import Derived.Deep.RegionHeld3
namespace Go.Proofs.YtahdpocaldhamaaGreat
set_option linter.unusedVariables false
set_option linter.unusedSimpArgs false
open Go.RowKit

theorem bxP_two {w : World} {g : Nat} {u v : Value} {T : TypeId} (h : BxP w g u v T) : w.cell? ⟨g, 0, none⟩ = some u ∧ w.cell? ⟨g, 1, none⟩ = some v := ⟨h.facts.1, h.facts.2.1⟩
theorem OwnsF.set {w : World} {base g : Nat} {v : Value} {fs : List Fl} (h : OwnsF w base v fs) (hg : g < base) (i : Nat) (u : Value) : OwnsF (w.setCell ⟨g, i, none⟩ u) base v fs :=
  World.ownsRow.kept (row := some g) h (grown_set (p := ⟨g, i, none⟩) (World.grownBy.refl w _) (.inl rfl) u) (by
    cases hv : v.ownBlock with
    | none => exact .inl rfl
    | some b => exact .inr fun e => by injection e with e; have := World.ownsRow.lt h b hv; omega)
theorem OwnsF.lt {w : World} {base : Nat} {v : Value} {fs : List Fl} (h : OwnsF w base v fs) : ∀ g, v.ownBlock = some g → base ≤ g ∧ g < w.heap.size := fun g hg => World.ownsRow.lt h g hg
/-- the copy's facts, whichever of its lists was copied first -/
theorem copPr_mk {w : World} {n0 base : Nat} {fs : List Fl} {rs : List Ru} {v : Value} {a : Option Addr} {c g : Nat} {bs : List (Nat × Fo)} (hf : OwnsF w base v fs) (hq : CopQ w base rs a c bs g) (hd : ∀ x ∈ rblksA g bs, v.ownBlock ≠ some x) (hb : n0 ≤ base) (i : Nat) (hi : i < base) (x y : Value) :
    OwnsF ((w.setCell ⟨i, 0, none⟩ x).setCell ⟨i, 1, none⟩ y) n0 v fs ∧ (∀ x ∈ rblksA g bs, v.ownBlock ≠ some x) ∧ CopQ ((w.setCell ⟨i, 0, none⟩ x).setCell ⟨i, 1, none⟩ y) n0 rs a c bs g :=
  ⟨World.ownsRow.mono ((OwnsF.set (OwnsF.set hf hi 0 x) hi 1 y)) hb, hd, ((hq.setCell hi 0 x).setCell hi 1 y).mono hb⟩
theorem CopQ.below {w w' : World} {base c g : Nat} {rs : List Ru} {bs : List (Nat × Fo)} {a : Option Addr} (h : CopQ w base rs a c bs g) (hb : Below w.heap.size w w') : CopQ w' base rs a c bs g := by
  obtain ⟨h3, h4, h5, h6, h7⟩ := h
  exact ⟨h3.next hb, h4.keep fun x hx hxs => hb.block x hxs, h5, fun x hx => ⟨(h6 x hx).1, Nat.lt_of_lt_of_le (h6 x hx).2 hb.size⟩, h7⟩

end Go.Proofs.YtahdpocaldhamaaGreat
