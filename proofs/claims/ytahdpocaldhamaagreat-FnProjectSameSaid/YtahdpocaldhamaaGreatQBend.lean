/-
  l1Bend: what it leaves.
-/
import Derived.Test.YtahdpocaldhamaaGreatQStepK
import Derived.Deep.RegionHeld3
import Derived.Laws.Concat
import Derived.Outline
namespace Go.Proofs.YtahdpocaldhamaaGreat
set_option linter.unusedVariables false
open Go.RowKit

theorem StrsAt.step {w w' : World} {Q : ByteArray → Prop} {B R n c p q k g m : Nat} {a : Option Addr} (h : StrsAt w Q g m) (hs : Step w w' B R a n c p q k) (hg : g < w.heap.size) (hne : g ≠ R) : StrsAt w' Q g m := fun i hi => by
  obtain ⟨s, h1, h2⟩ := h i hi
  exact ⟨s, (hs.cell (i := ⟨g, i, none⟩) hg hne).trans h1, h2⟩

end Go.Proofs.YtahdpocaldhamaaGreat
