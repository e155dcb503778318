/-
  Bytes that came in, in a later world.
-/
import Derived.Test.YtahdpocaldhamaaGreatQRd
namespace Go.Proofs.YtahdpocaldhamaaGreat
set_option linter.unusedVariables false
open Go.RowKit

theorem BytesAt.under {w w' : World} {a : Option Addr} {n : Nat} (h : BytesAt w w.heap.size a n) (hB : Below w.heap.size w w') : BytesAt w' w'.heap.size a n := fun hn => by
  obtain ⟨b, off, ha, hb, hz⟩ := h hn
  refine ⟨b, off, ha, Nat.lt_of_lt_of_le hb hB.size, fun i hi => ?_⟩
  obtain ⟨z, h0, h1, hc⟩ := hz i hi
  exact ⟨z, h0, h1, (hB.cell (p := ⟨b, off + i, none⟩) hb).trans hc⟩

theorem BytesAt.in1 {w : World} {a : Option Addr} {n : Nat} (h : BytesAt w w.heap.size a n) (o : Obj) : BytesAt (w.alloc o) (w.alloc o).heap.size a n := fun hn => by
  obtain ⟨b, off, ha, hb, hz⟩ := h hn
  refine ⟨b, off, ha, by simp; omega, fun i hi => ?_⟩
  obtain ⟨z, h0, h1, hc⟩ := hz i hi
  exact ⟨z, h0, h1, (World.cell?_alloc_lt w o ⟨b, off + i, none⟩ hb).trans hc⟩

end Go.Proofs.YtahdpocaldhamaaGreat
