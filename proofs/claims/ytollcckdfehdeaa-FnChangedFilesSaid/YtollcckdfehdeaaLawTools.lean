/-
  Words for the walks of the laws: lists that were drawn, held against each other, looked into.
-/
import Derived.Test.YtollcckdfehdeaaMutF
import Derived.Test.YtollcckdfehdeaaRow
import Derived.Test.YtollcckdfehdeaaWalkSame
import Derived.Test.YtollcckdfehdeaaFValid
import Derived.Test.YtollcckdfehdeaaFFind
import Derived.Test.YtollcckdfehdeaaMaps
namespace Go.Proofs.Ytollcckdfehdeaa
set_option linter.unusedVariables false
open Go.RowKit

theorem BytesAt.under {w w' : World} {a : Option Addr} {n : Nat} (h : BytesAt w w.heap.size a n) (hB : Below w.heap.size w w') : BytesAt w' w'.heap.size a n := fun hn => by
  obtain ⟨b, off, ha, hb, hz⟩ := h hn
  refine ⟨b, off, ha, Nat.lt_of_lt_of_le hb hB.size, fun i hi => ?_⟩
  obtain ⟨z, h0, h1, hc⟩ := hz i hi
  exact ⟨z, h0, h1, (hB.cell (p := ⟨b, off + i, none⟩) hb).trans hc⟩

theorem BytesAt.in1 {w : World} {a : Option Addr} {n : Nat} (h : BytesAt w w.heap.size a n) (o : Obj) : BytesAt (w.alloc o) (w.alloc o).heap.size a n := fun hn => by
  obtain ⟨b, off, ha, hb, hz⟩ := h hn
  refine ⟨b, off, ha, by simp; omega, fun i hi => ?_⟩
  obtain ⟨z, h0, h1, hc⟩ := hz i hi
  exact ⟨z, h0, h1, (World.cell?_alloc_lt w o ⟨b, off + i, none⟩ hb).trans hc⟩

section
variable {a b : Option Addr} {n c m d : Nat} {fs gs xs : List Fl} {xb : Bool} {p t x : ByteArray} {w : World}
theorem sameI_yes (hf : FilesAt w w.heap.size a n fs) (hg : FilesAt w w.heap.size b m gs) (hn : fs.length ≤ 100) (hm : gs.length ≤ 100) (h : fs = gs) :
    Calls Try.prog 12 #[.slice a n c, .slice b m d] w fun e w' => e = .returned (.bool true) ∧ Below w.heap.size w w' :=
  (sameI_any a b n c m d fs gs w hf hg (by have := hf.1; simp only [maxLen]; omega) (by have := hg.1; simp only [maxLen]; omega)).mono fun _ _ ⟨he, hb⟩ => ⟨by rw [he, decide_eq_true h], hb⟩
theorem findI_is {s : ByteArray} (hX : findF fs x = (s, xb)) (hf : FilesAt w w.heap.size a n fs) (hn : fs.length ≤ 100) :
    Calls Try.prog 11 #[.slice a n c, .string x] w fun e w' => e = .returned (.tuple #[.string s, .bool xb]) ∧ Below w.heap.size w w' :=
  (findI_any a n c fs x w hf (by have := hf.1; simp only [maxLen]; omega)).mono fun _ _ ⟨he, hb⟩ => ⟨by rw [he, hX], hb⟩
end
theorem validI_yes {a : Option Addr} {n c : Nat} {fs : List Fl} {w : World} (hv : validB fs = true) (hf : FilesAt w w.heap.size a n fs) (hs : Short 100 fs) (hn : fs.length ≤ 100) :
    Calls Try.prog 10 #[.slice a n c] w fun e w' => e = .returned (.bool true) ∧ Below w.heap.size w w' :=
  (validI_any a n c fs w hf (hs.fits (by omega)) (by have := hf.1; simp only [maxLen]; omega)).mono fun _ _ ⟨he, hb⟩ => ⟨by rw [he, hv], hb⟩

end Go.Proofs.Ytollcckdfehdeaa
