/-
  Words for the exact laws that mark lists of files.
-/
import Derived.Test.YtollcckdfehdeaaMark
import Derived.Test.YtollcckdfehdeaaFWalk
import Derived.Test.YtollcckdfehdeaaDrawF
namespace Go.Proofs.Ytollcckdfehdeaa
set_option linter.unusedVariables false
open Go.RowKit

section
variable {w w' : World} {B D g n m r c d : Nat} {a b : Option Addr} {v : Value} {fs gs : List Fl} {p t : ByteArray}
/-- block g is a box of the law's own type that holds a file -/
def BoxL (w : World) (g : Nat) (p t : ByteArray) : Prop := w.heap[g]? = some (.cells #[.string p, .string t] 57 (0, 0))
theorem BoxL.new (w : World) (p t : ByteArray) : BoxL (w.alloc (.cells #[.string p, .string t] 57)) w.heap.size p t := heap_alloc_new w _
theorem BoxL.lt (h : BoxL w g p t) : g < w.heap.size := blk_lt h
theorem BoxL.next (h : BoxL w g p t) (hB : Below w.heap.size w w') : BoxL w' g p t := (hB.block g h.lt).trans h
theorem BoxL.grown (h : BoxL w g p t) (hg : w.grownBy w' (some r)) (hne : g ≠ r) : BoxL w' g p t := (hg.block g h.lt (fun e => hne (by injection e))).trans h
theorem BoxL.c0 (h : BoxL w g p t) : w.cell? ⟨g, 0, none⟩ = some (.string p) := by rw [cell_of_row _ _ _ _ _ _ h]; rfl
theorem BoxL.c1 (h : BoxL w g p t) : w.cell? ⟨g, 1, none⟩ = some (.string t) := by rw [cell_of_row _ _ _ _ _ _ h]; rfl

theorem FilesAt.belowD (h : FilesAt w D b m fs) (hB : Below w.heap.size w w') (hD : D ≤ w.heap.size) : FilesAt w' D b m fs := h.keep fun q hq => hB.cell (by omega)
theorem FilesAt.grownD (h : FilesAt w D b m fs) (hg : w.grownBy w' (some r)) (hD : D ≤ w.heap.size) (hr : D ≤ r) : FilesAt w' D b m fs :=
  h.keep fun q hq => World.cell?_of_block (hg.block q.block (by omega) (fun e => by injection e; omega))
theorem OwnsF.belowD (h : OwnsF w B v fs) (hb : Below w.heap.size w w') : OwnsF w' B v fs := by
  refine ⟨h.1, h.2.imp id ?_⟩
  rintro ⟨g, cap, cur, e1, h1, h2, r⟩
  exact ⟨g, cap, cur, e1, h1, (hb.block g (blk_lt h2)).trans h2, r⟩
theorem OwnsF.grownD (h : OwnsF w B v fs) (hg : w.grownBy w' (some r)) (hr : r < B) : OwnsF w' B v fs :=
  World.ownsRow.kept h hg (.inr (fun e => by have := (World.ownsRow.lt h r e).1; omega))
theorem OwnsF.at_ (h : OwnsF w B (.slice a n c) fs) : FilesAt w w.heap.size a n fs := by
  obtain ⟨a', c', e, hf⟩ := h.form
  cases e
  exact hf
theorem OwnF.owns (h : OwnF w 49 g fs) (hB : B ≤ g) (hm : fs.length ≤ maxLen) : OwnsF w B (.slice (some ⟨g, 0, none⟩) fs.length fs.length) fs :=
  ⟨fcells_length fs, .inr ⟨g, fs.length, _, rfl, hB, h, Nat.le_refl _, hm, by simp [fcells_length], by simp [← fcells_length fs]⟩⟩
theorem eqFileS_yes (hf : FilesAt w w.heap.size a n fs) (hg : FilesAt w w.heap.size b m gs) (hn : n ≤ maxLen) (hm : m ≤ maxLen) (h : fs = gs) :
    Calls Try.prog 16 #[.slice a n c, .slice b m d] w fun e w' => e = .returned (.bool true) ∧ Below w.heap.size w w' :=
  (eqFileS_any a b n c m d fs gs w hf hg hn hm).mono fun _ _ ⟨he, hb⟩ => ⟨by rw [he, decide_eq_true h], hb⟩
/-- the row of a list that a call handed back, marked -/
theorem markO (ho : OwnsF w B (.slice a fs.length c) fs) (hn : fs.length ≤ 1048576) :
    Calls Try.prog 17 #[.slice a fs.length c, .int .i64 1] w fun e w' =>
      e = .returned (.int .i64 (1 + 2 * fs.length : Nat)) ∧ OwnsF w' B (.slice a fs.length c) (mrk 1 fs.length fs) ∧ ∃ r, w.grownBy w' (some r) ∧ B ≤ r := by
  refine (markF_any _ B 1 fs w ho hn (by omega) (by omega)).mono fun e w' ⟨he, h1, h2⟩ => ⟨he, h1, ?_⟩
  cases a with
  | none => exact ⟨max B w.heap.size, ⟨h2.os, h2.tape, h2.output, h2.size, fun k hk _ => h2.block k hk (by simp [Value.ownBlock])⟩, by omega⟩
  | some x => exact ⟨x.block, h2, (World.ownsRow.lt ho x.block rfl).1⟩
end
end Go.Proofs.Ytollcckdfehdeaa
