/-
  The reference's l2Copy (for seats that draw nothing).
-/
import Derived.Test.YtpmncjeccemgfaaGreatOwnU
import Derived.Test.YtpmncjeccemgfaaGreatBx
import Derived.Deep.RegionLaw
import Derived.Deep.RegionHeld3
namespace Go.Proofs.YtpmncjeccemgfaaGreat
set_option linter.unusedVariables false
set_option linter.unusedSimpArgs false
open Go.RowKit

section
variable {w w' : World} {g : Nat} {k : Int} {s : ByteArray} {v : Value} {T : TypeId}
theorem BxE.facts (h : BxE w g k s v T) : w.cell? ⟨g, 0, none⟩ = some (.int .i64 k) ∧ w.cell? ⟨g, 1, none⟩ = some (.string s) ∧ w.cell? ⟨g, 2, none⟩ = some v ∧ w.frozen? ⟨g, 0, none⟩ = false ∧ w.frozen? ⟨g, 1, none⟩ = false ∧ w.frozen? ⟨g, 2, none⟩ = false ∧ g < w.heap.size :=
  ⟨h.c0, h.c1, h.c2, blk_frozen h 0, blk_frozen h 1, blk_frozen h 2, blk_lt h⟩
theorem BxE.grown {r : Option Nat} (h : BxE w g k s v T) (hg : w.grownBy w' r) (hr : r ≠ some g) : BxE w' g k s v T := (hg.block g (blk_lt h) (fun e => hr e.symm)).trans h
theorem BxE.alloc (h : BxE w g k s v T) (o : Obj) : BxE (w.alloc o) g k s v T := h.grown (World.grownBy_alloc w o none) (by simp)
theorem BxE.set2 (h : BxE w g k s v T) (u : Value) : BxE (w.setCell ⟨g, 2, none⟩ u) g k s u T := blk_set h 2 u
theorem BxE.other (h : BxE w g k s v T) {g' : Nat} (hne : g ≠ g') (i : Nat) (u : Value) : BxE (w.setCell ⟨g', i, none⟩ u) g k s v T := (Below.heap_setCell w _ _ g (fun e => hne (by simpa using e))).trans h
end
theorem Fo.size_len : ∀ f : Fo, f.len ≤ f.size
  | .nil => Nat.le_refl _
  | .node k s ks r => by have := Fo.size_len r; simp only [Fo.len, Fo.size]; omega

/-- what l2Copy leaves: the same expression, in memory of its own -/
def CopyP (k : Int) (s : ByteArray) (ks : Fo) (w : World) (e : Ending) (w' : World) : Prop := ∃ v, e = .returned (.agg #[.int .i64 k, .string s, v]) ∧ OwnT w' w.heap.size v ks ∧ Below w.heap.size w w'
/-- between two rounds of l2Copy -/
def CpI (w : World) (k : Int) (s : ByteArray) (ks : Fo) (a : Option Addr) (n c : Nat) (i : Value) (wr : World) : Prop :=
  ∃ (j : Nat) (v : Value) (f : Fo), j ≤ n ∧ i = .int .i64 j ∧ f.len = j ∧ (∀ i, i < j → f.get i = ks.get i) ∧ OwnT wr (w.heap.size + 1 + 1 + 1) v f ∧ BxE wr w.heap.size k s (.slice a n c) 59 ∧ BxE wr (w.heap.size + 1) 0 .empty (.slice none 0 0) 59 ∧ BxE wr (w.heap.size + 1 + 1) k s v 59 ∧ Below w.heap.size w wr

end Go.Proofs.YtpmncjeccemgfaaGreat
