/-
  What functions leave that hand back a list of files and a bool.
-/
import Derived.Test.YtollcckdfehdeaaFPut
namespace Go.Proofs.Ytollcckdfehdeaa
set_option linter.unusedVariables false
open Go.RowKit

theorem OwnsF.form {w : World} {base : Nat} {v : Value} {fs : List Fl} (h : OwnsF w base v fs) : ∃ a c, v = .slice a fs.length c ∧ FilesAt w w.heap.size a fs.length fs := by
  rcases h.2 with ⟨rfl, h0⟩ | ⟨g, cap, cur, rfl, hb, hg, hn, hc, hs, ht⟩
  · exact ⟨none, 0, by rw [h0], rfl, fun hn => absurd hn (by omega)⟩
  · refine ⟨_, _, rfl, rfl, fun _ => ⟨g, 0, rfl, blk_lt hg, fun j u hu => ?_⟩⟩
    have := World.ownsRow.cells h (g := g) rfl j u hu
    rwa [add_none] at this

/-- what a function leaves that hands back a new list and a bool -/
def ListB (r : List Fl × Bool) (w : World) (e : Ending) (w' : World) : Prop :=
  ∃ v, e = .returned (.tuple #[v, .bool r.2]) ∧ OwnsF w' w.heap.size v r.1 ∧ Below w.heap.size w w'
theorem ListB.none {r : List Fl × Bool} {w w' : World} (h : r = ([], false)) (hb : Below w.heap.size w w') : ListB r w (.returned (.tuple #[.slice none 0 0, .bool false])) w' := by
  subst h
  exact ⟨_, rfl, World.ownsRow_nil _ _ _ _, hb⟩
theorem ListB.some {r : List Fl × Bool} {gs : List Fl} {v : Value} {w w' : World} (h : r = (gs, true)) (ho : OwnsF w' w.heap.size v gs) (hb : Below w.heap.size w w') : ListB r w (.returned (.tuple #[v, .bool true])) w' := by
  subst h
  exact ⟨v, rfl, ho, hb⟩
theorem ListB.empty {r : List Fl × Bool} {v : Value} {w w' : World} (h : r = ([], false)) (ho : OwnsF w' w.heap.size v []) (hb : Below w.heap.size w w') : ListB r w (.returned (.tuple #[v, .bool false])) w' := by
  subst h
  exact ⟨v, rfl, ho, hb⟩
theorem FilesAt.in1 {w : World} {a : Option Addr} {n : Nat} {fs : List Fl} (h : FilesAt w w.heap.size a n fs) (o : Obj) : FilesAt (w.alloc o) (w.alloc o).heap.size a n fs := (h.alloc (Nat.le_refl _) o).more (by simp)
theorem own_raise {w w' : World} {B : Nat} {v : Value} {fs : List Fl} (h : OwnsF w B v fs) (hb : Below w.heap.size w w') : OwnsF w' B v fs := by
  refine ⟨h.1, h.2.imp id ?_⟩
  rintro ⟨g, cap, cur, e1, h1, h2, r⟩
  exact ⟨g, cap, cur, e1, h1, (hb.block g (blk_lt h2)).trans h2, r⟩
theorem own_lower {w : World} {B C : Nat} {v : Value} {fs : List Fl} (h : OwnsF w B v fs) (hc : C ≤ B) : OwnsF w C v fs := World.ownsRow.mono h hc

/-- what a function leaves that hands back a readable list and a bool -/
def ListR (xs : List Fl) (xb : Bool) (w : World) (e : Ending) (w' : World) : Prop :=
  ∃ a c, e = .returned (.tuple #[.slice a xs.length c, .bool xb]) ∧ FilesAt w' w'.heap.size a xs.length xs ∧ Below w.heap.size w w'
theorem ListB.open {r : List Fl × Bool} {xs : List Fl} {xb : Bool} {w : World} {e : Ending} {w' : World} (h : ListB r w e w') (hr : r = (xs, xb)) : ListR xs xb w e w' := by
  subst hr
  obtain ⟨v, rfl, ho, hb⟩ := h
  obtain ⟨a, c, rfl, hf⟩ := ho.form
  exact ⟨a, c, rfl, hf, hb⟩

/-- what a function leaves that hands back a list of its own and a bool -/
def ListO (xs : List Fl) (xb : Bool) (w : World) (e : Ending) (w' : World) : Prop :=
  ∃ a c, e = .returned (.tuple #[.slice a xs.length c, .bool xb]) ∧ OwnsF w' w.heap.size (.slice a xs.length c) xs ∧ Below w.heap.size w w'
theorem ListB.openO {r : List Fl × Bool} {xs : List Fl} {xb : Bool} {w : World} {e : Ending} {w' : World} (h : ListB r w e w') (hr : r = (xs, xb)) : ListO xs xb w e w' := by
  subst hr
  obtain ⟨v, rfl, ho, hb⟩ := h
  obtain ⟨a, c, rfl, hf⟩ := ho.form
  exact ⟨a, c, rfl, ho, hb⟩

end Go.Proofs.Ytollcckdfehdeaa
