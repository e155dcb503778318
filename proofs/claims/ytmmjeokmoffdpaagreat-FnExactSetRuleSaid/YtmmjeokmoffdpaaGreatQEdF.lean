/-
  The program's changes of the sources of a project: the closures of SetSource and RemoveSource, and the two functions.
-/
import Derived.Test.YtmmjeokmoffdpaaGreatQEdI
import Derived.Test.YtmmjeokmoffdpaaGreatQPutI
import Derived.Deep.RegionLaw
namespace Go.Proofs.YtmmjeokmoffdpaaGreat
set_option linter.unusedVariables false
set_option linter.unusedSimpArgs false
open Go.RowKit

/-- where the change of the sources leaves the project -/
theorem chF_mk {W w1 : World} {g n2 c1 c2 : Nat} {a1 a2 : Option Addr} {fs' : List Fl} {rs : List Ru} {u : Value} {b : Bool} (hbx : BxP w1 g u (.slice a2 n2 c2) 36) (hr : RuAt W 0 g rs a2 n2) (hnc : n2 ≤ c2) (hB : Below W.heap.size W w1) (hg : g < W.heap.size) (ho : OwnsF w1 W.heap.size (.slice a1 fs'.length c1) fs') :
    ChP g fs' rs b W (.returned (.bool b)) (w1.setCell ⟨g, 0, none⟩ (.slice a1 fs'.length c1)) := by
  obtain ⟨a1', c1', e, hf⟩ := (OwnsF.set ho hg 0 (.slice a1 fs'.length c1)).form
  injection e with e1 _ e3
  subst e1 e3
  have hsz : (w1.setCell ⟨g, 0, none⟩ (.slice a1 fs'.length c1)).heap.size = w1.heap.size := by simp [World.setCell]
  refine ⟨a1, _, c1, a2, n2, c2, rfl, hbx.set0 _, fun _ => ⟨hf, ?_, hnc⟩, grown_set (World.grownBy.mk hB.os hB.tape hB.output hB.size fun i hi _ => hB.block i hi) (.inl rfl) _⟩
  exact ((hr.below (hB.mono (Nat.le_of_lt hg))).setCell (.inr (Nat.le_refl g)) 0 _).more (Nat.le_refl _) (by rw [hsz]; have := hB.size; omega)

/-- what SetSource answers -/
def setSrcR (f : Fl) (fs : List Fl) (rs : List Ru) : List Fl × List Ru × Bool := if projB fs rs = true ∧ projB (putF f fs) rs = true then (putF f fs, rs, true) else ([], [], false)
/-- what RemoveSource answers -/
def delSrcR (x : ByteArray) (fs : List Fl) (rs : List Ru) : List Fl × List Ru × Bool := if projB fs rs = true ∧ hasF fs x = true ∧ projB (delU x fs) rs = true then (delU x fs, rs, true) else ([], [], false)
/-- an answer of the four edits, in one word -/
def EdR (r : List Fl × List Ru × Bool) (w : World) (e : Ending) (w' : World) : Prop := EdP r.1 r.2.1 r.2.2 w e w'
theorem proj_valid {fs : List Fl} {rs : List Ru} (h : projB fs rs = true) : validB fs = true := by
  unfold projB at h
  simp only [Bool.and_eq_true] at h
  exact h.1.1
theorem setSrcR_of {f : Fl} {fs fs' : List Fl} {rs : List Ru} {b : Bool} {w w' : World} {e : Ending} (hp : projB fs rs = true) (hput : putR f fs = (fs', b)) (h : (if b = true ∧ projB fs' rs = true then EdP fs' rs true w else EdP [] [] false w) e w') : EdR (setSrcR f fs rs) w e w' := by
  unfold EdR setSrcR
  by_cases hv : validB (putF f fs) = true
  · rw [putR_fine (proj_valid hp) hv] at hput
    cases hput
    by_cases h2 : projB (putF f fs) rs = true
    · rw [if_pos ⟨hp, h2⟩]; rwa [if_pos ⟨rfl, h2⟩] at h
    · rw [if_neg (fun h => h2 h.2)]; rwa [if_neg (fun h => h2 h.2)] at h
  · rw [putR_not (by simpa using hv)] at hput
    cases hput
    rw [if_neg (fun h => hv (proj_valid h.2))]
    rwa [if_neg (fun h => by cases h.1)] at h
theorem delSrcR_of {x : ByteArray} {fs fs' : List Fl} {rs : List Ru} {b : Bool} {w w' : World} {e : Ending} (hp : projB fs rs = true) (hput : delR x fs = (fs', b)) (h : (if b = true ∧ projB fs' rs = true then EdP fs' rs true w else EdP [] [] false w) e w') : EdR (delSrcR x fs rs) w e w' := by
  unfold EdR delSrcR
  by_cases hv : hasF fs x = true
  · rw [delR_fine (proj_valid hp) hv] at hput
    cases hput
    by_cases h2 : projB (delU x fs) rs = true
    · rw [if_pos ⟨hp, hv, h2⟩]; rwa [if_pos ⟨rfl, h2⟩] at h
    · rw [if_neg (fun h => h2 h.2.2)]; rwa [if_neg (fun h => h2 h.2)] at h
  · rw [delR_not (by simpa using hv)] at hput
    cases hput
    rw [if_neg (fun h => hv h.2.1)]
    rwa [if_neg (fun h => by cases h.1)] at h
end Go.Proofs.YtmmjeokmoffdpaaGreat
