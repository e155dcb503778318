/-
  The program's change of the rules of a project: the closure of RemoveRule, and RemoveRule.
-/
import Derived.Test.YtmmjeokmoffdpaaGreatQEdI
import Derived.Test.YtmmjeokmoffdpaaGreatQEdG
import Derived.Test.YtmmjeokmoffdpaaGreatQRuS
namespace Go.Proofs.YtmmjeokmoffdpaaGreat
set_option linter.unusedVariables false
set_option linter.unusedSimpArgs false
open Go.RowKit Go.Maps

/-- the rules without that of a target -/
def delRu (x : ByteArray) (rs : List Ru) : List Ru := rs.filter fun r => decide (r.1 ≠ x)
theorem delRu_asc {x : ByteArray} {rs : List Ru} (h : AscR rs) : AscR (delRu x rs) := List.Pairwise.filter _ h
theorem mem_delRu {x : ByteArray} {rs : List Ru} {r : Ru} : r ∈ delRu x rs ↔ r ∈ rs ∧ r.1 ≠ x := by simp [delRu]
theorem delRu_fit {x : ByteArray} {rs : List Ru} (h : RuFits rs) : RuFits (delRu x rs) := fun r hr => h r (mem_delRu.1 hr).1
theorem delRu_tot (x : ByteArray) : ∀ rs : List Ru, (delRu x rs).length + ruTot (delRu x rs) ≤ rs.length + ruTot rs
  | [] => by simp [delRu]
  | r :: rs => by
    have := delRu_tot x rs
    unfold delRu at this ⊢
    by_cases h : r.1 ≠ x
    · rw [List.filter_cons_of_pos (by simpa using h)]; simp only [List.length_cons, ruTot]; omega
    · rw [List.filter_cons_of_neg (by simpa using h)]; simp only [List.length_cons, ruTot]; omega
theorem mapR_del {x : ByteArray} {rs : List Ru} {gs : List Kv} {w : World} {B : Nat} (h1 : ∀ g ∈ gs, ∃ y ∈ rs, BodyV w B g y) (h2 : ∀ y ∈ rs, ∃ g ∈ gs, g.1 = y.1) :
    (∀ g ∈ delV x gs, ∃ y ∈ delRu x rs, BodyV w B g y) ∧ (∀ y ∈ delRu x rs, ∃ g ∈ delV x gs, g.1 = y.1) := by
  constructor
  · intro g hg
    obtain ⟨hg1, hg2⟩ := mem_delV.1 hg
    obtain ⟨y, hy, hb⟩ := h1 g hg1
    exact ⟨y, mem_delRu.2 ⟨hy, fun e => hg2 (hb.1.trans e)⟩, hb⟩
  · intro y hy
    obtain ⟨hy1, hy2⟩ := mem_delRu.1 hy
    obtain ⟨g, hg, e⟩ := h2 y hy1
    exact ⟨g, mem_delV.2 ⟨hg, fun e' => hy2 (e.symm.trans e')⟩, e⟩
/-- where the change of the rules leaves the project -/
theorem chR_mk {W w1 : World} {g n1 c1 c2 base : Nat} {a1 a2 : Option Addr} {fs : List Fl} {rs' : List Ru} {v : Value} {b : Bool} (hbx : BxP w1 g (.slice a1 n1 c1) v 36) (hf : FilesAt W g a1 n1 fs) (hr : OwnK w1 g base (.slice a2 rs'.length c2) rs') (hgb : g < base) (hnc : rs'.length ≤ c2) (hB : Below W.heap.size W w1) (hg : g < W.heap.size) :
    ChP g fs rs' b W (.returned (.bool b)) (w1.setCell ⟨g, 1, none⟩ (.slice a2 rs'.length c2)) := by
  have hsz : (w1.setCell ⟨g, 1, none⟩ (.slice a2 rs'.length c2)).heap.size = w1.heap.size := by simp [World.setCell]
  obtain ⟨a', c', e, _, hru⟩ := (hr.set (Nat.le_refl g) hgb 1 (.slice a2 rs'.length c2)).form
  injection e with e1 _ e3
  subst e1 e3
  refine ⟨a1, n1, c1, a2, _, c2, rfl, hbx.set1 _, fun _ => ⟨?_, hru, hnc⟩, grown_set (World.grownBy.mk hB.os hB.tape hB.output hB.size fun i hi _ => hB.block i hi) (.inl rfl) _⟩
  refine (((hf.below (hB.mono (Nat.le_of_lt hg))).keep fun p hp => World.cell?_of_block (Below.heap_setCell w1 ⟨g, 1, none⟩ _ p.block (by show p.block ≠ g; omega)))).more ?_
  rw [hsz]; have := hB.size; omega
end Go.Proofs.YtmmjeokmoffdpaaGreat
