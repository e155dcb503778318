/-
  Maps from strings to values of any kind, as read. No program is named here.
-/
import Derived.Test.YtahdpocaldhamaaGreatGone
import Derived.Maps.OwnSet
import Derived.Maps.StringElems
namespace Go.Proofs.YtahdpocaldhamaaGreat
set_option linter.unusedVariables false
open Go.RowKit Go.Maps

abbrev Kv := ByteArray × Value
/-- how an element of any kind reads: as itself -/
def anyElem (v : Value) : Option (DataW Value × List MemPlace) := some (.held v, [])
def entV (f : Kv) : Lit × DataW Value := (.string f.1.data.toList, .held f.2)
/-- no key stands twice -/
def OnceV (gs : List Kv) : Prop := gs.Pairwise fun a b => a.1 ≠ b.1
/-- one put in, in whatever place -/
def putV (f : Kv) (gs : List Kv) : List Kv := f :: gs.filter fun g => decide (g.1 ≠ f.1)
/-- one struck out -/
def delV (p : ByteArray) (gs : List Kv) : List Kv := gs.filter fun g => decide (g.1 ≠ p)
theorem mem_putV {f g : Kv} {gs : List Kv} : g ∈ putV f gs ↔ g = f ∨ (g ∈ gs ∧ g.1 ≠ f.1) := by simp [putV]
theorem mem_delV {p : ByteArray} {g : Kv} {gs : List Kv} : g ∈ delV p gs ↔ g ∈ gs ∧ g.1 ≠ p := by simp [delV]
theorem putV_once {f : Kv} {gs : List Kv} (h : OnceV gs) : OnceV (putV f gs) :=
  List.pairwise_cons.2 ⟨fun g hg => by have := (List.mem_filter.1 hg).2; simp at this; exact fun e => this e.symm, List.Pairwise.filter _ h⟩
theorem OnceV.inj {gs : List Kv} (h : OnceV gs) {f g : Kv} (hf : f ∈ gs) (hg : g ∈ gs) (he : f.1 = g.1) : f = g := by
  induction gs with
  | nil => cases hf
  | cons x gs ih =>
    obtain ⟨h1, h2⟩ := List.pairwise_cons.1 h
    rcases List.mem_cons.1 hf with e1 | m1 <;> rcases List.mem_cons.1 hg with e2 | m2
    · rw [e1, e2]
    · subst e1; exact absurd he (h1 _ m2)
    · subst e2; exact absurd he.symm (h1 _ m1)
    · exact ih h2 m1 m2
/-- the map D holds just these -/
def RepV (D : DataW Value) (gs : List Kv) : Prop := ∃ es, D = .map es ∧ es.Perm (gs.map entV) ∧ OnceV gs
theorem repV_empty : RepV (.map []) [] := ⟨[], rfl, .nil, List.Pairwise.nil⟩
theorem entV_filter (p : ByteArray) (gs : List Kv) : ((gs.map entV).filter fun e => !e.1.sameKey (.string p.data.toList)) = (delV p gs).map entV := by
  unfold delV
  rw [List.filter_map]
  congr 1
  refine List.filter_congr fun g _ => ?_
  show (!(Lit.string g.1.data.toList).sameKey _) = _
  rw [sameKey_str]
  by_cases h : g.1 = p
  · simp [h]
  · have : ¬ g.1.data.toList = p.data.toList := fun e => h (bytes_ext e)
    simp only [this, h, decide_false, Bool.not_false, ne_eq, not_false_eq_true, decide_true]
theorem RepV.put {D : DataW Value} {gs : List Kv} (h : RepV D gs) (p : ByteArray) (v : Value) : RepV (D.put (.string p.data.toList) (.held v)) (putV (p, v) gs) := by
  obtain ⟨es, rfl, h1, h2⟩ := h
  refine ⟨_, rfl, (insert_perm _ _).trans ?_, putV_once h2⟩
  have h3 := h1.filter fun e => !e.1.sameKey (.string p.data.toList)
  rw [entV_filter] at h3
  exact h3.cons _
theorem RepV.del {D : DataW Value} {gs : List Kv} (h : RepV D gs) (p : ByteArray) : RepV (D.del (.string p.data.toList)) (delV p gs) := by
  obtain ⟨es, rfl, h1, h2⟩ := h
  refine ⟨_, rfl, ?_, List.Pairwise.filter _ h2⟩
  have h3 := h1.filter fun e => !e.1.sameKey (.string p.data.toList)
  rwa [entV_filter] at h3
theorem RepV.has {D : DataW Value} {gs : List Kv} (h : RepV D gs) (p : ByteArray) : Maps.has D (.string p.data.toList) = gs.any fun g => decide (g.1 = p) := by
  obtain ⟨es, rfl, h1, _⟩ := h
  rw [has_eq, h1.any_eq, List.any_map]
  congr 1
  funext g
  show (Lit.string g.1.data.toList).sameKey (.string p.data.toList) = decide (g.1 = p)
  rw [sameKey_str]
  by_cases hg : g.1 = p
  · simp [hg]
  · have : ¬ g.1.data.toList = p.data.toList := fun e => hg (bytes_ext e)
    simp [hg, this]
theorem atKey_some {H : Type} {es : List (Lit × DataW H)} {k : Lit} {z : DataW H} {e : Lit × DataW H} (h : es.find? (fun e => e.1.sameKey k) = some e) : (DataW.map es).atKey k z = e.2 := by unfold DataW.atKey; simp only [h]
theorem atKey_none {H : Type} {es : List (Lit × DataW H)} {k : Lit} {z : DataW H} (h : es.find? (fun e => e.1.sameKey k) = none) : (DataW.map es).atKey k z = z := by unfold DataW.atKey; simp only [h]
theorem RepV.at_ {D : DataW Value} {gs : List Kv} (h : RepV D gs) {p : ByteArray} {v : Value} (hm : (p, v) ∈ gs) (z : DataW Value) : D.atKey (.string p.data.toList) z = .held v := by
  obtain ⟨es, rfl, h1, h2⟩ := h
  cases hf : es.find? (fun e => e.1.sameKey (.string p.data.toList)) with
  | none =>
    rw [List.find?_eq_none] at hf
    have := hf (entV (p, v)) (h1.mem_iff.2 (List.mem_map.2 ⟨_, hm, rfl⟩))
    simp [entV, sameKey_str] at this
  | some e =>
    have hk := List.find?_some hf
    obtain ⟨g, hg, rfl⟩ := List.mem_map.1 (h1.mem_iff.1 (List.mem_of_find?_eq_some hf))
    simp [entV, sameKey_str] at hk
    rw [atKey_some hf]
    obtain rfl : g = (p, v) := h2.inj hg hm (bytes_ext (by simpa using hk))
    rfl
theorem RepV.none_ {D : DataW Value} {gs : List Kv} (h : RepV D gs) {p : ByteArray} (hm : ∀ g ∈ gs, g.1 ≠ p) (z : DataW Value) : D.atKey (.string p.data.toList) z = z := by
  obtain ⟨es, rfl, h1, h2⟩ := h
  cases hf : es.find? (fun e => e.1.sameKey (.string p.data.toList)) with
  | none => exact atKey_none hf
  | some e =>
    have hk := List.find?_some hf
    obtain ⟨g, hg, rfl⟩ := List.mem_map.1 (h1.mem_iff.1 (List.mem_of_find?_eq_some hf))
    simp [entV, sameKey_str] at hk
    exact absurd (bytes_ext (by simpa using hk)) (hm g hg)
theorem run_makeMap_n {P : Program} (t k e : TypeId) (ht : P.underlying t = some (.map k e)) (n : Nat) (w : World) : (Instr.makeMap t (some (.int .i64 (n : Int)))).run P w = .ok (.map (some w.heap.size)) (w.alloc (.map #[] 0)) := by
  simp [Instr.makeMap, run_underlying ht, Result.andThen, asInt, newObj]
  rfl
end Go.Proofs.YtahdpocaldhamaaGreat
