/-
  What an argument of the laws' type of rules reads as: a target and an expression. Over whatever program.
-/
import Derived.Test.YtmmjeokmoffdpaaGreatQOpenP
namespace Go.Proofs.YtmmjeokmoffdpaaGreat
set_option linter.unusedVariables false
open Go.ChangeShapes Go.WideShapes Go.Deep Go.RowKit Go.Joins

/-- a rule by value -/
theorem open_rule {H : Type} {enc : TypeId × Value → H} {P : Program} {W : World} {r : Reach} {b0 : Nat} {eR tE eE : TypeId} {v : Value} {d : DataW H} {p : List MemPlace} {g0 g1 f0 f1 f2 : Field}
    (heR : P.underlying eR = some (.struct #[g0, g1])) (hg0 : P.underlying g0.type = some .string) (hg1 : g1.type = eE) (o0 : g0.offset = 0) (o1 : g1.offset = 1) (k0 : P.cellsOf g0.type = 1) (hCR : P.cellsOf eR = 4)
    (htE : P.underlying tE = some (.slice eE)) (he : P.underlying eE = some (.struct #[f0, f1, f2])) (h0 : P.underlying f0.type = some (.int .i64)) (h1 : P.underlying f1.type = some .string) (h2 : f2.type = tE)
    (hone : oneCellFields P #[f0, f1, f2] = true) (hC : P.cellsOf eE = 3) (hv : Value.okWide P W r b0 eR v) (h : DataW.Trod enc P W 0 (fun _ => true) true eR v d p) :
    ∃ (t : ByteArray) (k : Int) (s : ByteArray) (ks : Fo) (a : Option Addr) (n c : Nat), v = .agg #[.string t, .int .i64 k, .string s, .slice a n c] ∧ KA W 0 W.heap.size ks a n ∧ ks.Fits ∧ t.size ≤ maxLen ∧ s.size ≤ maxLen ∧ n ≤ c ∧ n ≤ maxLen := by
  obtain ⟨cs, rfl, hsz⟩ := okWide_struct heR hv
  obtain ⟨c0, c1, c2, c3, rfl⟩ := array4 (hsz.trans hCR)
  obtain ⟨fuel, hf⟩ := h
  obtain ⟨y0, y1, n, _, _, q0, q1⟩ := trod_struct2 heR hf
  have q0 : DataW.trod enc P W 0 (fun _ => true) true n g0.type [c0] = some y0 := by simpa [Value.cells, o0, k0] using q0
  have q1 : DataW.trod enc P W 0 (fun _ => true) true n eE [c1, c2, c3] = some y1 := by simpa [Value.cells, o1, hg1, hC] using q1
  obtain ⟨t, e0, _, htl⟩ := DataW.trod_string hg0 q0
  obtain ⟨z0, z1, z2, m, _, _, s0, s1, s2⟩ := trod_struct3 he q1
  obtain ⟨p0, r0⟩ := hone_of hone 0 f0 rfl
  obtain ⟨p1, r1⟩ := hone_of hone 1 f1 rfl
  obtain ⟨p2, r2⟩ := hone_of hone 2 f2 rfl
  have s0 : DataW.trod enc P W 0 (fun _ => true) true m f0.type [c1] = some z0 := by simpa [p0, r0] using s0
  have s1 : DataW.trod enc P W 0 (fun _ => true) true m f1.type [c2] = some z1 := by simpa [p1, r1] using s1
  have s2 : DataW.trod enc P W 0 (fun _ => true) true m tE [c3] = some z2 := by rw [h2] at r2; simpa [p2, r2, h2] using s2
  obtain ⟨k, e1, _, _⟩ := DataW.trod_int h0 s0
  obtain ⟨s, e2, _, hsl⟩ := DataW.trod_string h1 s1
  obtain ⟨a, n', c, ks, e3, hka, hkf, hmc, hml⟩ := open_exprs htE he h0 h1 h2 hone hC _ _ _ s2
  simp only [List.cons.injEq, and_true] at e0 e1 e2 e3
  subst e0 e1 e2 e3
  exact ⟨t, k, s, ks, a, n', c, rfl, hka, hkf, htl, hsl, hmc, hml⟩
end Go.Proofs.YtmmjeokmoffdpaaGreat
