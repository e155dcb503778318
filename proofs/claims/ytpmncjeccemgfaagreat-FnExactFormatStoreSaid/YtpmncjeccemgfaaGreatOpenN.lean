/-
  What an argument of the laws' type of entries reads as, by value and in a slice. Over whatever program.
-/
import Derived.Test.YtpmncjeccemgfaaGreatOpen
import Derived.Test.YtpmncjeccemgfaaGreatEn
namespace Go.Proofs.YtpmncjeccemgfaaGreat
set_option linter.unusedVariables false
open Go.ChangeShapes Go.WideShapes Go.Deep Go.RowKit Go.Joins

theorem open_files_of {H : Type} {enc : TypeId × Value → H} {P : Program} {W : World} {t e : TypeId} {v : Value} {n : Nat} {y : DataW H × List MemPlace} {f0 f1 : Field}
    (ht : P.underlying t = some (.slice e)) (he : P.underlying e = some (.struct #[f0, f1])) (h0 : P.underlying f0.type = some .string) (h1 : P.underlying f1.type = some .string)
    (hone : oneCellFields P #[f0, f1] = true) (hC : P.cellsOf e = 2) (h : DataW.trod enc P W 0 (fun _ => true) true n t [v] = some y) :
    ∃ a m c fs, v = .slice a m c ∧ m ≤ c ∧ FilesAt W W.heap.size a m fs ∧ Fits fs ∧ m ≤ maxLen := by
  have hs0 : ∃ a1 n1 c1, v = .slice a1 n1 c1 ∧ n1 ≤ c1 := by
    rcases DataW.trod_slice ht h with ⟨e, _⟩ | ⟨a, len, cap, elems, rest, n, hfu, e, _, _, hl, _⟩
    · exact ⟨none, 0, 0, by simpa using e, Nat.le_refl _⟩
    · exact ⟨some a, len, cap, by simpa using e, hl⟩
  obtain ⟨a1, n1, c1, rfl, hl⟩ := hs0
  obtain ⟨fs, hfa, hff, hn1⟩ := open_files (d := y.1) (p := y.2) ht he h0 h1 hone hC ⟨n, by simpa [Value.cells] using h⟩
  exact ⟨a1, n1, c1, fs, rfl, hl, hfa, hff, hn1⟩

/-- an entry by value -/
theorem open_entry {H : Type} {enc : TypeId × Value → H} {P : Program} {W : World} {r : Reach} {b0 : Nat} {e tF eF : TypeId} {v : Value} {d : DataW H} {p : List MemPlace} {q0 q1 q2 q3 i0 i1 : Field}
    (heP : P.underlying e = some (.struct #[q0, q1, q2, q3])) (hq0 : P.underlying q0.type = some .string) (hq1 : P.underlying q1.type = some .string) (hq2 : q2.type = tF) (hq3 : P.underlying q3.type = some .string) (honeP : oneCellFields P #[q0, q1, q2, q3] = true) (hCP : P.cellsOf e = 4)
    (htF : P.underlying tF = some (.slice eF)) (heF : P.underlying eF = some (.struct #[i0, i1])) (hi0 : P.underlying i0.type = some .string) (hi1 : P.underlying i1.type = some .string) (honeF : oneCellFields P #[i0, i1] = true) (hCF : P.cellsOf eF = 2)
    (hv : Value.okWide P W r b0 e v) (h : DataW.Trod enc P W 0 (fun _ => true) true e v d p) :
    ∃ (t s : ByteArray) (fs : List Fl) (x : ByteArray) (a : Option Addr) (n c : Nat), v = .agg #[.string t, .string s, .slice a n c, .string x] ∧ FilesAt W W.heap.size a n fs ∧ EnFit (t, s, fs, x) ∧ n ≤ c := by
  obtain ⟨v0, v1, v2, v3, y0, y1, y2, y3, n, rfl, _, _, hy0, hy1, hy2, hy3⟩ := open_agg4 heP honeP hCP hv h
  obtain ⟨t, e0, _, hl0⟩ := DataW.trod_string hq0 hy0
  obtain ⟨s, e1, _, hl1⟩ := DataW.trod_string hq1 hy1
  obtain ⟨x, e3, _, hl3⟩ := DataW.trod_string hq3 hy3
  rw [hq2] at hy2
  obtain ⟨a, m, c, fs, rfl, hmc, hfa, hff, hml⟩ := open_files_of htF heF hi0 hi1 honeF hCF hy2
  simp only [List.cons.injEq, and_true] at e0 e1 e3
  subst e0
  subst e1
  subst e3
  exact ⟨t, s, fs, x, a, m, c, rfl, hfa, ⟨hl0, hl1, by rw [hfa.1]; exact hml, hff, hl3⟩, hmc⟩

/-- a slice of entries -/
theorem open_entries {H : Type} {enc : TypeId × Value → H} {P : Program} {W : World} {tE e tF eF : TypeId} {a : Option Addr} {len cap : Nat} {d : DataW H} {p : List MemPlace} {q0 q1 q2 q3 i0 i1 : Field}
    (htE : P.underlying tE = some (.slice e)) (heP : P.underlying e = some (.struct #[q0, q1, q2, q3])) (hq0 : P.underlying q0.type = some .string) (hq1 : P.underlying q1.type = some .string) (hq2 : q2.type = tF) (hq3 : P.underlying q3.type = some .string) (honeP : oneCellFields P #[q0, q1, q2, q3] = true) (hCP : P.cellsOf e = 4)
    (htF : P.underlying tF = some (.slice eF)) (heF : P.underlying eF = some (.struct #[i0, i1])) (hi0 : P.underlying i0.type = some .string) (hi1 : P.underlying i1.type = some .string) (honeF : oneCellFields P #[i0, i1] = true) (hCF : P.cellsOf eF = 2)
    (h : DataW.Trod enc P W 0 (fun _ => true) true tE (.slice a len cap) d p) :
    ∃ es, EnAt W 0 W.heap.size es a len ∧ EnFits es ∧ len ≤ maxLen := by
  obtain ⟨fuel, hf⟩ := h
  rcases open_rows htE heP honeP hCP hf with hcs | ⟨x, l, c, hcs, hl, hm, hcell⟩
  · simp [Value.cells] at hcs
    obtain ⟨rfl, rfl, rfl⟩ := hcs
    exact ⟨[], ⟨rfl, fun hn => absurd hn (by omega)⟩, fun f hf => by simp at hf, by unfold maxLen; omega⟩
  · simp [Value.cells] at hcs
    obtain ⟨rfl, rfl, rfl⟩ := hcs
    have hget : ∀ i, i < len → ∃ y : En, (W.cell? (x.add (i * 4)) = some (.string y.1) ∧ W.cell? (x.add (i * 4 + 1)) = some (.string y.2.1) ∧ (∃ a n c, W.cell? (x.add (i * 4 + 2)) = some (.slice a n c) ∧ n ≤ c ∧ FlIn W 0 W.heap.size a n y.2.2.1) ∧ W.cell? (x.add (i * 4 + 3)) = some (.string y.2.2.2)) ∧ EnFit y := by
      intro i hi
      obtain ⟨v0, y0, n0, hv0, hy0⟩ := hcell i hi 0 q0 rfl
      obtain ⟨v1, y1, n1, hv1, hy1⟩ := hcell i hi 1 q1 rfl
      obtain ⟨v2, y2, n2, hv2, hy2⟩ := hcell i hi 2 q2 rfl
      obtain ⟨v3, y3, n3, hv3, hy3⟩ := hcell i hi 3 q3 rfl
      obtain ⟨t, e0, _, hl0⟩ := DataW.trod_string hq0 hy0
      obtain ⟨s, e1, _, hl1⟩ := DataW.trod_string hq1 hy1
      obtain ⟨z, e3, _, hl3⟩ := DataW.trod_string hq3 hy3
      rw [hq2] at hy2
      obtain ⟨a, m, c, fs, rfl, hmc, hfa, hff, hml⟩ := open_files_of htF heF hi0 hi1 honeF hCF hy2
      simp only [List.cons.injEq, and_true] at e0 e1 e3
      subst e0
      subst e1
      subst e3
      exact ⟨(t, s, fs, z), ⟨hv0, hv1, ⟨a, m, c, hv2, hmc, FlIn.of hfa⟩, hv3⟩, hl0, hl1, by rw [hfa.1]; exact hml, hff, hl3⟩
    let F : Nat → En := fun i => if hi : i < len then (hget i hi).choose else (.empty, .empty, [], .empty)
    have hF : ∀ i, i < len → (W.cell? (x.add (i * 4)) = some (.string (F i).1) ∧ W.cell? (x.add (i * 4 + 1)) = some (.string (F i).2.1) ∧ (∃ a n c, W.cell? (x.add (i * 4 + 2)) = some (.slice a n c) ∧ n ≤ c ∧ FlIn W 0 W.heap.size a n (F i).2.2.1) ∧ W.cell? (x.add (i * 4 + 3)) = some (.string (F i).2.2.2)) ∧ EnFit (F i) := by
      intro i hi
      have h := (hget i hi).choose_spec
      simp only [F, dif_pos hi]
      exact h
    refine ⟨(List.range len).map F, ⟨by simp, fun hn => ?_⟩, fun y hy => ?_, by omega⟩
    · obtain ⟨b, off, spot⟩ := x
      have hc0 := (hF 0 hn).1.1
      have hspot : spot = none := by simpa [Addr.add] using World.cell?_spot hc0
      subst hspot
      refine ⟨b, off, rfl, Nat.zero_le _, World.block_lt_of_cell? W ⟨b, off, none⟩ (by simpa [Addr.add] using hc0), fun j y hg => ?_⟩
      obtain ⟨i, hi, hFi⟩ : ∃ i, (List.range len)[j]? = some i ∧ F i = y := by simpa [List.getElem?_map] using hg
      obtain ⟨hjl, hji⟩ := List.getElem?_eq_some_iff.1 hi
      have hij : j = i := by simpa using hji
      subst hij
      have hh := (hF j (by simpa using hjl)).1
      rw [hFi, add_none, add_none, add_none, add_none] at hh
      exact hh
    · obtain ⟨i, hi, rfl⟩ := List.mem_map.1 hy
      exact (hF i (List.mem_range.1 hi)).2
end Go.Proofs.YtpmncjeccemgfaaGreat
