/-
  What an argument of the laws' type of projects reads as: a list of files and a list of rules. Over whatever program.
-/
import Derived.Test.YtmmjeokmoffdpaaGreatQOpenT
import Derived.Test.YtmmjeokmoffdpaaGreatQOpen
import Derived.Test.YtmmjeokmoffdpaaGreatGone
namespace Go.Proofs.YtmmjeokmoffdpaaGreat
set_option linter.unusedVariables false
open Go.ChangeShapes Go.WideShapes Go.Deep Go.RowKit Go.Joins

set_option maxHeartbeats 400000 in
theorem open_rules {H : Type} {enc : TypeId × Value → H} {P : Program} {w : World} {sp : Nat → Bool} {held : Bool} {tR eR tE eE : TypeId} {g0 g1 f0 f1 f2 : Field}
    (ht : P.underlying tR = some (.slice eR)) (heR : P.underlying eR = some (.struct #[g0, g1])) (hg0 : P.underlying g0.type = some .string) (hg1 : g1.type = eE) (o0 : g0.offset = 0) (o1 : g1.offset = 1) (k0 : P.cellsOf g0.type = 1) (hCR : P.cellsOf eR = 4)
    (htE : P.underlying tE = some (.slice eE)) (he : P.underlying eE = some (.struct #[f0, f1, f2])) (h0 : P.underlying f0.type = some (.int .i64)) (h1 : P.underlying f1.type = some .string) (h2 : f2.type = tE)
    (hone : oneCellFields P #[f0, f1, f2] = true) (hC : P.cellsOf eE = 3) (fuel : Nat) (cs : List Value) (x : DataW H × List MemPlace) (h : DataW.trod enc P w 0 sp held fuel tR cs = some x) :
    ∃ a n c rs, cs = [.slice a n c] ∧ RuAt w 0 w.heap.size rs a n ∧ RuFits rs ∧ n ≤ c ∧ n ≤ maxLen := by
  rcases DataW.trod_slice ht h with ⟨rfl, _⟩ | ⟨a, len, cap, elems, rest, n, hfu, rfl, _, hb, hl, hm, hlen, hel, _, _⟩
  · exact ⟨none, 0, 0, [], rfl, ⟨rfl, fun h => absurd h (by omega)⟩, fun x hx => by simp at hx, Nat.le_refl _, by unfold maxLen; omega⟩
  · have hget : ∀ i, i < len → ∃ (t : ByteArray) (k : Int) (s : ByteArray) (ks : Fo), (w.cell? (a.add (i * 4)) = some (.string t) ∧ w.cell? (a.add (i * 4 + 1)) = some (.int .i64 k) ∧ w.cell? (a.add (i * 4 + 2)) = some (.string s) ∧ ∃ a' n' c', w.cell? (a.add (i * 4 + 3)) = some (.slice a' n' c') ∧ n' ≤ c' ∧ KA w 0 w.heap.size ks a' n') ∧ t.size ≤ maxLen ∧ s.size ≤ maxLen ∧ ks.len ≤ maxLen ∧ ks.Fits := by
      intro i hi
      have hb1 := hel i hi
      rw [List.getElem?_eq_getElem (by omega), hCR] at hb1
      obtain ⟨cs', hc, ht'⟩ := Option.bind_eq_some_iff.1 hb1
      obtain ⟨ys, n', hn', _, hlen', hyl, hf⟩ := DataW.trod_struct heR ht'
      rw [hCR] at hlen'
      obtain ⟨_, hcl, hat⟩ := World.cells?_some hc
      have q0 := hf 0 g0 rfl
      have q1 := hf 1 g1 rfl
      have hy0 : ys[0]? = some (ys[0]'(by simp at hyl; omega)) := List.getElem?_eq_getElem _
      have hy1 : ys[1]? = some (ys[1]'(by simp at hyl; omega)) := List.getElem?_eq_getElem _
      have v0 : cs'[0]? = some (cs'[0]'(by omega)) := List.getElem?_eq_getElem _
      have v1 : cs'[1]? = some (cs'[1]'(by omega)) := List.getElem?_eq_getElem _
      have v2 : cs'[2]? = some (cs'[2]'(by omega)) := List.getElem?_eq_getElem _
      have v3 : cs'[3]? = some (cs'[3]'(by omega)) := List.getElem?_eq_getElem _
      rw [o0, k0, one_of v0, hy0] at q0
      rw [o1, hg1, hC, hy1] at q1
      obtain ⟨t, e0, _, htl⟩ := DataW.trod_string hg0 q0
      obtain ⟨zs, m', hm', _, hzl, hzl2, hfz⟩ := DataW.trod_struct he q1
      obtain ⟨p0, r0⟩ := hone_of hone 0 f0 rfl
      obtain ⟨p1, r1⟩ := hone_of hone 1 f1 rfl
      obtain ⟨p2, r2⟩ := hone_of hone 2 f2 rfl
      have s0 := hfz 0 f0 rfl
      have s1 := hfz 1 f1 rfl
      have s2 := hfz 2 f2 rfl
      have hz0 : zs[0]? = some (zs[0]'(by simp at hzl2; omega)) := List.getElem?_eq_getElem _
      have hz1 : zs[1]? = some (zs[1]'(by simp at hzl2; omega)) := List.getElem?_eq_getElem _
      have hz2 : zs[2]? = some (zs[2]'(by simp at hzl2; omega)) := List.getElem?_eq_getElem _
      have u0 : ((cs'.drop 1).take 3)[0]? = some (cs'[1]'(by omega)) := by simp [v1]
      have u1 : ((cs'.drop 1).take 3)[1]? = some (cs'[2]'(by omega)) := by simp [v2]
      have u2 : ((cs'.drop 1).take 3)[2]? = some (cs'[3]'(by omega)) := by simp [v3]
      rw [p0, r0, one_of u0, hz0] at s0
      rw [p1, r1, one_of u1, hz1] at s1
      rw [p2, r2, one_of u2, hz2, h2] at s2
      obtain ⟨k, e1, _, _⟩ := DataW.trod_int h0 s0
      obtain ⟨s, e2, _, hsl⟩ := DataW.trod_string h1 s1
      obtain ⟨a', m, c', ks, e3, hka, hkf, hmc, hml⟩ := open_exprs htE he h0 h1 h2 hone hC _ _ _ s2
      simp only [List.cons.injEq, and_true] at e0 e1 e2 e3
      rw [e0] at v0
      rw [e1] at v1
      rw [e2] at v2
      rw [e3] at v3
      refine ⟨t, k, s, ks, ⟨?_, ?_, ?_, a', m, c', ?_, hmc, hka⟩, htl, hsl, by rw [hka.1]; exact hml, hkf⟩
      · have := hat 0 (by omega); rw [v0] at this; rwa [Go.Deep.add_add] at this
      · have := hat 1 (by omega); rw [v1] at this; rwa [Go.Deep.add_add] at this
      · have := hat 2 (by omega); rw [v2] at this; rwa [Go.Deep.add_add] at this
      · have := hat 3 (by omega); rw [v3] at this; rwa [Go.Deep.add_add] at this
    let F : Nat → Ru := fun i => if hi : i < len then ((hget i hi).choose, (hget i hi).choose_spec.choose, (hget i hi).choose_spec.choose_spec.choose, (hget i hi).choose_spec.choose_spec.choose_spec.choose) else (.empty, 0, .empty, .nil)
    have hF : ∀ i, i < len → (w.cell? (a.add (i * 4)) = some (.string (F i).1) ∧ w.cell? (a.add (i * 4 + 1)) = some (.int .i64 (F i).2.1) ∧ w.cell? (a.add (i * 4 + 2)) = some (.string (F i).2.2.1) ∧ ∃ a' n' c', w.cell? (a.add (i * 4 + 3)) = some (.slice a' n' c') ∧ n' ≤ c' ∧ KA w 0 w.heap.size (F i).2.2.2 a' n') ∧ (F i).1.size ≤ maxLen ∧ (F i).2.2.1.size ≤ maxLen ∧ (F i).2.2.2.len ≤ maxLen ∧ (F i).2.2.2.Fits := by
      intro i hi
      have h := (hget i hi).choose_spec.choose_spec.choose_spec.choose_spec
      simp only [F, dif_pos hi]
      exact h
    refine ⟨some a, len, cap, (List.range len).map F, rfl, ⟨by simp, fun hn => ?_⟩, fun y hy => ?_, hl, by omega⟩
    · obtain ⟨b, off, spot⟩ := a
      have hc0 := (hF 0 hn).1.1
      have hspot : spot = none := by simpa [Addr.add] using World.cell?_spot hc0
      subst hspot
      refine ⟨b, off, rfl, Nat.zero_le _, World.block_lt_of_cell? w ⟨b, off, none⟩ (by simpa [Addr.add] using hc0), fun j t k s ks hg => ?_⟩
      obtain ⟨i, hi, hFi⟩ : ∃ i, (List.range len)[j]? = some i ∧ F i = (t, k, s, ks) := by simpa [List.getElem?_map] using hg
      obtain ⟨hjl, hji⟩ := List.getElem?_eq_some_iff.1 hi
      have hij : j = i := by simpa using hji
      subst hij
      obtain ⟨c0, c1, c2, a', n', c', c3, hmc, hka⟩ := (hF j (by simpa using hjl)).1
      rw [hFi] at c0 c1 c2 hka
      rw [add_none] at c0 c1 c2 c3
      exact ⟨c0, c1, c2, a', n', c', c3, hmc, hka⟩
    · obtain ⟨i, hi, rfl⟩ := List.mem_map.1 hy
      exact (hF i (List.mem_range.1 hi)).2

/-- a project by value -/
theorem open_project {H : Type} {enc : TypeId × Value → H} {P : Program} {W : World} {r : Reach} {b0 : Nat} {e tF eF tR eR tE eE : TypeId} {v : Value} {d : DataW H} {p : List MemPlace} {q0 q1 i0 i1 g0 g1 f0 f1 f2 : Field}
    (heP : P.underlying e = some (.struct #[q0, q1])) (hq0 : q0.type = tF) (hq1 : q1.type = tR) (honeP : oneCellFields P #[q0, q1] = true) (hCP : P.cellsOf e = 2)
    (htF : P.underlying tF = some (.slice eF)) (heF : P.underlying eF = some (.struct #[i0, i1])) (hi0 : P.underlying i0.type = some .string) (hi1 : P.underlying i1.type = some .string) (honeF : oneCellFields P #[i0, i1] = true) (hCF : P.cellsOf eF = 2)
    (ht : P.underlying tR = some (.slice eR)) (heR : P.underlying eR = some (.struct #[g0, g1])) (hg0 : P.underlying g0.type = some .string) (hg1 : g1.type = eE) (o0 : g0.offset = 0) (o1 : g1.offset = 1) (k0 : P.cellsOf g0.type = 1) (hCR : P.cellsOf eR = 4)
    (htE : P.underlying tE = some (.slice eE)) (he : P.underlying eE = some (.struct #[f0, f1, f2])) (h0 : P.underlying f0.type = some (.int .i64)) (h1 : P.underlying f1.type = some .string) (h2 : f2.type = tE)
    (hone : oneCellFields P #[f0, f1, f2] = true) (hC : P.cellsOf eE = 3) (hv : Value.okWide P W r b0 e v) (h : DataW.Trod enc P W 0 (fun _ => true) true e v d p) :
    ∃ (a1 a2 : Option Addr) (n1 n2 c1 c2 : Nat) (fs : List Fl) (rs : List Ru), v = .agg #[.slice a1 n1 c1, .slice a2 n2 c2] ∧ FilesAt W W.heap.size a1 n1 fs ∧ Fits fs ∧ n1 ≤ maxLen ∧ RuAt W 0 W.heap.size rs a2 n2 ∧ RuFits rs ∧ n2 ≤ maxLen := by
  obtain ⟨v0, v1, y0, y1, n, rfl, _, _, hy0, hy1⟩ := open_agg2 heP honeP hCP hv h
  rw [hq0] at hy0
  rw [hq1] at hy1
  obtain ⟨a2, n2, c2, rs, e2, hra, hrf, _, hn2⟩ := open_rules ht heR hg0 hg1 o0 o1 k0 hCR htE he h0 h1 h2 hone hC _ _ _ hy1
  simp only [List.cons.injEq, and_true] at e2
  subst e2
  have hs0 : ∃ a1 n1 c1, v0 = .slice a1 n1 c1 := by
    rcases DataW.trod_slice htF hy0 with ⟨e, _⟩ | ⟨a, len, cap, elems, rest, n, hfu, e, _⟩
    · exact ⟨none, 0, 0, by simpa using e⟩
    · exact ⟨some a, len, cap, by simpa using e⟩
  obtain ⟨a1, n1, c1, rfl⟩ := hs0
  obtain ⟨fs, hfa, hff, hn1⟩ := open_files (d := y0.1) (p := y0.2) htF heF hi0 hi1 honeF hCF ⟨n, by simpa [Value.cells] using hy0⟩
  exact ⟨a1, a2, n1, n2, c1, c2, fs, rs, rfl, hfa, hff, hn1, hra, hrf, hn2⟩
end Go.Proofs.YtmmjeokmoffdpaaGreat
