/-
  What an argument of the laws' type of expressions reads as: a node with a list of operands. Over whatever program.
-/
import Derived.Test.YtmmjeokmoffdpaaGreatGone
import Derived.Deep.Slices
import Derived.Deep.Fields
import Derived.ChangeSame
import Derived.OpenShut
import Derived.Lib.SmallJoins
namespace Go.Proofs.YtmmjeokmoffdpaaGreat
set_option linter.unusedVariables false
open Go.ChangeShapes Go.WideShapes Go.Deep Go.RowKit Go.Joins

theorem one_of {cs : List Value} {j : Nat} {v : Value} (hv : cs[j]? = some v) : (cs.drop j).take 1 = [v] := by
  obtain ⟨hl, he⟩ := List.getElem?_eq_some_iff.1 hv
  rw [List.drop_eq_getElem_cons hl, he]
  rfl
/-- a list of expressions that reads, opened -/
theorem open_exprs {H : Type} {enc : TypeId × Value → H} {P : Program} {w : World} {sp : Nat → Bool} {held : Bool} {t e : TypeId} {f0 f1 f2 : Field}
    (ht : P.underlying t = some (.slice e)) (he : P.underlying e = some (.struct #[f0, f1, f2])) (h0 : P.underlying f0.type = some (.int .i64)) (h1 : P.underlying f1.type = some .string) (h2 : f2.type = t)
    (hone : oneCellFields P #[f0, f1, f2] = true) (hC : P.cellsOf e = 3) :
    ∀ (fuel : Nat) (cs : List Value) (x : DataW H × List MemPlace), DataW.trod enc P w 0 sp held fuel t cs = some x → ∃ a n c f, cs = [.slice a n c] ∧ KA w 0 w.heap.size f a n ∧ f.Fits ∧ n ≤ c ∧ n ≤ maxLen := by
  intro fuel
  induction fuel using Nat.strongRecOn with
  | _ fuel ih =>
    intro cs x h
    rcases DataW.trod_slice ht h with ⟨rfl, _⟩ | ⟨a, len, cap, elems, rest, n, hfu, rfl, _, hb, hl, hm, hlen, hel, _, _⟩
    · exact ⟨none, 0, 0, .nil, rfl, KA.nil, trivial, Nat.le_refl _, by unfold maxLen; omega⟩
    · have hget : ∀ i, i < len → ∃ (k : Int) (s : ByteArray) (ks : Fo), (w.cell? (a.add (i * 3)) = some (.int .i64 k) ∧ w.cell? (a.add (i * 3 + 1)) = some (.string s) ∧ ∃ a' n' c', w.cell? (a.add (i * 3 + 2)) = some (.slice a' n' c') ∧ n' ≤ c' ∧ KA w 0 w.heap.size ks a' n') ∧ s.size ≤ maxLen ∧ ks.len ≤ maxLen ∧ ks.Fits := by
        intro i hi
        have hb1 := hel i hi
        rw [List.getElem?_eq_getElem (by omega), hC] at hb1
        obtain ⟨cs', hc, ht'⟩ := Option.bind_eq_some_iff.1 hb1
        obtain ⟨ys, n', hn', _, hlen', hyl, hf⟩ := DataW.trod_struct he ht'
        rw [hC] at hlen'
        obtain ⟨_, hcl, hat⟩ := World.cells?_some hc
        obtain ⟨o0, k0⟩ := hone_of hone 0 f0 rfl
        obtain ⟨o1, k1⟩ := hone_of hone 1 f1 rfl
        obtain ⟨o2, k2⟩ := hone_of hone 2 f2 rfl
        have g0 := hf 0 f0 rfl
        have g1 := hf 1 f1 rfl
        have g2 := hf 2 f2 rfl
        have hy0 : ys[0]? = some (ys[0]'(by simp at hyl; omega)) := List.getElem?_eq_getElem _
        have hy1 : ys[1]? = some (ys[1]'(by simp at hyl; omega)) := List.getElem?_eq_getElem _
        have hy2 : ys[2]? = some (ys[2]'(by simp at hyl; omega)) := List.getElem?_eq_getElem _
        have v0 : cs'[0]? = some (cs'[0]'(by omega)) := List.getElem?_eq_getElem _
        have v1 : cs'[1]? = some (cs'[1]'(by omega)) := List.getElem?_eq_getElem _
        have v2 : cs'[2]? = some (cs'[2]'(by omega)) := List.getElem?_eq_getElem _
        rw [o0, k0, one_of v0, hy0] at g0
        rw [o1, k1, one_of v1, hy1] at g1
        rw [o2, k2, one_of v2, hy2, h2] at g2
        obtain ⟨k, e0, _, _⟩ := DataW.trod_int h0 g0
        obtain ⟨s, e1, _, hsl⟩ := DataW.trod_string h1 g1
        obtain ⟨a', m, c', ks, e2, hka, hkf, hmc, hml⟩ := ih n' (by omega) _ _ g2
        simp only [List.cons.injEq, and_true] at e0 e1 e2
        rw [e0] at v0
        rw [e1] at v1
        rw [e2] at v2
        refine ⟨k, s, ks, ⟨?_, ?_, a', m, c', ?_, hmc, hka⟩, hsl, by rw [hka.1]; exact hml, hkf⟩
        · have := hat 0 (by omega); rw [v0] at this; rwa [Go.Deep.add_add] at this
        · have := hat 1 (by omega); rw [v1] at this; rwa [Go.Deep.add_add] at this
        · have := hat 2 (by omega); rw [v2] at this; rwa [Go.Deep.add_add] at this
      let F : Nat → Int × ByteArray × Fo := fun i => if hi : i < len then ((hget i hi).choose, (hget i hi).choose_spec.choose, (hget i hi).choose_spec.choose_spec.choose) else (0, .empty, .nil)
      have hF : ∀ i, i < len → (w.cell? (a.add (i * 3)) = some (.int .i64 (F i).1) ∧ w.cell? (a.add (i * 3 + 1)) = some (.string (F i).2.1) ∧ ∃ a' n' c', w.cell? (a.add (i * 3 + 2)) = some (.slice a' n' c') ∧ n' ≤ c' ∧ KA w 0 w.heap.size (F i).2.2 a' n') ∧ (F i).2.1.size ≤ maxLen ∧ (F i).2.2.len ≤ maxLen ∧ (F i).2.2.Fits := by
        intro i hi
        have h := (hget i hi).choose_spec.choose_spec.choose_spec
        simp only [F, dif_pos hi]
        exact h
      refine ⟨some a, len, cap, Fo.ofFn F len 0, rfl, ⟨Fo.ofFn_len F len 0, fun hn => ?_⟩, Fo.ofFn_fits F fun j _ hj => (hF j (by omega)).2, hl, by omega⟩
      obtain ⟨b, off, spot⟩ := a
      have hc0 := (hF 0 hn).1.1
      have hspot : spot = none := by simpa [Addr.add] using World.cell?_spot hc0
      subst hspot
      refine ⟨b, off, rfl, Nat.zero_le _, World.block_lt_of_cell? w ⟨b, off, none⟩ (by simpa [Addr.add] using hc0), seg_of fun j k s ks hg => ?_⟩
      obtain ⟨hj, hx⟩ := Fo.ofFn_get F hg
      rw [Nat.zero_add] at hx
      obtain ⟨c1, c2, a', n', c', c3, hmc, hka⟩ := (hF j hj).1
      rw [← hx] at c1 c2 hka
      rw [add_none] at c1 c2 c3
      exact ⟨c1, c2, a', n', c', c3, hmc, hka⟩

/-- an expression by value -/
theorem open_expr {H : Type} {enc : TypeId × Value → H} {P : Program} {W : World} {r : Reach} {b0 : Nat} {t e : TypeId} {v : Value} {d : DataW H} {p : List MemPlace} {f0 f1 f2 : Field}
    (ht : P.underlying t = some (.slice e)) (he : P.underlying e = some (.struct #[f0, f1, f2])) (h0 : P.underlying f0.type = some (.int .i64)) (h1 : P.underlying f1.type = some .string) (h2 : f2.type = t)
    (hone : oneCellFields P #[f0, f1, f2] = true) (hC : P.cellsOf e = 3) (hv : Value.okWide P W r b0 e v) (h : DataW.Trod enc P W 0 (fun _ => true) true e v d p) :
    ∃ (k : Int) (s : ByteArray) (ks : Fo) (a : Option Addr) (n c : Nat), v = .agg #[.int .i64 k, .string s, .slice a n c] ∧ KA W 0 W.heap.size ks a n ∧ ks.Fits ∧ s.size ≤ maxLen ∧ n ≤ c ∧ n ≤ maxLen := by
  obtain ⟨v0, v1, v2, y0, y1, y2, n, rfl, _, _, hy0, hy1, hy2⟩ := open_agg3 he hone hC hv h
  obtain ⟨k, e0, _, _⟩ := DataW.trod_int h0 hy0
  obtain ⟨s, e1, _, hsl⟩ := DataW.trod_string h1 hy1
  rw [h2] at hy2
  obtain ⟨a, m, c, ks, e2, hka, hkf, hmc, hml⟩ := open_exprs ht he h0 h1 h2 hone hC _ _ _ hy2
  simp only [List.cons.injEq, and_true] at e0 e1 e2
  subst e0
  subst e1
  subst e2
  exact ⟨k, s, ks, a, m, c, rfl, hka, hkf, hsl, hmc, hml⟩
end Go.Proofs.YtmmjeokmoffdpaaGreat
