/-
  Lists of rules whose bodies lie in blocks that nothing has frozen.
-/
import Derived.Test.YtceiafncpimihaaGreatQEqB
import Derived.Test.YtceiafncpimihaaGreatGtwo
namespace Go.Proofs.YtceiafncpimihaaGreat
set_option linter.unusedVariables false
set_option linter.unusedSimpArgs false
open Go.RowKit

theorem rdA_of {w : World} {L B L' B' : Nat} {f : Fo} {a : Option Addr} {n : Nat} (h1 : KA w L B f a n) (h2 : SkA w L' B' f a n) : RdA w f a n := by
  refine ⟨h1.1, fun hn => ?_⟩
  obtain ⟨b1, o1, e1, _, _, hs⟩ := h1.2 hn
  obtain ⟨b2, e2, _, _, hr, hk⟩ := h2.2 hn
  rw [e1] at e2
  cases e2
  exact ⟨b1, 0, e1, hr.pln, by have := rdF_of (f := f) (j := 0) (by simpa using hs) hk; simpa using this⟩
/-- a rule at a place -/
def RuN (w : World) (t : ByteArray) (k : Int) (s : ByteArray) (ks : Fo) (b off : Nat) : Prop := w.cell? ⟨b, off, none⟩ = some (.string t) ∧ w.cell? ⟨b, off + 1, none⟩ = some (.int .i64 k) ∧ w.cell? ⟨b, off + 2, none⟩ = some (.string s) ∧
  ∃ a n c, w.cell? ⟨b, off + 3, none⟩ = some (.slice a n c) ∧ n ≤ c ∧ RdA w ks a n
/-- a list of them -/
def RuP (w : World) (rs : List Ru) (a : Option Addr) (n : Nat) : Prop := rs.length = n ∧ (0 < n → ∃ b off, a = some ⟨b, off, none⟩ ∧ b < w.heap.size ∧ ∀ j t k s ks, rs[j]? = some (t, k, s, ks) → RuN w t k s ks b (off + j * 4))
section
variable {w w' : World} {a : Option Addr} {n : Nat} {rs qs : List Ru}
theorem RuP.keep (h : RuP w rs a n) (hk : ∀ b : Nat, b < w.heap.size → w'.heap[b]? = w.heap[b]?) (hs : w.heap.size ≤ w'.heap.size) : RuP w' rs a n := by
  refine ⟨h.1, fun hn => ?_⟩
  obtain ⟨b, off, e, hb, hr⟩ := h.2 hn
  refine ⟨b, off, e, by omega, fun j t k s ks hg => ?_⟩
  obtain ⟨c0, c1, c2, a', n', c', c3, hc, hrd⟩ := hr j t k s ks hg
  have hc' : ∀ i, w'.cell? ⟨b, i, none⟩ = w.cell? ⟨b, i, none⟩ := fun i => World.cell?_of_block (hk b hb)
  exact ⟨(hc' _).trans c0, (hc' _).trans c1, (hc' _).trans c2, a', n', c', (hc' _).trans c3, hc, hrd.keep hk⟩
theorem RuP.next (h : RuP w rs a n) (hB : Below w.heap.size w w') : RuP w' rs a n := h.keep (fun b hb => hB.block b hb) hB.size
theorem RuP.get (h : RuP w rs a n) {j : Nat} (hj : j < n) : ∃ b off t k s ks a' n' c', a = some ⟨b, off, none⟩ ∧ b < w.heap.size ∧ rs[j]? = some (t, k, s, ks) ∧ w.cell? ⟨b, off + j * 4, none⟩ = some (.string t) ∧ w.cell? ⟨b, off + j * 4 + 1, none⟩ = some (.int .i64 k) ∧
    w.cell? ⟨b, off + j * 4 + 2, none⟩ = some (.string s) ∧ w.cell? ⟨b, off + j * 4 + 3, none⟩ = some (.slice a' n' c') ∧ n' ≤ c' ∧ RdA w ks a' n' := by
  obtain ⟨b, off, ha, hb, hs⟩ := h.2 (by omega)
  obtain ⟨⟨t, k, s, ks⟩, hg⟩ : ∃ x, rs[j]? = some x := ⟨_, List.getElem?_eq_getElem (by have := h.1; omega)⟩
  obtain ⟨h0, h1, h2, a', n', c', h3, h4, h5⟩ := hs j t k s ks hg
  exact ⟨b, off, t, k, s, ks, a', n', c', ha, hb, hg, h0, h1, h2, h3, h4, h5⟩
theorem RuP.of {L B L' B' g : Nat} (h : RuAt w L B rs (some ⟨g, 0, none⟩) n) (hk : SkR w L' B' rs g n) (hg : g < w.heap.size) : RuP w rs (some ⟨g, 0, none⟩) n := by
  refine ⟨h.1, fun hn => ⟨g, 0, rfl, hg, fun j t k s ks hgt => ?_⟩⟩
  obtain ⟨b, off, e, _, _, hr⟩ := h.2 hn
  cases e
  obtain ⟨c0, c1, c2, a', n', c', c3, hc, hka⟩ := hr j t k s ks hgt
  obtain ⟨a2, n2, c2', h3, h4⟩ := hk.2 j t k s ks hgt
  rw [Nat.zero_add] at c3 ⊢
  rw [c3] at h3
  cases h3
  rw [Nat.zero_add] at c0 c1 c2
  exact ⟨c0, c1, c2, a', n', c', c3, hc, rdA_of hka h4⟩
theorem ruTake_succ {k : Nat} {x y : Ru} (h : rs.take k = qs.take k) (h1 : rs[k]? = some x) (h2 : qs[k]? = some y) (he : x = y) : rs.take (k + 1) = qs.take (k + 1) := by
  rw [List.take_add_one, List.take_add_one, h1, h2, h, he]
theorem ruNe_of_get {k : Nat} {x y : Ru} (h1 : rs[k]? = some x) (h2 : qs[k]? = some y) (he : ¬ x = y) : ¬ rs = qs := by
  rintro rfl
  rw [h1] at h2
  exact he (Option.some.inj h2)
end
theorem bool_of (p : Prop) : ∃ r : Bool, (r = true ↔ p) := by
  by_cases h : p
  · exact ⟨true, by simp [h]⟩
  · exact ⟨false, by simp [h]⟩
theorem false_of {r : Bool} {p : Prop} (h : r = true ↔ p) (hn : ¬ p) : r = false := by
  cases r with
  | false => rfl
  | true => exact absurd (h.1 rfl) hn
end Go.Proofs.YtceiafncpimihaaGreat
