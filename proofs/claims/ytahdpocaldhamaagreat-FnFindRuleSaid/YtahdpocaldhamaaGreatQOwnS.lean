/-
  Lists of strings of one's own; whether one is among them (slices.Contains, l2Has).
-/
import Derived.Test.YtahdpocaldhamaaGreatGone
import Derived.Test.YtahdpocaldhamaaGreatProg
import Derived.Test.YtahdpocaldhamaaGreatQStr
import Derived.OwnWalk
import Derived.RangeFuncBox
import Derived.Maps.AppendAt
import Derived.Deep.Onto
namespace Go.Proofs.YtahdpocaldhamaaGreat
set_option linter.unusedVariables false
set_option linter.unusedSimpArgs false
open Go.RowKit

theorem infoStr : (Tryz.prog.info? 9).map (fun i => (i.zero, i.size, i.bytes)) = some (some (.string .empty), 1, 16) := by kernel_rfl
theorem underStrs : Tryz.prog.underlying 33 = some (.slice 9) := by kernel_rfl
/-- a list of strings of one's own -/
def OwnsS (w : World) (B : Nat) (v : Value) (xs : List ByteArray) : Prop := w.ownsRow B 9 1 v xs.length (xs.map .string)
def StrsR (xs : List ByteArray) (w : World) (e : Ending) (w' : World) : Prop := ∃ v, e = .returned v ∧ OwnsS w' w.heap.size v xs ∧ Below w.heap.size w w'
theorem StrsR.none {xs : List ByteArray} {w w' : World} (h : xs = []) (hb : Below w.heap.size w w') : StrsR xs w (.returned (.slice none 0 0)) w' := by
  subst h; exact ⟨_, rfl, World.ownsRow_nil _ _ _ _, hb⟩

theorem strs_below {w w' : World} {B : Nat} {v : Value} {ss : List ByteArray} (h : OwnsS w B v ss) (hb : Below w.heap.size w w') : OwnsS w' B v ss := by
  unfold OwnsS World.ownsRow at h ⊢
  refine ⟨h.1, ?_⟩
  rcases h.2 with h2 | ⟨g, cap, cur, rfl, h3, h4, h5⟩
  · exact .inl h2
  · exact .inr ⟨g, cap, cur, rfl, h3, (hb.block g (blk_lt h4)).trans h4, h5⟩
theorem strs_made (w : World) : OwnsS (w.alloc (.cells #[] 9)) w.heap.size (.slice (some ⟨w.heap.size, 0, none⟩) 0 0) [] := World.ownsRow_made w _ _ (Nat.le_refl _) (by simp [maxLen]) rfl
theorem strs_at {w : World} {B k : Nat} {v : Value} {xs : List Value} (h : w.ownsRow B 9 1 v k xs) : ∀ j, v.ownBlock = some j → B ≤ j := by
  rcases h.2 with ⟨rfl, _⟩ | ⟨g, cap, cur, rfl, hb, _, _⟩
  · intro j e; simp [Value.ownBlock] at e
  · intro j e
    obtain rfl : g = j := by simpa [Value.ownBlock] using e
    exact hb
theorem strs_lt {w : World} {B : Nat} {v : Value} {ss : List ByteArray} (h : OwnsS w B v ss) : ∀ j, v.ownBlock = some j → j < w.heap.size := by
  intro j e
  exact (World.ownsRow.lt (show w.ownsRow B 9 1 v ss.length (ss.map .string) from h) j e).2
theorem OwnsS.grew {w : World} {B : Nat} {v : Value} {ss : List ByteArray} {p : ByteArray} (h : w.ownsRow B 9 1 v (ss.length + 1) (ss.map .string ++ [.string p])) : OwnsS w B v (ss ++ [p]) := by
  unfold OwnsS; simpa using h
/-- a slice value's strings -/
def SvAt (w : World) (B : Nat) (a : Option Addr) (n : Nat) (ss : List ByteArray) : Prop :=
  ss.length = n ∧ (0 < n → ∃ b off, a = some ⟨b, off, none⟩ ∧ b < B ∧ ∀ (j : Nat) (s : ByteArray), ss[j]? = some s → w.cell? ⟨b, off + j, none⟩ = some (.string s))
theorem SvAt.get {w : World} {B n : Nat} {a : Option Addr} {ss : List ByteArray} (h : SvAt w B a n ss) {k : Nat} (hk : k < n) : ∃ b off s, a = some ⟨b, off, none⟩ ∧ b < B ∧ ss[k]? = some s ∧ w.cell? ⟨b, off + k, none⟩ = some (.string s) := by
  obtain ⟨b, off, ha, hb, hc⟩ := h.2 (by omega)
  have hl : k < ss.length := by have := h.1; omega
  exact ⟨b, off, ss[k], ha, hb, List.getElem?_eq_getElem hl, hc k _ (List.getElem?_eq_getElem hl)⟩
theorem SvAt.below {w w' : World} {B n : Nat} {a : Option Addr} {ss : List ByteArray} (h : SvAt w B a n ss) (hb : Below B w w') : SvAt w' B a n ss :=
  ⟨h.1, fun hn => let ⟨b, off, ha, hlt, hc⟩ := h.2 hn; ⟨b, off, ha, hlt, fun j s hj => (hb.cell (p := ⟨b, off + j, none⟩) hlt).trans (hc j s hj)⟩⟩
theorem SvAt.more {w : World} {B B' n : Nat} {a : Option Addr} {ss : List ByteArray} (h : SvAt w B a n ss) (hB : B ≤ B') : SvAt w B' a n ss :=
  ⟨h.1, fun hn => let ⟨b, off, ha, hlt, hc⟩ := h.2 hn; ⟨b, off, ha, by omega, hc⟩⟩
theorem OwnsS.form {w : World} {base : Nat} {v : Value} {ss : List ByteArray} (h : OwnsS w base v ss) : ∃ a c, v = .slice a ss.length c ∧ SvAt w w.heap.size a ss.length ss := by
  rcases h.2 with ⟨rfl, h0⟩ | ⟨g, cap, cur, rfl, hb, hg, h1, h2, h3, h4⟩
  · exact ⟨none, 0, by rw [h0], rfl, fun h => absurd h (by omega)⟩
  · refine ⟨_, cap, rfl, rfl, fun hn => ⟨g, 0, rfl, blk_lt hg, fun j s hj => ?_⟩⟩
    have hl : j < ss.length := (List.getElem?_eq_some_iff.1 hj).1
    have hc := World.ownsRow.cellAt (show w.ownsRow base 9 1 (.slice (some ⟨g, 0, none⟩) ss.length cap) ss.length (ss.map .string) from h) j (by omega)
    rw [Nat.zero_add, hc, List.getElem?_map, hj]
    rfl
theorem OwnsS.at_ {w : World} {B n c : Nat} {a : Option Addr} {ss : List ByteArray} (h : OwnsS w B (.slice a n c) ss) : SvAt w w.heap.size a n ss := by
  obtain ⟨a', c', e, hs⟩ := h.form
  cases e
  exact hs

/-- the place of the first, or the length -/
theorem idx_none {ss : List ByteArray} {s : ByteArray} {j : Nat} (h : ∀ x ∈ ss.take j, x ≠ s) {x : ByteArray} (hx : ss[j]? = some x) (hne : x ≠ s) : ∀ x ∈ ss.take (j + 1), x ≠ s := by
  intro y hy
  rw [List.take_add_one, hx, List.mem_append] at hy
  rcases hy with hy | hy
  · exact h y hy
  · simp at hy; subst hy; exact hne
/-- a string is among these -/
def hasB (ss : List ByteArray) (s : ByteArray) : Bool := ss.any fun x => x.data.toList == s.data.toList
theorem hasB_iff {ss : List ByteArray} {s : ByteArray} : hasB ss s = true ↔ s ∈ ss := by
  unfold hasB
  rw [List.any_eq_true]
  constructor
  · rintro ⟨x, hx, he⟩
    have : x = s := WideShapes.bytes_inj (by simpa using he)
    exact this ▸ hx
  · intro h
    exact ⟨s, h, by simp⟩
theorem has_yes {ss : List ByteArray} {s : ByteArray} {j : Nat} (h : ss[j]? = some s) : hasB ss s = true := hasB_iff.2 (List.mem_of_getElem? h)
theorem has_no {ss : List ByteArray} {s : ByteArray} {j : Nat} (h : ∀ x ∈ ss.take j, x ≠ s) (hj : ss.length ≤ j) : hasB ss s = false := by
  rw [Bool.eq_false_iff]
  intro hm
  exact h s (by rw [List.take_of_length_le hj]; exact hasB_iff.1 hm) rfl

/-- slices.Index's answer -/
def IdxR (b : Bool) (n : Nat) (e : Ending) : Prop := (b = true ∧ ∃ j : Nat, e = .returned (.int .i64 j) ∧ j < n) ∨ (b = false ∧ e = .returned (.int .i64 (-1)))
end Go.Proofs.YtahdpocaldhamaaGreat
