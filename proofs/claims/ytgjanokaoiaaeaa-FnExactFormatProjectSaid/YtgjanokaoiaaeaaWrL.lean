/-
  The program's writeLine: words, joined by blanks, and a newline.
-/
import Derived.Test.YtgjanokaoiaaeaaBuild
import Derived.Test.YtgjanokaoiaaeaaLayJ
import Derived.Test.YtgjanokaoiaaeaaFmt
namespace Go.Proofs.Ytgjanokaoiaaeaa
set_option linter.unusedVariables false
open Go.RowKit

theorem batF_next {T e : TypeId} {B b : Nat} {p : Value} {bs : List Value} {w w' : World} (h : Lib.BuilderAtF T e B b p bs w) (hB : Below w.heap.size w w') : Lib.BuilderAtF T e B b p bs w' := by
  obtain ⟨h1, v, h2, h3, h4⟩ := h
  refine ⟨h1, v, (hB.block b (blk_lt h2)).trans h2, ?_, h4⟩
  unfold World.ownsRowF at h3 ⊢
  refine ⟨h3.1, ?_⟩
  rcases h3.2 with h5 | ⟨g, cap, cur, fz, h6, h7, h8, h9⟩
  · exact .inl h5
  · exact .inr ⟨g, cap, cur, fz, h6, h7, (hB.block g (blk_lt h8)).trans h8, h9⟩
theorem Bld.next {B b : Nat} {l : List UInt8} {w w' : World} (h : Bld B b l w) (hB : Below w.heap.size w w') : Bld B b l w' := by
  rcases h with h | h
  · exact .inl (batF_next h hB)
  · exact .inr (batF_next h hB)
/-- a step that only adds memory, before what is written -/
theorem Wrote.after {B b : Nat} {l : List UInt8} {w w' w'' : World} (hB : Below w.heap.size w w') (hBw : B ≤ w.heap.size) (h : Wrote B b l w' w'') : Wrote B b l w w'' :=
  ⟨h.is, (hB.mono hBw).trans h.below, fun k o hk h3 h4 => h.kept k o ((hB.block k (Array.getElem?_eq_some_iff.1 hk).1).trans hk) h3 h4⟩

set_option maxHeartbeats 400000 in
theorem writeLineW_any (xs : List ByteArray) (bk o c : Nat) (B b : Nat) (l : List UInt8) (w : World) (hcells : ∀ (j : Nat) x, xs[j]? = some x → w.cell? ⟨bk, o + j, none⟩ = some (.string x)) (hbk : bk < w.heap.size) (hN : xs.length ≤ 100) (hcap : xs.length ≤ c)
    (h : Bld B b l w) (hBb : B ≤ b) (hlen : l.length + (Lib.join (xs.map (·.data.toList)) [32]).length ≤ 100000) :
    Calls Try.prog 42 #[.pointer (some ⟨b, 0, none⟩), .slice (some ⟨bk, o, none⟩) xs.length c] w fun e w' => e = .returned (.tuple #[]) ∧ Wrote B b ((l ++ Lib.join (xs.map (·.data.toList)) [32]) ++ [10]) w w' := by
  go_enter Try.func42, Try.ntmps42
  go_wp2_with fail
  refine (join_any bk o c xs ⟨#[32]⟩ w hcells hbk (by omega) hcap (by show (Lib.join (xs.map (·.data.toList)) [32]).length ≤ _; omega)).mono ?_
  rintro e w1 ⟨rfl, hB1⟩
  have hbl := h.lt
  have h1 := h.next hB1
  have hs1 := hB1.size
  rw [show (⟨#[32]⟩ : ByteArray).data.toList = [32] from rfl]
  generalize hJ : Lib.join (xs.map (·.data.toList)) [32] = J at *
  go_wp2_with fail
  refine (writeString_any B b l ⟨J.toArray⟩ w1 h1 (by show _ + J.toArray.size ≤ _; simp; omega) (by omega)).mono ?_
  rintro e w2 ⟨rfl, hW2⟩
  have hW2' : Wrote B b (l ++ J) w1 w2 := hW2
  have hs2 := hW2'.below.size
  go_wp2_with fail
  refine (writeLine_any B b (l ++ J) w2 hW2'.is (by simp; omega) (by omega)).mono ?_
  rintro e w3 ⟨rfl, hW3⟩
  go_wp2_with fail
  go_end0
  subst hJ
  exact ⟨rfl, (hW2'.then hW3).after hB1 (by omega)⟩
/-- three words -/
theorem wl3 (s0 p t : ByteArray) (bk B b : Nat) (l : List UInt8) (V : World) {T : TypeId} {fr : Nat × Nat} (hrow : V.heap[bk]? = some (.cells #[.string s0, .string p, .string t] T fr)) (hbl : Bld B b l V) (hBb : B ≤ b) (hlen : l.length + (s0.size + p.size + t.size) + 10 ≤ 100000) :
    Calls Try.prog 42 #[.pointer (some ⟨b, 0, none⟩), .slice (some ⟨bk, 0, none⟩) 3 3] V fun e w' => e = .returned (.tuple #[]) ∧ Wrote B b (l ++ (s0.data.toList ++ ([32] ++ (p.data.toList ++ ([32] ++ (t.data.toList ++ [10])))))) V w' := by
  have hj : Lib.join ([s0, p, t].map (·.data.toList)) [32] = s0.data.toList ++ ([32] ++ (p.data.toList ++ ([32] ++ t.data.toList))) := by simp [Lib.join]
  have z0 : s0.data.toList.length = s0.size := by simp
  have z1 : p.data.toList.length = p.size := by simp
  have z2 : t.data.toList.length = t.size := by simp
  refine (writeLineW_any [s0, p, t] bk 0 3 B b l V (fun j x hx => ?_) (blk_lt hrow) (by simp) (by simp) hbl hBb ?_).mono ?_
  · rw [Nat.zero_add, cell_of_row _ _ _ _ _ _ hrow]
    match j, hx with
    | 0, hx => simpa using hx
    | 1, hx => simpa using hx
    | 2, hx => simpa using hx
    | j + 3, hx => simp at hx
  · rw [hj]
    simp only [List.length_append, List.length_cons, List.length_nil]
    omega
  · rintro e w' ⟨rfl, hW⟩
    rw [hj] at hW
    exact ⟨rfl, hW.to (by simp only [List.append_assoc])⟩
end Go.Proofs.Ytgjanokaoiaaeaa
