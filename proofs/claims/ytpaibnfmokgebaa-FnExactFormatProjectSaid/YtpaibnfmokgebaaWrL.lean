/-
  The program's writeLine: words, joined by blanks, and a newline.
-/
import Derived.Test.YtpaibnfmokgebaaBuild
import Derived.Test.YtpaibnfmokgebaaLayJ
import Derived.Test.YtpaibnfmokgebaaBWr
namespace Go.Proofs.Ytpaibnfmokgebaa
set_option linter.unusedVariables false
open Go.RowKit

theorem batF_next {T e : TypeId} {B b : Nat} {p : Value} {bs : List Value} {w w' : World} (h : Lib.BuilderAtF T e B b p bs w) (hB : Below w.heap.size w w') : Lib.BuilderAtF T e B b p bs w' := by
  obtain ⟨h1, v, h2, h3, h4⟩ := h
  refine ⟨h1, v, (hB.block b (blk_lt0 h2)).trans h2, ?_, h4⟩
  unfold World.ownsRowF at h3 ⊢
  refine ⟨h3.1, ?_⟩
  rcases h3.2 with h5 | ⟨g, cap, cur, fz, h6, h7, h8, h9⟩
  · exact .inl h5
  · exact .inr ⟨g, cap, cur, fz, h6, h7, (hB.block g (blk_lt0 h8)).trans h8, h9⟩
theorem Bld.next {B b : Nat} {l : List UInt8} {w w' : World} (h : Bld B b l w) (hB : Below w.heap.size w w') : Bld B b l w' := by
  rcases h with h | h
  · exact .inl (batF_next h hB)
  · exact .inr (batF_next h hB)
/-- a step that only adds memory, before what is written -/
theorem Wrote.after {B b : Nat} {l : List UInt8} {w w' w'' : World} (hB : Below w.heap.size w w') (hBw : B ≤ w.heap.size) (h : Wrote B b l w' w'') : Wrote B b l w w'' :=
  ⟨h.is, (hB.mono hBw).trans h.below, fun k o hk h3 h4 => h.kept k o ((hB.block k (Array.getElem?_eq_some_iff.1 hk).1).trans hk) h3 h4⟩

set_option maxRecDepth 100000 in
set_option maxHeartbeats 2000000 in
theorem writeLineW_any (xs : List ByteArray) (bk o c : Nat) (B b : Nat) (l : List UInt8) (w : World) (hcells : ∀ (j : Nat) x, xs[j]? = some x → w.cell? ⟨bk, o + j, none⟩ = some (.string x)) (hbk : bk < w.heap.size) (hN : xs.length ≤ 100) (hcap : xs.length ≤ c)
    (h : Bld B b l w) (hBb : B ≤ b) (hlen : l.length + (Lib.join (xs.map (·.data.toList)) [32]).length ≤ 900000000) :
    Calls Try.prog 28 #[.iface 64 (.pointer (some ⟨b, 0, none⟩)), .slice (some ⟨bk, o, none⟩) xs.length c] w fun e w' => e = .returned (.tuple #[]) ∧ Wrote B b ((l ++ Lib.join (xs.map (·.data.toList)) [32]) ++ [10]) w w' := by
  have hmw := mB_write
  have hcw := cB_write
  have hnw := nB_write
  have hcv := conv_bytes
  have hmf : ∀ (fn : Fn) (first cap : Array Value) (w : World), (Instr.makeFunc fn first cap).run Try.prog w = .ok (.func fn first cap) w := fun _ _ _ _ => rfl
  have hbl := h.lt
  have hDr := (Below.refl w.heap.size w).drew
  have hD : Bld B b l w.drew := h.next hDr
  have hcD : ∀ (j : Nat) x, xs[j]? = some x → w.drew.cell? ⟨bk, o + j, none⟩ = some (.string x) := hcells
  have hj0 := join_any bk o c xs ⟨#[32]⟩ w.drew hcD hbk (by omega) hcap (by show (Lib.join (xs.map (·.data.toList)) [32]).length ≤ _; omega)
  rw [show (⟨#[32]⟩ : ByteArray).data.toList = [32] from rfl] at hj0
  generalize Lib.join (xs.map (·.data.toList)) [32] = J at *
  have Hj := Lib.hid hj0
  have HD := Lib.hid hD
  clear hj0 hD hcD hcells h
  have hcat : ¬ 9223372036854775807 < J.length + 1 := by omega
  go_enter Try.func28, Try.ntmps28
  go_region_with
    (first
      | (go_at_call 46; refine Hj.out.mono ?_; rintro e w1 ⟨rfl, hB1⟩; have H1 := Lib.hid (HD.out.next hB1); have hs1 : w.heap.size ≤ w1.heap.size := hB1.size; have HB1 := Lib.hid hB1; clear hB1)
      | (go_at_call 90; refine (write_nl B b l J w1 H1.out (by omega) (by omega)).mono ?_; rintro e w3 ⟨rfl, hW3⟩))
  all_goals (go_end0; exact ⟨rfl, ((hW3.to (by simp only [List.append_assoc])).after HB1.out (by show B ≤ w.heap.size; omega)).after hDr (by omega)⟩)
/-- three words -/
theorem wl3 (s0 p t : ByteArray) (bk B b : Nat) (l : List UInt8) (V : World) {T : TypeId} {fr : Nat × Nat} (hrow : V.heap[bk]? = some (.cells #[.string s0, .string p, .string t] T fr)) (hbl : Bld B b l V) (hBb : B ≤ b) (hlen : l.length + (s0.size + p.size + t.size) + 10 ≤ 900000000) :
    Calls Try.prog 28 #[.iface 64 (.pointer (some ⟨b, 0, none⟩)), .slice (some ⟨bk, 0, none⟩) 3 3] V fun e w' => e = .returned (.tuple #[]) ∧ Wrote B b (l ++ (s0.data.toList ++ ([32] ++ (p.data.toList ++ ([32] ++ (t.data.toList ++ [10])))))) V w' := by
  have hj : Lib.join ([s0, p, t].map (·.data.toList)) [32] = s0.data.toList ++ ([32] ++ (p.data.toList ++ ([32] ++ t.data.toList))) := by simp [Lib.join]
  have z0 : s0.data.toList.length = s0.size := by simp
  have z1 : p.data.toList.length = p.size := by simp
  have z2 : t.data.toList.length = t.size := by simp
  refine (writeLineW_any [s0, p, t] bk 0 3 B b l V (fun j x hx => ?_) (blk_lt0 hrow) (by simp) (by simp) hbl hBb ?_).mono ?_
  · rw [Nat.zero_add, cell_of_row _ _ _ _ _ _ hrow]
    match j, hx with
    | 0, hx => simpa using hx
    | 1, hx => simpa using hx
    | 2, hx => simpa using hx
    | j + 3, hx => simp at hx
  · rw [hj]
    simp only [List.length_append, List.length_cons, List.length_nil]
    omega
  · rintro e w' ⟨rfl, hW⟩
    rw [hj] at hW
    exact ⟨rfl, hW.to (by simp only [List.append_assoc])⟩
end Go.Proofs.Ytpaibnfmokgebaa
