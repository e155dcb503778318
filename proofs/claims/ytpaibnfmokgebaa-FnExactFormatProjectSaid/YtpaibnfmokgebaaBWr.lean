/-
  (*strings.Builder).Write: a row of bytes behind what the builder holds; []byte of a string; a builder as a writer.
-/
import Derived.Test.YtpaibnfmokgebaaBuild
import Derived.Lib.ConvBytes
import Derived.Lib.FrozenHead2
import Derived.Lib.OthersKept
namespace Go.Proofs.Ytpaibnfmokgebaa
set_option linter.unusedVariables false
open Go.Shelf Go.RowKit

/-- the method that a builder is called by -/
theorem mB_write (n : Nat) (v : Value) (w : World) : Sem.run Try.prog (method (n + 1) 64 v "Write") w = .ok (90, v) w := by kernel_rfl

theorem cB_write (args : Array Value) (w : World) : Sem.run Try.prog (callFunc 90 args) w = .ok (.enter 90 args) w := by kernel_rfl
theorem nB_write (n : Nat) (a : Addr) (w : World) : Sem.run Try.prog (nilAhead (n + 1) 64 (.pointer (some a)) "Write") w = .ok (some false) w := by kernel_rfl
theorem blk_lt0 {w : World} {b : Nat} {o : Obj} (h : w.heap[b]? = some o) : b < w.heap.size := (Array.getElem?_eq_some_iff.1 h).1
theorem copyCheck_row (B b : Nat) (l : List UInt8) (w : World) (h : Bld B b l w) :
    Calls Try.prog 61 #[.pointer (some ⟨b, 0, none⟩)] w fun e w' => e = .returned (.tuple #[]) ∧ (Lib.BuilderAtF 67 5 B b (.pointer (some ⟨b, 0, none⟩)) (Lib.byteCells l) w' ∧ Below B w w' ∧ Lib.OthersKept 5 (some b) w w' ∧ ∀ k, k ≠ b → w'.heap[k]? = w.heap[k]?) := by
  rcases h with h | h
  · refine (Any.Builder_copyCheck_fresh bn240 bextra.toX72 b w h.cell0 h.shape h.frozen0).mono ?_
    rintro e w' ⟨rfl, rfl⟩
    exact ⟨rfl, h.used _, (Below.refl B w).setCell (p := ⟨b, 0, none⟩) h.1 _, (Lib.OthersKept.refl _ _ w).setCell ⟨b, 0, none⟩ rfl _, fun k hk => Below.heap_setCell _ _ _ _ (fun e => hk (by simp at e; omega))⟩
  · refine (Any.Builder_copyCheck_used bn240 bextra.toX72 b w h.cell0).mono ?_
    rintro e w' ⟨rfl, rfl⟩
    exact ⟨rfl, h, Below.refl B _, Lib.OthersKept.refl _ _ _, fun _ _ => rfl⟩

set_option maxHeartbeats 2000000 in
set_option maxRecDepth 100000 in
theorem write_any (B b : Nat) (l s : List UInt8) (bk c : Nat) (w : World) (h : Bld B b l w) (hcells : ∀ (j : Nat) x, s[j]? = some x → w.cell? ⟨bk, j, none⟩ = some (.int .u8 (x.toNat : Int))) (hb : bk ≠ b) (hlen : l.length + s.length ≤ 1000000000) (hBw : B ≤ w.heap.size) :
    Calls Try.prog 90 #[.pointer (some ⟨b, 0, none⟩), .slice (some ⟨bk, 0, none⟩) s.length c] w fun e w' => e = .returned (.tuple #[.int .i64 s.length, .nilIface]) ∧ Wrote B b (l ++ s) w w' := by
  obtain ⟨i0, hi, hz0, hz1, hz2⟩ := info_parts bextra.infoByte
  go_enter Try.func90, Try.ntmps90
  go_wp2_with fail
  refine (copyCheck_row B b l _ h).mono ?_
  rintro e w1 ⟨rfl, h1, hb1, hk1, hr1⟩
  obtain ⟨hB, v, hbk, hown, hne⟩ := h1
  have c0 : w1.cell? ⟨b, 0, none⟩ = some (.pointer (some ⟨b, 0, none⟩)) := by rw [Lib.cell_of_heap hbk]; rfl
  have c1 : w1.cell? ⟨b, 1, none⟩ = some v := by rw [Lib.cell_of_heap hbk]; rfl
  have hcells1 : ∀ (j : Nat) x, s[j]? = some x → w1.cell? ⟨bk, j, none⟩ = some (.int .u8 (x.toNat : Int)) := fun j x hx => by
    have := hcells j x hx
    unfold World.cell? at this ⊢
    rw [hr1 bk hb]
    exact this
  go_wp2_with (at_builtin; refine wpList_append_ownF _ rfl _ _ 65 rfl B 5 i0 (.int .u8 0) 1 1 (by kernel_rfl) hi hz0 hz1 hz2 rfl (by decide) _ _ _ rfl hown ⟨bk, 0, none⟩ s.length c (Lib.byteCells s) rfl ?c1 ?c2 ?c3 ?c4 ?c5 ?c6 ?_)
  case c1 => rw [bytes_length]; omega
  case c2 =>
    intro j u hj
    simp only [Lib.byteCells, List.getElem?_map, Option.map_eq_some_iff] at hj
    obtain ⟨x, hx, rfl⟩ := hj
    have := hcells1 j x hx
    by_cases h0 : j = 0
    · subst h0; simpa [Addr.add] using this
    · simpa [Addr.add, h0] using this
  case c3 =>
    intro u hu
    simp only [Lib.byteCells, List.mem_map] at hu
    obtain ⟨x, hx, rfl⟩ := hu
    rfl
  case c4 => rw [bytes_length]; unfold maxLen; omega
  case c5 => rw [bytes_length]; omega
  case c6 => have := hb1.size; omega
  intro v' w2 hown' hgrow _
  have hlt : b < w1.heap.size := blk_lt0 hbk
  have hb2 : w2.heap[b]? = some (.cells #[.pointer (some ⟨b, 0, none⟩), v] 67 (0, 0)) := by
    rw [hgrow.block b hlt (fun e => hne e.symm)]
    exact hbk
  have d0 : w2.cell? ⟨b, 0, none⟩ = some (.pointer (some ⟨b, 0, none⟩)) := by rw [Lib.cell_of_heap hb2]; rfl
  have d1 : w2.cell? ⟨b, 1, none⟩ = some v := by rw [Lib.cell_of_heap hb2]; rfl
  have f1 : w2.frozen? ⟨b, 1, none⟩ = false := Lib.frozen_of_heap hb2 1
  obtain ⟨ao, n', cap, rfl⟩ : ∃ ao n' cap, v' = .slice ao n' cap := by
    rcases hown'.2 with ⟨hv, _⟩ | ⟨g, cap, cur, fz, hv, _⟩
    · exact ⟨_, _, _, hv⟩
    · exact ⟨_, _, _, hv⟩
  go_wp2_with fail
  go_ret2
  refine ⟨rfl, .inr ?_, ?_, (hk1.grown hgrow (Lib.ownsRowF_kind hown)).setCell ⟨b, 1, none⟩ rfl _⟩
  · rw [bytes_append]
    exact Lib.BuilderAtF.put (T := 67) (e := 5) hB hb2 (bs' := Lib.byteCells l ++ Lib.byteCells s) (by simpa [bytes_length] using hown') bextra.neB5
  · exact (hb1.grown hgrow (by have := hb1.size; omega) (fun k hk => (hown.lt k hk).1)).setCell (p := ⟨b, 1, none⟩) hB _
theorem conv_bytes (s : ByteArray) (w : World) : (convert 9 65 (.string s)).run Try.prog w = .ok (.slice (some ⟨w.heap.size, 0, none⟩) s.size (grownCap w s.size 0 5)) (Lib.bytesWorld w 5 s) :=
  Lib.run_convert_string_bytes w _ _ _ s (u := .string) (by kernel_rfl) (by kernel_rfl) (by kernel_rfl)
theorem bytesWorld_below {B : Nat} (w : World) (s : ByteArray) (hB : B ≤ w.heap.size) : Below B w (Lib.bytesWorld w 5 s) :=
  Lib.below_freeze (((Below.refl B w).drew).alloc hB _) (p := ⟨w.heap.size, _, none⟩) hB 1
theorem bytesWorld_kept (b : Nat) (w : World) (s : ByteArray) : Lib.OthersKept 5 (some b) w (Lib.bytesWorld w 5 s) :=
  (((Lib.OthersKept.refl _ _ w).drew).alloc _).freeze ⟨w.heap.size, _, none⟩ 1 ⟨_, _, heap_alloc_new w.drew _⟩
theorem batF_next0 {T e : TypeId} {B b : Nat} {p : Value} {bs : List Value} {w w' : World} (h : Lib.BuilderAtF T e B b p bs w) (hB : Below w.heap.size w w') : Lib.BuilderAtF T e B b p bs w' := by
  obtain ⟨h1, v, h2, h3, h4⟩ := h
  refine ⟨h1, v, (hB.block b (blk_lt0 h2)).trans h2, ?_, h4⟩
  unfold World.ownsRowF at h3 ⊢
  refine ⟨h3.1, ?_⟩
  rcases h3.2 with h5 | ⟨g, cap, cur, fz, h6, h7, h8, h9⟩
  · exact .inl h5
  · exact .inr ⟨g, cap, cur, fz, h6, h7, (hB.block g (blk_lt0 h8)).trans h8, h9⟩
/-- the row that '[]byte(s)' makes, written -/
theorem write_conv (B b : Nat) (l : List UInt8) (s : ByteArray) (w : World) (h : Bld B b l w) (hlen : l.length + s.size ≤ 1000000000) (hBw : B ≤ w.heap.size) :
    Calls Try.prog 90 #[.pointer (some ⟨b, 0, none⟩), .slice (some ⟨w.heap.size, 0, none⟩) s.size (grownCap w s.size 0 5)] (Lib.bytesWorld w 5 s) fun e w' => e = .returned (.tuple #[.int .i64 s.size, .nilIface]) ∧ Wrote B b (l ++ s.data.toList) w w' := by
  have hb := h.lt
  have hBl := bytesWorld_below w s hBw
  have hBl0 := bytesWorld_below w s (Nat.le_refl _)
  have hz := hBl.size
  have hls : s.data.toList.length = s.size := by rw [Array.length_toList]; rfl
  have h2 : Bld B b l (Lib.bytesWorld w 5 s) := by
    rcases h with h | h
    · exact .inl (batF_next0 h hBl0)
    · exact .inr (batF_next0 h hBl0)
  have key := write_any B b l s.data.toList w.heap.size (grownCap w s.size 0 5) (Lib.bytesWorld w 5 s) h2 (fun j x hx => by
    have hj : j < s.size := by rw [← hls]; exact (List.getElem?_eq_some_iff.1 hx).1
    rw [Lib.bytesWorld_cell w _ s j hj, List.getD_eq_getElem?_getD, hx]
    rfl) (by omega) (by rw [hls]; exact hlen) (by omega)
  rw [hls] at key
  refine key.mono ?_
  rintro e w' ⟨rfl, hW⟩
  exact ⟨rfl, hW.is, hBl.trans hW.below, (bytesWorld_kept b w s).trans hW.kept⟩
/-- a line's bytes, its newline put behind them -/
theorem write_nl (B b : Nat) (l J : List UInt8) (w : World) (h : Bld B b l w) (hlen : l.length + J.length + 1 ≤ 1000000000) (hBw : B ≤ w.heap.size) :
    Calls Try.prog 90 #[.pointer (some ⟨b, 0, none⟩), .slice (some ⟨w.heap.size, 0, none⟩) (J.length + 1) (grownCap w (J.length + 1) 0 5)] (Lib.bytesWorld w 5 ((⟨J.toArray⟩ : ByteArray) ++ ⟨#[10]⟩)) fun e w' => e = .returned (.tuple #[.int .i64 ((J.length + 1 : Nat) : Int), .nilIface]) ∧ Wrote B b (l ++ (J ++ [10])) w w' := by
  have hz : ((⟨J.toArray⟩ : ByteArray) ++ ⟨#[10]⟩).size = J.length + 1 := by
    rw [ByteArray.size_append]
    rfl
  have hd : ((⟨J.toArray⟩ : ByteArray) ++ ⟨#[10]⟩).data.toList = J ++ [10] := by
    rw [ByteArray.data_append]
    simp
  have key := write_conv B b l ((⟨J.toArray⟩ : ByteArray) ++ ⟨#[10]⟩) w h (by rw [hz]; omega) hBw
  rw [hz, hd] at key
  exact key
end Go.Proofs.Ytpaibnfmokgebaa
