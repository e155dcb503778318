/-
  The program's methods 'write': what each node adds to the builder.
-/
import Derived.Test.YtahdpocaldhamaaGreatQConv
import Derived.Test.YtahdpocaldhamaaGreatGtwo
import Derived.Deep.QuietTactic
namespace Go.Proofs.YtahdpocaldhamaaGreat
set_option linter.unusedVariables false
open Go.RowKit

/-- a value whose method 'write' adds m to the builder at block b -/
def WrS (w : World) (v : Value) (B b : Nat) (l m : List UInt8) : Prop := ∃ T X F, v = .iface T X ∧ (∀ (n : Nat) (w' : World), Sem.run Tryz.prog (method (n + 1) T X "loop.example/buildengine/impl.write") w' = .ok (F, X) w') ∧ (∀ (args : Array Value) (w' : World), Sem.run Tryz.prog (callFunc F args) w' = .ok (.enter F args) w') ∧
  Calls Tryz.prog F #[X, .pointer (some ⟨b, 0, none⟩)] w fun e w' => e = .returned (.tuple #[]) ∧ Wrote B b (l ++ m) w w'
/-- the contract of 'write' at one node -/
def WrC (k : Int) (s : ByteArray) (ks : Fo) : Prop := ∀ (v : Value) (L D B b : Nat) (l : List UInt8) (w : World), NV1 w L D k s ks v → nodeB k s ks.len = true → good ks = true → D ≤ B → B ≤ b → b < w.heap.size → Bld B b l w → l.length + 63 * (ks.size + 1) ≤ 100000 → WrS w v B b l (fm1 k s ks)
theorem cf_text (args : Array Value) (w' : World) : Sem.run Tryz.prog (callFunc 146 args) w' = .ok (.enter 146 args) w' := by kernel_rfl
theorem NV1.wrote {w w' : World} {L D B b : Nat} {l : List UInt8} {k : Int} {s : ByteArray} {ks : Fo} {v : Value} (h : NV1 w L D k s ks v) (hw : Wrote B b l w w') (hD : D ≤ B) : NV1 w' L D k s ks v :=
  h.keep (Nat.le_refl _) (Nat.le_refl _) fun p _ h2 => hw.below.cell (by omega)
theorem nvs_wrote {w w' : World} {L D B b : Nat} {l : List UInt8} {f : Fo} {vs : List Value} (h : NVs w L D f vs) (hw : Wrote B b l w w') (hD : D ≤ B) : NVs w' L D f vs :=
  nvs_keep (Nat.le_refl _) (Nat.le_refl _) (fun p _ h2 => hw.below.cell (by omega)) h
set_option maxHeartbeats 400000 in
theorem write_text (s : ByteArray) (B b : Nat) (l l' : List UInt8) (w : World) (hb : b < w.heap.size) (hBb : B ≤ b) (h : Bld B b l w) (hlen : l.length + 63 ≤ 100000) (hs : s.size ≤ 60) (hl' : ((l ++ [39]) ++ s.data.toList) ++ [39] = l') :
    Calls Tryz.prog 146 #[.agg #[.string s], .pointer (some ⟨b, 0, none⟩)] w fun e w' => e = .returned (.tuple #[]) ∧ Wrote B b l' w w' := by
  have H0 := Lib.hid (h.alloc (.cells #[.string s] 158))
  have hsl : s.data.toList.length ≤ 60 := by rw [Array.length_toList]; exact hs
  have Hl := Lib.hid hl'
  clear h hl'
  go_enter Tryz.func146, Tryz.ntmps146
  go_wp2_with fail
  refine (writeByte_any B b l 39 _ H0.out (by omega) (by simp; omega)).mono ?_
  rintro e w2 ⟨rfl, hW2⟩
  have hx2 := hW2.cell (heap_alloc_new w _) (by decide) (by omega)
  have hc2 : w2.cell? ⟨w.heap.size, 0, none⟩ = some (.string s) := by rw [cell_of_row _ _ _ _ _ _ hx2]; rfl
  have hz2 := hW2.below.size
  have HW2 := Lib.hid hW2
  clear hx2 hW2
  simp only [World.size_alloc] at hz2
  go_wp2_with fail
  refine (writeString_any B b _ s _ HW2.out.is (by simp only [List.length_append, List.length_cons, List.length_nil]; omega) (by omega)).mono ?_
  rintro e w3 ⟨rfl, hW3⟩
  have hz3 := hW3.below.size
  have HW3 := Lib.hid (HW2.out.then hW3)
  clear hW3 HW2 hc2
  go_wp2_with fail
  refine (writeByte_any B b _ 39 _ HW3.out.is (by simp only [List.length_append, List.length_cons, List.length_nil]; omega) (by omega)).mono ?_
  rintro e w4 ⟨rfl, hW4⟩
  have HW4 := Lib.hid (((HW3.out.then hW4).pre (by omega)).to Hl.out)
  clear hW4
  go_wp2_with fail
  go_end0
  exact ⟨rfl, HW4.out⟩

set_option maxHeartbeats 400000 in
set_option maxRecDepth 100000 in
theorem write_after (v : Value) (c : UInt8) (B b : Nat) (l m l' : List UInt8) (w : World) (hb : b < w.heap.size) (hBb : B ≤ b) (h : Bld B b l w) (hlen : l.length + 63 ≤ 100000) (hif : ∃ t x, v = .iface t x)
    (hsub : ∀ w', Wrote B b (l ++ [c]) w w' → WrS w' v B b (l ++ [c]) m) (hl' : (l ++ [c]) ++ m = l') :
    Calls Tryz.prog 151 #[.agg #[v], .int .u8 (c.toNat : Int), .pointer (some ⟨b, 0, none⟩)] w fun e w' => e = .returned (.tuple #[]) ∧ Wrote B b l' w w' := by
  obtain ⟨t, x, rfl⟩ := hif
  have H0 := Lib.hid (h.alloc (.cells #[.iface t x] 149))
  have Hl := Lib.hid hl'
  have Hsub := Lib.hid hsub
  clear h hl' hsub
  go_enter Tryz.func151, Tryz.ntmps151
  go_wp2_with fail
  refine (writeByte_any B b l c _ H0.out (by omega) (by simp; omega)).mono ?_
  rintro e w2 ⟨rfl, hW2⟩
  have hx2 := hW2.cell (heap_alloc_new w _) (by decide) (by omega)
  have hc2 : w2.cell? ⟨w.heap.size, 0, none⟩ = some (.iface t x) := by rw [cell_of_row _ _ _ _ _ _ hx2]; rfl
  have hW0 := hW2.pre (by omega)
  obtain ⟨T, X, F, he, hm, hcf, hcall⟩ := Hsub.out w2 hW0
  cases he
  have HW0 := Lib.hid hW0
  have Hcall := Lib.hid hcall
  clear hx2 hW2 hW0 hcall
  go_wp2_with fail
  refine Hcall.out.mono ?_
  rintro e w3 ⟨rfl, hW3⟩
  have HW3 := Lib.hid ((HW0.out.then hW3).to Hl.out)
  clear hW3
  go_wp2_with fail
  go_end0
  exact ⟨rfl, HW3.out⟩

theorem write_read (v : Value) (B b : Nat) (l m l' : List UInt8) (w : World) (hb : b < w.heap.size) (hBb : B ≤ b) (h : Bld B b l w) (hlen : l.length + 63 ≤ 100000) (hif : ∃ t x, v = .iface t x)
    (hsub : ∀ w', Wrote B b (l ++ [64]) w w' → WrS w' v B b (l ++ [64]) m) (hl' : (l ++ [64]) ++ m = l') :
    Calls Tryz.prog 150 #[.agg #[v], .pointer (some ⟨b, 0, none⟩)] w fun e w' => e = .returned (.tuple #[]) ∧ Wrote B b l' w w' := by
  obtain ⟨t, x, rfl⟩ := hif
  have Hw := Lib.hid (write_after (.iface t x) 64 B b l m l' (w.alloc (.cells #[.iface t x] 160)) (by simp; omega) hBb (h.alloc _) hlen ⟨t, x, rfl⟩ (fun w' hw => hsub w' (hw.pre (by omega))) hl')
  clear h hsub hl'
  go_enter Tryz.func150, Tryz.ntmps150
  go_wp2_with fail
  refine Hw.out.mono ?_
  rintro e w2 ⟨rfl, hW2⟩
  have HW2 := Lib.hid (hW2.pre (by omega))
  clear hW2
  go_wp2_with fail
  go_end0
  exact ⟨rfl, HW2.out⟩

theorem write_first (v : Value) (B b : Nat) (l m l' : List UInt8) (w : World) (hb : b < w.heap.size) (hBb : B ≤ b) (h : Bld B b l w) (hlen : l.length + 63 ≤ 100000) (hif : ∃ t x, v = .iface t x)
    (hsub : ∀ w', Wrote B b (l ++ [60]) w w' → WrS w' v B b (l ++ [60]) m) (hl' : (l ++ [60]) ++ m = l') :
    Calls Tryz.prog 154 #[.agg #[v], .pointer (some ⟨b, 0, none⟩)] w fun e w' => e = .returned (.tuple #[]) ∧ Wrote B b l' w w' := by
  obtain ⟨t, x, rfl⟩ := hif
  have Hw := Lib.hid (write_after (.iface t x) 60 B b l m l' (w.alloc (.cells #[.iface t x] 161)) (by simp; omega) hBb (h.alloc _) hlen ⟨t, x, rfl⟩ (fun w' hw => hsub w' (hw.pre (by omega))) hl')
  clear h hsub hl'
  go_enter Tryz.func154, Tryz.ntmps154
  go_wp2_with fail
  refine Hw.out.mono ?_
  rintro e w2 ⟨rfl, hW2⟩
  have HW2 := Lib.hid (hW2.pre (by omega))
  clear hW2
  go_wp2_with fail
  go_end0
  exact ⟨rfl, HW2.out⟩

theorem write_rest (v : Value) (B b : Nat) (l m l' : List UInt8) (w : World) (hb : b < w.heap.size) (hBb : B ≤ b) (h : Bld B b l w) (hlen : l.length + 63 ≤ 100000) (hif : ∃ t x, v = .iface t x)
    (hsub : ∀ w', Wrote B b (l ++ [62]) w w' → WrS w' v B b (l ++ [62]) m) (hl' : (l ++ [62]) ++ m = l') :
    Calls Tryz.prog 157 #[.agg #[v], .pointer (some ⟨b, 0, none⟩)] w fun e w' => e = .returned (.tuple #[]) ∧ Wrote B b l' w w' := by
  obtain ⟨t, x, rfl⟩ := hif
  have Hw := Lib.hid (write_after (.iface t x) 62 B b l m l' (w.alloc (.cells #[.iface t x] 162)) (by simp; omega) hBb (h.alloc _) hlen ⟨t, x, rfl⟩ (fun w' hw => hsub w' (hw.pre (by omega))) hl')
  clear h hsub hl'
  go_enter Tryz.func157, Tryz.ntmps157
  go_wp2_with fail
  refine Hw.out.mono ?_
  rintro e w2 ⟨rfl, hW2⟩
  have HW2 := Lib.hid (hW2.pre (by omega))
  clear hW2
  go_wp2_with fail
  go_end0
  exact ⟨rfl, HW2.out⟩

theorem write_count (v : Value) (B b : Nat) (l m l' : List UInt8) (w : World) (hb : b < w.heap.size) (hBb : B ≤ b) (h : Bld B b l w) (hlen : l.length + 63 ≤ 100000) (hif : ∃ t x, v = .iface t x)
    (hsub : ∀ w', Wrote B b (l ++ [35]) w w' → WrS w' v B b (l ++ [35]) m) (hl' : (l ++ [35]) ++ m = l') :
    Calls Tryz.prog 160 #[.agg #[v], .pointer (some ⟨b, 0, none⟩)] w fun e w' => e = .returned (.tuple #[]) ∧ Wrote B b l' w w' := by
  obtain ⟨t, x, rfl⟩ := hif
  have Hw := Lib.hid (write_after (.iface t x) 35 B b l m l' (w.alloc (.cells #[.iface t x] 163)) (by simp; omega) hBb (h.alloc _) hlen ⟨t, x, rfl⟩ (fun w' hw => hsub w' (hw.pre (by omega))) hl')
  clear h hsub hl'
  go_enter Tryz.func160, Tryz.ntmps160
  go_wp2_with fail
  refine Hw.out.mono ?_
  rintro e w2 ⟨rfl, hW2⟩
  have HW2 := Lib.hid (hW2.pre (by omega))
  clear hW2
  go_wp2_with fail
  go_end0
  exact ⟨rfl, HW2.out⟩
end Go.Proofs.YtahdpocaldhamaaGreat
