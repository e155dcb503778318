/-
  The program's methods 'operands'.
-/
import Derived.Test.YtbcghkdjhicocaaGreatConv
import Derived.Test.YtbcghkdjhicocaaGreatMeth
import Derived.Deep.QuietTactic
namespace Go.Proofs.YtbcghkdjhicocaaGreat
set_option linter.unusedVariables false
open Go.RowKit

/-- what 'operands' leaves -/
def OpP (os : List Value) (w : World) (e : Ending) (w' : World) : Prop := ∃ o oc, e = .returned (.slice o os.length oc) ∧ VsAt w' o os ∧ Below w.heap.size w w'
theorem cell_four (w : World) (v0 v1 v2 v3 : Value) (t : TypeId) : VsAt (w.alloc (.cells #[v0, v1, v2, v3] t)) (some ⟨w.heap.size, 0, none⟩) [v0, v1, v2, v3] := fun _ => ⟨w.heap.size, 0, rfl, fun j v hv => by
  rw [Nat.zero_add, cell_of_row _ _ _ _ _ _ (heap_alloc_new w _)]
  simpa using hv⟩
theorem cell_single (w : World) (v : Value) (t : TypeId) : VsAt (w.alloc (.cells #[v] t)) (some ⟨w.heap.size, 0, none⟩) [v] := fun _ => ⟨w.heap.size, 0, rfl, fun j u hu => by
  rw [Nat.zero_add, cell_of_row _ _ _ _ _ _ (heap_alloc_new w _)]
  simpa using hu⟩

theorem op_text (s : ByteArray) (w : World) : Calls Tryz.prog 78 #[.agg #[.string s]] w (OpP [] w) := by
  go_enter Tryz.func78, Tryz.ntmps78
  go_wp2_with fail
  go_ret
  exact ⟨none, 0, rfl, fun h => absurd h (by simp), (Below.refl _ _).alloc (Nat.le_refl _) _⟩
theorem op_one (t : TypeId) (x : Value) (w : World) : Calls Tryz.prog 72 #[.agg #[.iface t x]] w (OpP [.iface t x] w) := by
  have hB := ((Below.refl w.heap.size w).alloc (Nat.le_refl _) (.cells #[.iface t x] 50)).alloc (by simp) (.cells #[.iface t x] 42)
  have hV := cell_single (w.alloc (.cells #[.iface t x] 50)) (.iface t x) 42
  have HV := Lib.hid (And.intro hV hB)
  clear hV hB
  go_enter Tryz.func72, Tryz.ntmps72
  go_wp2_with fail
  go_ret
  exact ⟨_, _, rfl, by have := HV.out.1; rw [World.size_alloc] at this; exact this, HV.out.2⟩
theorem op_join (os : List Value) (oa : Option Addr) (oc : Nat) (w : World) (h : VsAt w oa os) : Calls Tryz.prog 82 #[.agg #[.slice oa os.length oc]] w (OpP os w) := by
  have hB := (Below.refl w.heap.size w).alloc (Nat.le_refl _) (.cells #[.slice oa os.length oc] 84)
  have HV := Lib.hid (And.intro h hB)
  clear h hB
  go_enter Tryz.func82, Tryz.ntmps82
  go_wp2_with fail
  go_ret
  refine ⟨_, _, rfl, fun hn => ?_, HV.out.2⟩
  obtain ⟨b, off, ho, hc⟩ := HV.out.1 hn
  exact ⟨b, off, ho, fun j v hv => (World.cell?_alloc_lt w _ ⟨b, off + j, none⟩ (World.block_lt_of_cell? w _ (hc j v hv))).trans (hc j v hv)⟩

set_option maxRecDepth 100000 in
theorem op_same (t0 t1 t2 t3 : TypeId) (x0 x1 x2 x3 : Value) (w : World) : Calls Tryz.prog 94 #[.agg #[.iface t0 x0, .iface t1 x1, .iface t2 x2, .iface t3 x3]] w (OpP [.iface t0 x0, .iface t1 x1, .iface t2 x2, .iface t3 x3] w) := by
  have hB := ((Below.refl w.heap.size w).alloc (Nat.le_refl _) (.cells #[.iface t0 x0, .iface t1 x1, .iface t2 x2, .iface t3 x3] 86)).alloc (by simp) (.cells #[.iface t0 x0, .iface t1 x1, .iface t2 x2, .iface t3 x3] 42)
  have hV := cell_four (w.alloc (.cells #[.iface t0 x0, .iface t1 x1, .iface t2 x2, .iface t3 x3] 86)) (.iface t0 x0) (.iface t1 x1) (.iface t2 x2) (.iface t3 x3) 42
  have HV := Lib.hid (And.intro hV hB)
  clear hV hB
  go_enter Tryz.func94, Tryz.ntmps94
  go_wp2_with fail
  go_ret
  exact ⟨_, _, rfl, by have := HV.out.1; rw [World.size_alloc] at this; exact this, HV.out.2⟩
end Go.Proofs.YtbcghkdjhicocaaGreat
