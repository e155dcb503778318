/-
  More of the random source: num, l1Path; steps beside rows of one's own.
-/
import Derived.Test.YtahdpocaldhamaaGreatQDraw0
import Derived.OwnWalk
import Derived.RangeFuncBox
namespace Go.Proofs.YtahdpocaldhamaaGreat
set_option linter.unusedVariables false
open Go.RowKit

/-- a row of the call's own stays where the reader is asked -/
theorem row_step {w w' : World} {B R n c p q k base e size m : Nat} {a : Option Addr} {v : Value} {xs : List Value} (h : w.ownsRow base e size v m xs) (hR : R < base) (hs : Step w w' B R a n c p q k) : w'.ownsRow base e size v m xs :=
  World.ownsRow.kept h hs.grown (.inr (fun e => by have := (h.lt R e).1; omega))

theorem Step.setNew {w w' : World} {B R n c p q k g j : Nat} {a : Option Addr} (h : Step w w' B R a n c p q k) (hg : w.heap.size ≤ g) (u : Value) : Step w (w'.setCell ⟨g, j, none⟩ u) B R a n c p q k := by
  have hR := h.lt
  have hB := h.rd.le
  refine ⟨h.rd.keep (fun i => World.cell?_setCell_other w' _ _ _ (by simp; try omega)) (fun i => World.frozen?_setCell ..) (fun i hi => World.cell?_setCell_other w' _ _ _ (by rintro rfl; simp at hi; omega)), h.lo, h.hi, grown_set h.grown (.inr hg) u, h.lt⟩
theorem Step.grew {w w' w'' : World} {B R n c p q k : Nat} {a : Option Addr} {row : Option Nat} (h : Step w w' B R a n c p q k) (hg : w'.grownBy w'' row) (hr : ∀ g, row = some g → w.heap.size ≤ g ∧ g ≠ R) : Step w w'' B R a n c p q k := by
  have hR := h.lt
  have hB := h.rd.le
  have hs := h.grown.size
  have hblk : ∀ i, i < w.heap.size → w''.heap[i]? = w'.heap[i]? := fun i hi => hg.block i (by omega) (fun e => by have := (hr i e.symm).1; omega)
  have hc : ∀ i : Addr, i.block < w.heap.size → w''.cell? i = w'.cell? i := fun i hi => World.cell?_of_block (hblk i.block hi)
  refine ⟨h.rd.keep (fun i => hc _ hR) (fun i => by simp only [World.frozen?, hblk R hR]) (fun i hi => hc i (by omega)), h.lo, h.hi,
    ⟨hg.os.trans h.grown.os, hg.tape.trans h.grown.tape, hg.output.trans h.grown.output, Nat.le_trans hs hg.size, fun i hi hne => (hblk i hi).trans (h.grown.block i hi hne)⟩, h.lt⟩
/-- what 'num' leaves -/
def NumPost (Q : Int → Prop) (w : World) (B R : Nat) (a : Option Addr) (n c p : Nat) (e : Ending) (w' : World) : Prop :=
  (∃ s : Int, e = .returned (.int .i64 s) ∧ Q s) ∧ Step w w' B R a n c p (p + 1) 1
theorem num_new {n c p B R d : Nat} {a : Option Addr} {w : World} {T : TypeId} {cs : Array Value} (Q : Int → Prop) (m : Nat) (h : Rd w B R a n c p) (hp : p ≤ 1073741824) (hm : m ≤ 1048576) (hm1 : 1 ≤ m) (hsz : cs.size = m) (hQ : ∀ u ∈ cs.toList, ∃ s, u = .int .i64 s ∧ Q s) :
    Calls Tryz.prog 45 #[.pointer (some ⟨R, 0, none⟩), .slice (some ⟨w.heap.size, 0, none⟩) m d] (w.alloc (.cells cs T)) fun e w' => NumPost Q (w.alloc (.cells cs T)) B R a n c p e w' := by
  have hR := h.lt
  go_enter Tryz.func45, Tryz.ntmps45
  go_wp2_with fail
  refine (pick_step (h.alloc _) hp (by omega)).mono ?_
  rintro e w1 ⟨⟨x, rfl, hlt, _⟩, hst⟩
  have hxm := hlt (by omega)
  have hxs : x < cs.size := by omega
  obtain ⟨s, hs, hq⟩ := hQ (cs[x]) (by simp)
  have hsc : (w.alloc (.cells cs T)).cell? ⟨w.heap.size, x, none⟩ = some (.int .i64 s) := by rw [cell_of_row _ _ x _ _ _ (heap_alloc_new w _)]; simp [hxs, hs]
  have hsc' : w1.cell? ⟨w.heap.size, x, none⟩ = some (.int .i64 s) := (hst.cell (i := ⟨w.heap.size, x, none⟩) (by simp) (by simp; omega)).trans hsc
  clear hlt hs
  go_wp2_with fail
  go_ret
  exact ⟨⟨s, rfl, hq⟩, hst⟩

set_option maxHeartbeats 400000 in
theorem path_any {n c p B R : Nat} {a : Option Addr} {w : World} (h : Rd w B R a n c p) (hp : p ≤ 1073741824) :
    Calls Tryz.prog 89 #[.pointer (some ⟨R, 0, none⟩)] w fun e w' => DrawPost (fun s => s.size ≤ 10) w B R a n c p 1 e w' := by
  have hR := h.lt
  go_enter Tryz.func89, Tryz.ntmps89
  go_wp2_with fail
  refine (of_new (fun s => s.size ≤ 10) 7 h hp (by omega) (by omega) rfl ?_).mono ?_
  · simp; decide
  rintro e w1 ⟨⟨s, rfl, hq⟩, hst⟩
  go_wp2_with fail
  go_ret
  exact ⟨s, _, rfl, hq, (((Step.refl h).alloc _).trans hst).more (by omega)⟩

end Go.Proofs.YtahdpocaldhamaaGreat
