/-
  The program's copyProject: the copy lies in rows that share no block.
-/
import Derived.Test.YtmmjeokmoffdpaaGreatGone
import Derived.Test.YtmmjeokmoffdpaaGreatQBkR
import Derived.Test.YtmmjeokmoffdpaaGreatQRuT
import Derived.Test.YtmmjeokmoffdpaaGreatQPrW
namespace Go.Proofs.YtmmjeokmoffdpaaGreat
set_option linter.unusedVariables false
set_option linter.unusedSimpArgs false
open Go.RowKit

/-- what copyRule leaves -/
def CopR (t : ByteArray) (k : Int) (s : ByteArray) (ks : Fo) (w : World) (e : Ending) (w' : World) : Prop := ∃ a c bk g, e = .returned (.agg #[.string t, .int .i64 k, .string s, .slice a ks.len c]) ∧ CopX w' w.heap.size ks a c bk g ∧ Below w.heap.size w w'
theorem bxR_four {w : World} {g : Nat} {t s : ByteArray} {k : Int} {v : Value} {T : TypeId} (h : BxR w g t k s v T) : w.cell? ⟨g, 0, none⟩ = some (.string t) ∧ w.cell? ⟨g, 1, none⟩ = some (.int .i64 k) ∧ w.cell? ⟨g, 2, none⟩ = some (.string s) ∧ w.cell? ⟨g, 3, none⟩ = some v := ⟨h.facts.1, h.facts.2.1, h.facts.2.2.1, h.facts.2.2.2.1⟩
theorem BxR.other {w : World} {g g' : Nat} {t s : ByteArray} {k : Int} {v : Value} {T : TypeId} (h : BxR w g t k s v T) (hne : g ≠ g') (i : Nat) (u : Value) : BxR (w.setCell ⟨g', i, none⟩ u) g t k s v T := (Below.heap_setCell w _ _ g (fun e => hne (by simpa using e))).trans h

set_option maxRecDepth 100000 in
set_option maxHeartbeats 4000000 in
theorem copyRule_any (t : ByteArray) (k : Int) (s : ByteArray) (ks : Fo) (a : Option Addr) (n c : Nat) (w : World) (hk : KA w 0 w.heap.size ks a n) (hnc : n ≤ c) (hz : ks.size ≤ 1048576) :
    Calls Tryz.prog 65 #[.agg #[.string t, .int .i64 k, .string s, .slice a n c]] w (CopR t k s ks w) := by
  have hB0 := ((Below.refl w.heap.size w).alloc (Nat.le_refl _) (.cells #[.string t, .int .i64 k, .string s, .slice a n c] 44)).alloc (by simp) (.cells #[.string .empty, .int .i64 0, .string .empty, .slice none 0 0] 44)
  have hP0 := (BxR.new w t k s (.slice a n c) 44).alloc (.cells #[.string .empty, .int .i64 0, .string .empty, .slice none 0 0] 44)
  have hE0 := BxR.new (w.alloc (.cells #[.string t, .int .i64 k, .string s, .slice a n c] 44)) .empty 0 .empty (.slice none 0 0) 44
  simp only [World.size_alloc] at hE0
  have hD := (Below.refl ((w.alloc (.cells #[.string t, .int .i64 k, .string s, .slice a n c] 44)).alloc (.cells #[.string .empty, .int .i64 0, .string .empty, .slice none 0 0] 44)).heap.size ((w.alloc (.cells #[.string t, .int .i64 k, .string s, .slice a n c] 44)).alloc (.cells #[.string .empty, .int .i64 0, .string .empty, .slice none 0 0] 44))).drew
  have hBD := hB0.trans (hD.mono hB0.size)
  have Hl := Lib.hid (cpx_all ks.size hz k s ks (Nat.le_refl _) a n c _ (hk.next hBD) hnc)
  have hPD := hP0.next hD
  have hED := hE0.next hD
  have HC0 := Lib.hid (bxR_four hPD)
  clear hk
  go_enter Tryz.func65, Tryz.ntmps65
  go_wp2_with fail
  go_region_held3 (fun w' => w'.cell? ⟨w.heap.size, 0, none⟩ = some (.string t) ∧ w'.cell? ⟨w.heap.size, 1, none⟩ = some (.int .i64 k) ∧ w'.cell? ⟨w.heap.size, 2, none⟩ = some (.string s) ∧ w'.cell? ⟨w.heap.size, 3, none⟩ = some (.slice a n c)) (first | exact HC0.out | exact HC1.out | exact bxR_four ((((hP1.other (by omega) 0 _).other (by omega) 1 _).other (by omega) 2 _).other (by omega) 3 _))
    ((first
      | (go_at_call 74; refine Hl.out.mono ?_; rintro e v1 ⟨a4, c4, bk4, g4, rfl, hcx, hC1⟩; have hP1 := hPD.next hC1; have hE1 := hED.next hC1; have HC1 := Lib.hid (bxR_four hP1); obtain ⟨y0, y1, y2, y3, z0, z1, z2, z3, hel⟩ := hE1.facts)))
  all_goals go_wp2_with fail
  all_goals
    have hcx' := (((hcx.setCell (g' := w.heap.size + 1) (by simp) 0 (.string t)).setCell (g' := w.heap.size + 1) (by simp) 1 (.int .i64 k)).setCell (g' := w.heap.size + 1) (by simp) 2 (.string s)).setCell (g' := w.heap.size + 1) (by simp) 3 (.slice a4 ks.len c4)
    have B1 := hBD.trans (hC1.mono hBD.size)
    refine bodyPost_ret (v := .agg #[.string t, .int .i64 k, .string s, .slice a4 ks.len c4]) (by simp [results, Tryz.results65, go_sem, *]) rfl ?_
    exact ⟨a4, c4, bk4, g4, rfl, hcx'.mono (by simp; omega), (((B1.setCell (Nat.le_succ _) _).setCell (Nat.le_succ _) _).setCell (Nat.le_succ _) _).setCell (Nat.le_succ _) _⟩
end Go.Proofs.YtmmjeokmoffdpaaGreat
