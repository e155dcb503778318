/-
  The program's copyProject: the copy lies in rows that share no block.
-/
import Derived.Test.YteofldbkjnpmnaaGreatGone
import Derived.Test.YteofldbkjnpmnaaGreatQBkR
import Derived.Test.YteofldbkjnpmnaaGreatQRuT
import Derived.Test.YteofldbkjnpmnaaGreatQPrW
namespace Go.Proofs.YteofldbkjnpmnaaGreat
set_option linter.unusedVariables false
set_option linter.unusedSimpArgs false
open Go.RowKit

theorem files_under : Tryz.prog.underlying 30 = some (.slice 37) := by kernel_rfl
theorem copyFile_any (p t : ByteArray) (w : World) :
    Calls Tryz.prog 84 #[.agg #[.string p, .string t]] w fun e w' => e = .returned (.agg #[.string p, .string t]) ∧ Below w.heap.size w w' := by
  go_enter Tryz.func84, Tryz.ntmps84
  go_wp2_with fail
  exact bodyPost_ret (v := .agg #[.string p, .string t]) (by simp [results, Tryz.results84, go_sem]) rfl ⟨rfl, ((Below.refl _ _).alloc (Nat.le_refl _) _).alloc (by simp) _⟩

set_option maxRecDepth 100000 in
set_option maxHeartbeats 4000000 in
theorem copyFiles_any (a : Option Addr) (n c : Nat) (fs : List Fl) (w : World) (hf : FilesAt w w.heap.size a n fs) (hn : n ≤ 1048576) :
    Calls Tryz.prog 83 #[.slice a n c, .func (.func 84) #[] #[]] w fun e w' => ∃ v, e = .returned v ∧ OwnsF w' w.heap.size v fs ∧ Below w.heap.size w w' := by
  obtain ⟨i0, hi, hz0, hz1, hz2⟩ := info_parts fput_info
  have hlen := hf.1
  go_enter Tryz.func83, Tryz.ntmps83
  go_wp2_with fail
  go_loopw [5, 10] (fun v i wr => ∃ j : Nat, j ≤ n ∧ i = .int .i64 j ∧ OwnsF wr w.heap.size v (fs.take j) ∧ Below w.heap.size w wr) (fun _ i _ => n - (intOf i).toNat)
  case atStart => exact ⟨0, Nat.zero_le _, rfl, World.ownsRow_nil _ _ _ _, Below.refl _ _⟩
  case round =>
    obtain ⟨j, hj, rfl, hown, hB⟩ := hrel
    have hsw := hB.size
    have htl : (fs.take j).length = j := by simp; omega
    by_cases hlt : j < n
    · obtain ⟨b, off, p, t, rfl, hb, hg, hc1, hc2⟩ := (hf.below hB).get hlt
      have hjj : (j : Int) < (n : Int) := by omega
      have hj0 : (0 : Int) ≤ (j : Int) := by omega
      have Hst := Lib.hid (show fs.take (j + 1) = fs.take j ++ [(p, t)] from by rw [List.take_add_one, hg]; simp)
      have Hown := Lib.hid hown
      clear hown hg
      go_wp2_with fail
      refine (copyFile_any p t _).mono ?_
      rintro e w4 ⟨rfl, hB4⟩
      have hBx := (Below.refl wr.heap.size wr).alloc (Nat.le_refl _) (.cells #[.string p, .string t] 37)
      have B4 := hBx.trans (hB4.mono hBx.size)
      have Hown4 := Lib.hid (own_raise Hown.out B4)
      have hs4 := B4.size
      clear hc1 hc2
      go_wp2_with (at_builtin; refine wpList_append_own _ rfl _ _ 30 rfl w.heap.size 37 i0 _ 2 32 files_under hi hz0 hz1 hz2 rfl (by decide) _ _ _ rfl (World.ownsRow.alloc Hown4.out _) ⟨w4.heap.size, 0, none⟩ 1 1 [.string p, .string t] rfl rfl (two_new _ _ _ _) (by simp [Value.oneCell']) (by simp only [maxLen]; omega) (by omega) (by simp; omega) ?_; intro v2 w2 hown2 hgrow _)
      have hB6 := ((hB.trans (B4.mono hsw)).alloc (by omega) (.cells #[.string p, .string t] 37)).grown hgrow (by simp; omega) (own_at Hown4.out)
      exact ⟨⟨j + 1, by omega, by go_num, by rw [Hst.out]; exact OwnsF.grew hown2, hB6⟩, by simp [intOf]; omega⟩
    · have hjn : ¬ (j : Int) < (n : Int) := by omega
      have hall : fs.take j = fs := List.take_of_length_le (by omega)
      rw [hall] at hown
      have Hown := Lib.hid hown
      clear hown hall htl
      go_wp2_with fail
      go_ret
      exact ⟨_, rfl, Hown.out, hB⟩

/-- what copyRule leaves -/
def CopR (t : ByteArray) (k : Int) (s : ByteArray) (ks : Fo) (w : World) (e : Ending) (w' : World) : Prop := ∃ a c bk g, e = .returned (.agg #[.string t, .int .i64 k, .string s, .slice a ks.len c]) ∧ CopX w' w.heap.size ks a c bk g ∧ Below w.heap.size w w'
theorem bxR_four {w : World} {g : Nat} {t s : ByteArray} {k : Int} {v : Value} {T : TypeId} (h : BxR w g t k s v T) : w.cell? ⟨g, 0, none⟩ = some (.string t) ∧ w.cell? ⟨g, 1, none⟩ = some (.int .i64 k) ∧ w.cell? ⟨g, 2, none⟩ = some (.string s) ∧ w.cell? ⟨g, 3, none⟩ = some v := ⟨h.facts.1, h.facts.2.1, h.facts.2.2.1, h.facts.2.2.2.1⟩
theorem BxR.other {w : World} {g g' : Nat} {t s : ByteArray} {k : Int} {v : Value} {T : TypeId} (h : BxR w g t k s v T) (hne : g ≠ g') (i : Nat) (u : Value) : BxR (w.setCell ⟨g', i, none⟩ u) g t k s v T := (Below.heap_setCell w _ _ g (fun e => hne (by simpa using e))).trans h

set_option maxRecDepth 100000 in
set_option maxHeartbeats 4000000 in
theorem copyRule_any (t : ByteArray) (k : Int) (s : ByteArray) (ks : Fo) (a : Option Addr) (n c : Nat) (w : World) (hk : KA w 0 w.heap.size ks a n) (hnc : n ≤ c) (hz : ks.size ≤ 1048576) :
    Calls Tryz.prog 86 #[.agg #[.string t, .int .i64 k, .string s, .slice a n c]] w (CopR t k s ks w) := by
  have hB0 := ((Below.refl w.heap.size w).alloc (Nat.le_refl _) (.cells #[.string t, .int .i64 k, .string s, .slice a n c] 55)).alloc (by simp) (.cells #[.string .empty, .int .i64 0, .string .empty, .slice none 0 0] 55)
  have hP0 := (BxR.new w t k s (.slice a n c) 55).alloc (.cells #[.string .empty, .int .i64 0, .string .empty, .slice none 0 0] 55)
  have hE0 := BxR.new (w.alloc (.cells #[.string t, .int .i64 k, .string s, .slice a n c] 55)) .empty 0 .empty (.slice none 0 0) 55
  simp only [World.size_alloc] at hE0
  have hD := (Below.refl ((w.alloc (.cells #[.string t, .int .i64 k, .string s, .slice a n c] 55)).alloc (.cells #[.string .empty, .int .i64 0, .string .empty, .slice none 0 0] 55)).heap.size ((w.alloc (.cells #[.string t, .int .i64 k, .string s, .slice a n c] 55)).alloc (.cells #[.string .empty, .int .i64 0, .string .empty, .slice none 0 0] 55))).drew
  have hBD := hB0.trans (hD.mono hB0.size)
  have Hl := Lib.hid (cpx_all ks.size hz k s ks (Nat.le_refl _) a n c _ (hk.next hBD) hnc)
  have hPD := hP0.next hD
  have hED := hE0.next hD
  have HC0 := Lib.hid (bxR_four hPD)
  clear hk
  go_enter Tryz.func86, Tryz.ntmps86
  go_wp2_with fail
  go_region_held3 (fun w' => w'.cell? ⟨w.heap.size, 0, none⟩ = some (.string t) ∧ w'.cell? ⟨w.heap.size, 1, none⟩ = some (.int .i64 k) ∧ w'.cell? ⟨w.heap.size, 2, none⟩ = some (.string s) ∧ w'.cell? ⟨w.heap.size, 3, none⟩ = some (.slice a n c)) (first | exact HC0.out | exact HC1.out | exact bxR_four ((((hP1.other (by omega) 0 _).other (by omega) 1 _).other (by omega) 2 _).other (by omega) 3 _))
    ((first
      | (go_at_call 96; refine Hl.out.mono ?_; rintro e v1 ⟨a4, c4, bk4, g4, rfl, hcx, hC1⟩; have hP1 := hPD.next hC1; have hE1 := hED.next hC1; have HC1 := Lib.hid (bxR_four hP1); obtain ⟨y0, y1, y2, y3, z0, z1, z2, z3, hel⟩ := hE1.facts)))
  all_goals go_wp2_with fail
  all_goals
    have hcx' := (((hcx.setCell (g' := w.heap.size + 1) (by simp) 0 (.string t)).setCell (g' := w.heap.size + 1) (by simp) 1 (.int .i64 k)).setCell (g' := w.heap.size + 1) (by simp) 2 (.string s)).setCell (g' := w.heap.size + 1) (by simp) 3 (.slice a4 ks.len c4)
    have B1 := hBD.trans (hC1.mono hBD.size)
    refine bodyPost_ret (v := .agg #[.string t, .int .i64 k, .string s, .slice a4 ks.len c4]) (by simp [results, Tryz.results86, go_sem, *]) rfl ?_
    exact ⟨a4, c4, bk4, g4, rfl, hcx'.mono (by simp; omega), (((B1.setCell (Nat.le_succ _) _).setCell (Nat.le_succ _) _).setCell (Nat.le_succ _) _).setCell (Nat.le_succ _) _⟩
end Go.Proofs.YteofldbkjnpmnaaGreat
