/-
  l1Bend, DrawFormatFiles and DrawParseFiles: what they leave.
-/
import Derived.Test.YtoggclkbmhgfhaaMutF
import Derived.Test.YtoggclkbmhgfhaaRow
import Derived.Test.YtoggclkbmhgfhaaFFormat
import Derived.Deep.RegionHeld3
import Derived.Laws.Concat
import Derived.Outline
namespace Go.Proofs.Ytoggclkbmhgfhaa
set_option linter.unusedVariables false
open Go.RowKit

theorem StrsAt.step {w w' : World} {Q : ByteArray → Prop} {B R n c p q k g m : Nat} {a : Option Addr} (h : StrsAt w Q g m) (hs : Step w w' B R a n c p q k) (hg : g < w.heap.size) (hne : g ≠ R) : StrsAt w' Q g m := fun i hi => by
  obtain ⟨s, h1, h2⟩ := h i hi
  exact ⟨s, (hs.cell (i := ⟨g, i, none⟩) hg hne).trans h1, h2⟩

set_option maxRecDepth 100000 in
set_option maxHeartbeats 2000000 in
theorem bend_any {n c p B R g m d : Nat} {a : Option Addr} {w : World} (s : ByteArray) (h : Rd w B R a n c p) (hp : p ≤ 1000000000) (hs : s.size ≤ 4000) (hm1 : 1 ≤ m) (hm : m ≤ 1000) (hg : g < w.heap.size) (hne : g ≠ R) (hl : StrsAt w (fun s => s.size ≤ 10) g m) :
    Calls Try.prog 29 #[.pointer (some ⟨R, 0, none⟩), .string s, .slice (some ⟨g, 0, none⟩) m d] w fun e w' => DrawPost (fun s => s.size ≤ 9000) w B R a n c p 4 e w' := by
  by_cases h0 : s.size = 0
  · have hd : ((s.size : Int) == 0) = true := by rw [beq_iff_eq]; omega
    have H0 : Hid (s.size ≤ 9000) := Lib.hid (by omega)
    clear h0
    go_enter Try.func29, Try.ntmps29
    go_wp2_with fail
    go_ret
    exact ⟨s, p, rfl, H0.out, (Step.refl h).more (by omega)⟩
  · have hd : ((s.size : Int) == 0) = false := by rw [beq_eq_false_iff_ne]; omega
    have hn0 : ¬ s.size = 0 := h0
    clear h0
    go_enter Try.func29, Try.ntmps29
    go_wp2_with fail
    refine (pick_step (m := 2) h (by omega) (by omega)).mono ?_
    rintro e w1 ⟨⟨x, rfl, _, _⟩, hst1⟩
    by_cases x0 : x = 0
    · subst x0
      go_wp2_with fail
      go_ret
      exact ⟨s, _, rfl, by omega, hst1.more (by omega)⟩
    · have hx : ((x : Int) == 0) = false := by rw [beq_eq_false_iff_ne]; omega
      go_wp2_with fail
      refine (pick_step (m := (s.size : Int)) hst1.rd (by omega) (by omega)).mono ?_
      rintro e w2 ⟨⟨k, rfl, hk, _⟩, hst2⟩
      have hks := hk (by omega)
      have hks2 : k < s.size := by omega
      have hst := hst1.trans hst2
      have hl2 := hl.step hst hg hne
      have hg2 : g < w2.heap.size := Nat.lt_of_lt_of_le hg hst.grown.size
      have c1 : (0 : Int) ≤ (k : Int) := by omega
      have c2 : (k : Int) ≤ (s.size : Int) := by omega
      clear hk hst1 hst2
      go_wp2_with fail
      go_region_held3 (fun _ => True) (trivial)
        ((first
          | (go_at_call 40; refine (of_any (hst.rd.drewN 1) (by omega) (by omega) hm1 hne hl2).mono ?_; rintro e w3 ⟨⟨b, rfl, hb⟩, hst3⟩; have q1 := fun W => run_string_add_sum (P := Try.prog) W (s.extract 0 k) b (by rw [ByteArray.size_extract]; omega))
          | (go_at_call 39; refine (pick_step (m := 2) hst3.rd (by omega) (by omega)).mono ?_; rintro e w4 ⟨⟨j, rfl, hj, _⟩, hst4⟩; have hj2 := hj (by omega); have q2 := fun W => run_string_add_sum (P := Try.prog) W (s.extract 0 k ++ b) (s.extract (k + j) s.size) (by rw [ByteArray.size_append, ByteArray.size_extract, ByteArray.size_extract]; omega); have c3 : (0 : Int) ≤ (k : Int) + (j : Int) := (by omega); have c4 : (k : Int) + (j : Int) ≤ (s.size : Int) := (by omega); have c5 : IntKind.i64.wrap ((k : Int) + (j : Int)) = (k : Int) + (j : Int) := IntWalk.i64_in _ (by omega); have c6 : ((k : Int) + (j : Int)).toNat = k + j := (by omega); clear hj)))
      have hq : (s.extract 0 k ++ b ++ s.extract (k + j) s.size).size ≤ 9000 := by
        rw [ByteArray.size_append, ByteArray.size_append, ByteArray.size_extract, ByteArray.size_extract]; omega
      go_wp2_with fail
      go_ret
      have h34 := hst3.trans hst4
      exact ⟨_, _, rfl, hq, ((hst.drewN 1).trans h34).more (by omega)⟩

/-- what DrawFormatFiles leaves: a readable list -/
def FilesDraw (w : World) (e : Ending) (w' : World) : Prop :=
  ∃ a c fs, e = .returned (.slice a (List.length fs) c) ∧ FilesAt w' w'.heap.size a (List.length fs) fs ∧ Short 100 fs ∧ List.length fs ≤ 10 ∧ Below w.heap.size w w'

set_option maxHeartbeats 1000000 in
theorem drawValid_any (a : Option Addr) (n c : Nat) (w : World) (hb : BytesAt w w.heap.size a n) (hn : n ≤ c) (hc : c ≤ maxLen) :
    Calls Try.prog 17 #[.slice a n c] w (FilesDraw w) := by
  go_enter Try.func17, Try.ntmps17
  go_wp2_with fail
  refine (open_any a n c w hb hn hc).mono ?_
  rintro e w1 ⟨R, n', c', rfl, hle, hr, hB⟩
  go_wp2_with fail
  refine (files_any hr (by omega)).mono ?_
  rintro e w2 ⟨a2, c2, fs, q2, rfl, hf2, hs2, hl2, hst2⟩
  have hq2 := hst2.hi
  go_wp2_with fail
  refine (mutate_any a2 c2 5 fs hst2.rd (by omega) hf2 (hs2.more (by omega)) hl2 (by omega)).mono ?_
  rintro e w3 ⟨a3, c3, gs, q3, rfl, hf3, hs3, hl3, hst3⟩
  go_wp2_with fail
  go_ret
  exact ⟨_, _, gs, rfl, hf3, hs3, by omega, hB.trans ((hst2.trans hst3).toBelow hle hB.size)⟩
theorem drawFormat_any (a : Option Addr) (n c : Nat) (w : World) (hb : BytesAt w w.heap.size a n) (hn : n ≤ c) (hc : c ≤ maxLen) :
    Calls Try.prog 5 #[.slice a n c] w (FilesDraw w) := by
  go_enter Try.func5, Try.ntmps5
  go_wp2_with fail
  refine (drawValid_any a n c w hb hn hc).mono ?_
  rintro e w1 ⟨a1, c1, fs, rfl, hf, hs, hl, hB⟩
  go_wp2_with fail
  go_ret
  exact ⟨_, _, fs, rfl, hf, hs, hl, hB⟩

/-- what DrawParseFiles leaves: a text -/
def TextDraw (w : World) (e : Ending) (w' : World) : Prop := ∃ s, e = .returned (.string s) ∧ s.size ≤ 9000 ∧ Below w.heap.size w w'
theorem fmtS_size (fs : List Fl) : (fmtS fs).size ≤ 840 := by
  unfold fmtS
  split
  · rename_i h
    have h1 := fmtF_length h (Nat.le_refl _)
    rw [List.take_length] at h1
    have h2 := valid_length h
    show (fmtF fs).toArray.size ≤ 840
    rw [List.size_toArray]
    omega
  · simp

set_option maxHeartbeats 1000000 in
theorem drawParse_any (a : Option Addr) (n c : Nat) (w : World) (hb : BytesAt w w.heap.size a n) (hn : n ≤ c) (hc : c ≤ maxLen) :
    Calls Try.prog 12 #[.slice a n c] w (TextDraw w) := by
  go_enter Try.func12, Try.ntmps12
  go_wp2_with fail
  refine (open_any a n c w hb hn hc).mono ?_
  rintro e w1 ⟨R, n', c', rfl, hle, hr, hB⟩
  go_wp2_with fail
  refine (files_any hr (by omega)).mono ?_
  rintro e w2 ⟨a2, c2, fs, q2, rfl, hf2, hs2, hl2, hst2⟩
  have hq2 := hst2.hi
  go_wp2_with fail
  refine (formatS_any a2 _ c2 fs _ hf2 (hs2.fits (by omega)) (by simp only [maxLen]; omega)).mono ?_
  rintro e w3 ⟨rfl, hB3⟩
  have hst3 := hst2.below hB3
  have hfs := fmtS_size fs
  have hR := hst3.rd.lt
  go_wp2_with fail
  refine (bend_any (m := 6) (fmtS fs) (hst3.rd.alloc _) (by omega) (by omega) (by omega) (by omega) (by simp) (by omega) ?_).mono ?_
  · refine StrsAt.of_block (Q := fun s => s.size ≤ 10) (heap_alloc_new _ _) ?_
    simp; decide
  rintro e w4 ⟨s, q4, rfl, hs4, hst4⟩
  go_wp2_with fail
  go_ret
  exact ⟨s, rfl, hs4, hB.trans (((hst3.alloc _).trans hst4).toBelow hle hB.size)⟩
end Go.Proofs.Ytoggclkbmhgfhaa
