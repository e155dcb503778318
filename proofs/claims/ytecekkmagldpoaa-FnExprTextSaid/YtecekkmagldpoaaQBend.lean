/-
  l1Bend: what it leaves.
-/
import Derived.Test.YtecekkmagldpoaaQStepK
import Derived.Deep.RegionHeld3
import Derived.Laws.Concat
import Derived.Outline
namespace Go.Proofs.Ytecekkmagldpoaa
set_option linter.unusedVariables false
open Go.RowKit

theorem StrsAt.step {w w' : World} {Q : ByteArray → Prop} {B R n c p q k g m : Nat} {a : Option Addr} (h : StrsAt w Q g m) (hs : Step w w' B R a n c p q k) (hg : g < w.heap.size) (hne : g ≠ R) : StrsAt w' Q g m := fun i hi => by
  obtain ⟨s, h1, h2⟩ := h i hi
  exact ⟨s, (hs.cell (i := ⟨g, i, none⟩) hg hne).trans h1, h2⟩

set_option maxRecDepth 100000 in
set_option maxHeartbeats 2000000 in
theorem bend_any {n c p B R g m d : Nat} {a : Option Addr} {w : World} (s : ByteArray) (h : Rd w B R a n c p) (hp : p ≤ 1000000000) (hs : s.size ≤ 4000) (hm1 : 1 ≤ m) (hm : m ≤ 1000) (hg : g < w.heap.size) (hne : g ≠ R) (hl : StrsAt w (fun s => s.size ≤ 10) g m) :
    Calls Try.prog 21 #[.pointer (some ⟨R, 0, none⟩), .string s, .slice (some ⟨g, 0, none⟩) m d] w fun e w' => DrawPost (fun s => s.size ≤ 9000) w B R a n c p 4 e w' := by
  by_cases h0 : s.size = 0
  · have hd : ((s.size : Int) == 0) = true := by rw [beq_iff_eq]; omega
    have H0 : Hid (s.size ≤ 9000) := Lib.hid (by omega)
    clear h0
    go_enter Try.func21, Try.ntmps21
    go_wp2_with fail
    go_ret
    exact ⟨s, p, rfl, H0.out, (Step.refl h).more (by omega)⟩
  · have hd : ((s.size : Int) == 0) = false := by rw [beq_eq_false_iff_ne]; omega
    have hn0 : ¬ s.size = 0 := h0
    clear h0
    go_enter Try.func21, Try.ntmps21
    go_wp2_with fail
    refine (pick_step (m := 2) h (by omega) (by omega)).mono ?_
    rintro e w1 ⟨⟨x, rfl, _, _⟩, hst1⟩
    by_cases x0 : x = 0
    · subst x0
      go_wp2_with fail
      go_ret
      exact ⟨s, _, rfl, by omega, hst1.more (by omega)⟩
    · have hx : ((x : Int) == 0) = false := by rw [beq_eq_false_iff_ne]; omega
      go_wp2_with fail
      refine (pick_step (m := (s.size : Int)) hst1.rd (by omega) (by omega)).mono ?_
      rintro e w2 ⟨⟨k, rfl, hk, _⟩, hst2⟩
      have hks := hk (by omega)
      have hks2 : k < s.size := by omega
      have hst := hst1.trans hst2
      have hl2 := hl.step hst hg hne
      have hg2 : g < w2.heap.size := Nat.lt_of_lt_of_le hg hst.grown.size
      have c1 : (0 : Int) ≤ (k : Int) := by omega
      have c2 : (k : Int) ≤ (s.size : Int) := by omega
      clear hk hst1 hst2
      go_wp2_with fail
      go_region_held3 (fun _ => True) (trivial)
        ((first
          | (go_at_call 35; refine (of_any (hst.rd.drewN 1) (by omega) (by omega) hm1 hne hl2).mono ?_; rintro e w3 ⟨⟨b, rfl, hb⟩, hst3⟩; have q1 := fun W => run_string_add_sum (P := Try.prog) W (s.extract 0 k) b (by rw [ByteArray.size_extract]; omega))
          | (go_at_call 34; refine (pick_step (m := 2) hst3.rd (by omega) (by omega)).mono ?_; rintro e w4 ⟨⟨j, rfl, hj, _⟩, hst4⟩; have hj2 := hj (by omega); have q2 := fun W => run_string_add_sum (P := Try.prog) W (s.extract 0 k ++ b) (s.extract (k + j) s.size) (by rw [ByteArray.size_append, ByteArray.size_extract, ByteArray.size_extract]; omega); have c3 : (0 : Int) ≤ (k : Int) + (j : Int) := (by omega); have c4 : (k : Int) + (j : Int) ≤ (s.size : Int) := (by omega); have c5 : IntKind.i64.wrap ((k : Int) + (j : Int)) = (k : Int) + (j : Int) := IntWalk.i64_in _ (by omega); have c6 : ((k : Int) + (j : Int)).toNat = k + j := (by omega); clear hj)))
      have hq : (s.extract 0 k ++ b ++ s.extract (k + j) s.size).size ≤ 9000 := by
        rw [ByteArray.size_append, ByteArray.size_append, ByteArray.size_extract, ByteArray.size_extract]; omega
      go_wp2_with fail
      go_ret
      have h34 := hst3.trans hst4
      exact ⟨_, _, rfl, hq, ((hst.drewN 1).trans h34).more (by omega)⟩

end Go.Proofs.Ytecekkmagldpoaa
