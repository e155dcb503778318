/-
  The model's ExprValid: the count of nodes, and the whole.
-/
import Derived.Test.YtceiafncpimihaaGreatQTreeS
import Derived.Deep.QuietTactic
namespace Go.Proofs.YtceiafncpimihaaGreat
set_option linter.unusedVariables false
open Go.RowKit

theorem shape_all (N : Nat) : ∀ k s ks, Fo.size ks ≤ N → ShC k s ks := by
  induction N with
  | zero => exact fun k s ks hN => shape_of k s ks fun k' s' ks' h => absurd h (by omega)
  | succ N ih => exact fun k s ks hN => shape_of k s ks fun k' s' ks' h => ih k' s' ks' (by omega)
/-- the contract of l2Count at one node -/
def CoC (ks : Fo) : Prop := ∀ (a : Option Addr) (n c d : Nat) (k : Int) (s : ByteArray) (w : World), KA w 0 w.heap.size ks a n → ks.size ≤ 1048576 → d ≤ 6 →
  Calls Tryz.prog 89 #[.agg #[.int .i64 k, .string s, .slice a n c], .int .i64 d] w fun e w' => e = .returned (.int .i64 (count1 ks d : Nat)) ∧ Below w.heap.size w w'

set_option maxRecDepth 100000 in
set_option maxHeartbeats 1000000 in
theorem count_of (ks : Fo) (ih : ∀ ks' : Fo, ks'.size < ks.size → CoC ks') : CoC ks := by
  intro a n c d k s w hk hsz0 hd
  obtain rfl : ks.len = n := hk.1
  have hln := ks.len_size
  have hB0 := (Below.refl w.heap.size w).alloc (Nat.le_refl _) (.cells #[.int .i64 k, .string s, .slice a ks.len c] 43)
  have hle : ∀ f : Fo, count f (d - 1) ≤ f.size := fun f => count_le f _
  have hlk := hle ks
  by_cases h0 : d = 0
  · subst h0
    go_enter Tryz.func89, Tryz.ntmps89
    go_wp2_with fail
    go_loopw [5, 6] (fun m i wr => m = .int .i64 1 ∧ i = .int .i64 0 ∧ Below (w.alloc (.cells #[.int .i64 k, .string s, .slice a ks.len c] 43)).heap.size (w.alloc (.cells #[.int .i64 k, .string s, .slice a ks.len c] 43)) wr) (fun _ i _ => 0)
    case atStart => exact ⟨rfl, rfl, Below.refl _ _⟩
    case round =>
      obtain ⟨rfl, rfl, hB⟩ := hrel
      obtain ⟨_, _, hbx⟩ := box_cells hB
      have hBB := hB0.trans (hB.mono (by simp))
      by_cases hl : (0 : Int) < (ks.len : Int)
      · go_wp2_with fail
        go_ret
        exact ⟨rfl, hBB⟩
      · go_wp2_with fail
        go_ret
        exact ⟨rfl, hBB⟩
  · have hd0 : 0 < d := by omega
    clear h0
    have hc1 : count1 ks d = 1 + count ks (d - 1) := by unfold count1; rw [if_pos hd0]
    have Hc1 := Lib.hid hc1
    clear hc1
    go_enter Tryz.func89, Tryz.ntmps89
    go_wp2_with fail
    go_loopw [5, 6] (fun m i wr => ∃ j x : Nat, j ≤ ks.len ∧ i = .int .i64 j ∧ m = .int .i64 x ∧ x + count (ks.drop j) (d - 1) = 1 + count ks (d - 1) ∧ Below (w.alloc (.cells #[.int .i64 k, .string s, .slice a ks.len c] 43)).heap.size (w.alloc (.cells #[.int .i64 k, .string s, .slice a ks.len c] 43)) wr) (fun _ i _ => ks.len - (intOf i).toNat)
    case atStart => exact ⟨0, 1, Nat.zero_le _, rfl, rfl, by rw [Fo.drop_zero], Below.refl _ _⟩
    case round =>
      obtain ⟨j, x, hj, rfl, rfl, hx, hB⟩ := hrel
      obtain ⟨_, _, hbx⟩ := box_cells hB
      have hBB := hB0.trans (hB.mono (by simp))
      by_cases hlt : j < ks.len
      · obtain ⟨b, off, k', s', ks', a', n', c', rfl, _, hb, hg, hc1, hc2, hc3, hcap, hks⟩ := (hk.below hBB).get hlt
        have hsz := Fo.get_size hg
        have hdr := Lib.hid (Fo.drop_get hg)
        have hx2 : x + (count1 ks' (d - 1) + count (ks.drop (j + 1)) (d - 1)) = 1 + count ks (d - 1) := by rw [← count_node k' s', ← hdr.out]; exact hx
        have hks' := hks.more (Nat.le_refl 0) hBB.size
        have e1 : ((d : Int) - 1) = ((d - 1 : Nat) : Int) := by omega
        clear hg
        go_wp2_with fail
        refine (ih ks' (by omega) a' n' c' (d - 1) k' s' _ hks' (by omega) (by omega)).mono ?_
        rintro e w1 ⟨rfl, hB1⟩
        have hB2 := hB.trans (hB1.mono hB.size)
        have hc9 : count1 ks' (d - 1) ≤ 1048576 + 1 := by omega
        have hx9 : x ≤ 1048576 + 1 := by omega
        generalize count1 ks' (d - 1) = y at *
        go_wp2_with fail
        go_roundw
        case rel => exact ⟨j + 1, x + y, by omega, by go_num, by go_num, by omega, hB2⟩
        case measure => simp [intOf]; omega
      · have e0 : j = ks.len := by omega
        subst e0
        rw [Fo.drop_all (Nat.le_refl _)] at hx
        go_wp2_with fail
        go_ret
        exact ⟨ret_int (by rw [Hc1.out]; simp only [count] at hx; omega), hBB⟩
theorem count_all (N : Nat) : ∀ ks : Fo, ks.size ≤ N → CoC ks := by
  induction N with
  | zero => exact fun ks hN => count_of ks fun ks' h => absurd h (by omega)
  | succ N ih => exact fun ks hN => count_of ks fun ks' h => ih ks' (by omega)

set_option maxHeartbeats 400000 in
theorem validSE_any (k : Int) (s : ByteArray) (ks : Fo) (a : Option Addr) (n c : Nat) (w : World) (hk : KA w 0 w.heap.size ks a n) (hs : s.size ≤ maxLen) (hfit : ks.Fits) (hn : n ≤ maxLen) (hz : ks.size ≤ 1048576) :
    Calls Tryz.prog 75 #[.agg #[.int .i64 k, .string s, .slice a n c]] w fun e w' => e = .returned (.bool (validE k s ks)) ∧ Below w.heap.size w w' := by
  have hsv : shape (.node k s ks .nil) 6 = shape1 k s ks 6 := by rw [shape_node]; simp [shape]
  have hB0 := (Below.refl w.heap.size w).alloc (Nat.le_refl _) (.cells #[.int .i64 k, .string s, .slice a n c] 43)
  go_enter Tryz.func75, Tryz.ntmps75
  go_wp2_with fail
  refine (shape_all ks.size k s ks (Nat.le_refl _) a n c 6 _ (hk.next hB0) hs hfit hn (by omega)).mono ?_
  rintro e w1 ⟨rfl, hB1⟩
  obtain ⟨hx0, hx1, hx2⟩ := box_cells hB1
  have hBB1 := hB0.trans (hB1.mono hB0.size)
  rcases Bool.eq_false_or_eq_true (shape1 k s ks 6) with h1 | h1
  · have hc : count1 ks 6 = ks.size + 1 := by
      have h2 : shape ks 5 = true := by
        unfold shape1 at h1
        simp only [Bool.and_eq_true] at h1
        exact h1.2
      have := count_shape ks 5 h2
      unfold count1
      rw [if_pos (by omega), show 6 - 1 = 5 from rfl, this]
      omega
    have Hv : Hid (validE k s ks = decide (ks.size + 1 ≤ 20)) := Lib.hid (by unfold validE; rw [hsv, h1]; rfl)
    rw [h1]
    go_wp2_with fail
    refine (count_all ks.size ks (Nat.le_refl _) a n c 6 k s _ (hk.next hBB1) hz (by omega)).mono ?_
    rintro e w2 ⟨rfl, hB2⟩
    have hBB := hBB1.trans (hB2.mono hBB1.size)
    rw [hc]
    go_wp2_with fail
    go_ret
    exact ⟨ret_bool (by rw [Hv.out]; exact Bool.eq_iff_iff.2 (by simp; try omega)), hBB⟩
  · have Hv : Hid (validE k s ks = false) := Lib.hid (by unfold validE; rw [hsv, h1]; rfl)
    rw [h1]
    go_wp2_with fail
    go_ret
    exact ⟨ret_bool Hv.out.symm, hBB1⟩
end Go.Proofs.YtceiafncpimihaaGreat
