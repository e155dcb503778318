/-
  The model's ExprValid.
-/
import Derived.Test.YtceiafncpimihaaGreatProg
import Derived.Test.YtceiafncpimihaaGreatGone
import Derived.Test.YtceiafncpimihaaGreatQStr
import Derived.StillTailTactics
namespace Go.Proofs.YtceiafncpimihaaGreat
set_option linter.unusedVariables false
open Go.RowKit

theorem kids_any (k : Int) (n : Nat) (w : World) :
    Calls Tryz.prog 97 #[.int .i64 k, .int .i64 n] w fun e w' => e = .returned (.bool (kidsB k n)) ∧ w = w' := by
  by_cases h1 : k = 1
  · subst h1
    go_enter Tryz.func97, Tryz.ntmps97
    go_wp2
    go_ret
    exact ⟨ret_bool (Bool.eq_iff_iff.2 (by simp [kidsB]; try omega)), rfl⟩
  by_cases h3 : k = 3
  · subst h3
    go_enter Tryz.func97, Tryz.ntmps97
    go_wp2
    go_ret
    exact ⟨ret_bool (Bool.eq_iff_iff.2 (by simp [kidsB]; try omega)), rfl⟩
  by_cases h4 : k = 4
  · subst h4
    go_enter Tryz.func97, Tryz.ntmps97
    go_wp2
    go_ret
    exact ⟨ret_bool (Bool.eq_iff_iff.2 (by simp [kidsB]; try omega)), rfl⟩
  have e1 : (k == 1) = false := beq_eq_false_iff_ne.2 h1
  have e3 : (k == 3) = false := beq_eq_false_iff_ne.2 h3
  have e4 : (k == 4) = false := beq_eq_false_iff_ne.2 h4
  by_cases h : k = 2 ∨ k = 5 ∨ k = 6 ∨ k = 7
  · have hk : kidsB k n = decide (n = 1) := by
      unfold kidsB
      rw [decide_eq_false h1, decide_eq_false h3, decide_eq_false h4]
      rcases h with rfl | rfl | rfl | rfl <;> simp
    rcases h with rfl | rfl | rfl | rfl
    all_goals go_enter Tryz.func97, Tryz.ntmps97
    all_goals go_wp2
    all_goals go_ret
    all_goals exact ⟨ret_bool (by rw [hk]; exact Bool.eq_iff_iff.2 (by simp; try omega)), rfl⟩
  · have hk : kidsB k n = false := by
      unfold kidsB
      simp [h1, h3, h4]
      omega
    have e2 : (k == 2) = false := beq_eq_false_iff_ne.2 (by omega)
    have e5 : (k == 5) = false := beq_eq_false_iff_ne.2 (by omega)
    have e6 : (k == 6) = false := beq_eq_false_iff_ne.2 (by omega)
    have e7 : (k == 7) = false := beq_eq_false_iff_ne.2 (by omega)
    go_enter Tryz.func97, Tryz.ntmps97
    go_wp2
    go_ret
    exact ⟨ret_bool hk.symm, rfl⟩

set_option maxHeartbeats 400000 in
theorem plain_any (s : ByteArray) (w : World) (hs : s.size ≤ maxLen) :
    Calls Tryz.prog 98 #[.string s] w fun e w' => e = .returned (.bool (plainB s)) ∧ w = w' := by
  have hs' := hs
  unfold maxLen at hs
  go_enter Tryz.func98, Tryz.ntmps98
  go_wp2
  go_loop [3] (fun i => ∃ k : Nat, k ≤ s.size ∧ i = .int .i64 k ∧ noQ (s.data.toList.take k) = true) (fun i => s.size - (intOf i).toNat)
  case atStart => exact ⟨0, Nat.zero_le _, rfl, rfl⟩
  case round =>
    obtain ⟨k, hk, rfl, hb⟩ := hrel
    have Hb := Lib.hid hb; clear hb
    by_cases hlt : k < s.size
    · by_cases hq : s[k].toNat = 39
      · have Hq := Lib.hid hq
        have hd : ((s[k].toNat : Int) == 39) = true := by rw [hq]; rfl
        clear hq
        go_wp2
        go_ret
        exact ⟨ret_bool (by rw [plainB, noQ_false s k hlt Hq.out]; simp), rfl⟩
      · have Hq := Lib.hid hq
        have hd : ((s[k].toNat : Int) == 39) = false := beq_eq_false_iff_ne.2 (by omega)
        clear hq
        go_wp2
        go_round
        case rel => exact ⟨k + 1, by omega, by go_num, by rw [noQ_succ _ _ hlt, Hb.out]; simpa using Hq.out⟩
        case measure => simp [intOf]; omega
    · have e : s.size = k := by omega
      have H2 : Hid (noQ s.data.toList = true) := by have := Hb.out; rw [List.take_of_length_le (by simp; omega)] at this; exact this
      clear e
      go_wp2_with fail
      refine (textS_any s _ hs').mono ?_
      rintro e w1 ⟨rfl, rfl⟩
      go_wp2_with fail
      go_ret
      exact ⟨ret_bool (by rw [plainB, H2.out]; simp), rfl⟩

theorem nE_false {s : ByteArray} (h : s ≠ .empty) : (s.toList == ([] : List UInt8)) = false := by
  rw [beq_eq_false_iff_ne]
  intro e
  exact h (WideShapes.bytes_inj (by rw [← Lib.toList_data, e]; rfl))
theorem nE_true {s : ByteArray} (h : s = .empty) : (s.toList == ([] : List UInt8)) = true := by subst h; rw [Lib.toList_data]; rfl
/-- one node, well-formed down to a depth -/
def shape1 (k : Int) (s : ByteArray) (ks : Fo) (d : Nat) : Bool := decide (1 ≤ d) && nodeB k s ks.len && shape ks (d - 1)
theorem shape_node (k : Int) (s : ByteArray) (ks r : Fo) (d : Nat) : shape (.node k s ks r) d = (shape1 k s ks d && shape r d) := rfl
/-- one node's count -/
def count1 (ks : Fo) (d : Nat) : Nat := 1 + if 0 < d then count ks (d - 1) else 0
theorem count_node (k : Int) (s : ByteArray) (ks r : Fo) (d : Nat) : count (.node k s ks r) d = count1 ks d + count r d := rfl
/-- the box of an argument, as a later world holds it -/
theorem box_cells {w wr : World} {k : Int} {s : ByteArray} {v : Value} {T : TypeId} (hB : Below (w.alloc (.cells #[.int .i64 k, .string s, v] T)).heap.size (w.alloc (.cells #[.int .i64 k, .string s, v] T)) wr) :
    wr.cell? ⟨w.heap.size, 0, none⟩ = some (.int .i64 k) ∧ wr.cell? ⟨w.heap.size, 1, none⟩ = some (.string s) ∧ wr.cell? ⟨w.heap.size, 2, none⟩ = some v := by
  have h := (hB.block w.heap.size (by simp)).trans (heap_alloc_new w _)
  refine ⟨?_, ?_, ?_⟩ <;> (rw [cell_of_row _ _ _ _ _ _ h]; rfl)
/-- the contract of l2Shape at one node -/
def ShC (k : Int) (s : ByteArray) (ks : Fo) : Prop := ∀ (a : Option Addr) (n c d : Nat) (w : World), KA w 0 w.heap.size ks a n → s.size ≤ maxLen → ks.Fits → n ≤ maxLen → d ≤ 6 →
  Calls Tryz.prog 88 #[.agg #[.int .i64 k, .string s, .slice a n c], .int .i64 d] w fun e w' => e = .returned (.bool (shape1 k s ks d)) ∧ Below w.heap.size w w'

set_option maxHeartbeats 1000000 in
theorem shape_of (k : Int) (s : ByteArray) (ks : Fo) (ih : ∀ k' s' ks', Fo.size ks' < ks.size → ShC k' s' ks') : ShC k s ks := by
  intro a n c d w hk hs hfit hn hd
  obtain rfl : ks.len = n := hk.1
  have Hs := Lib.hid hs
  have Hfit := Lib.hid hfit
  unfold maxLen at hn
  have hB0 := (Below.refl w.heap.size w).alloc (Nat.le_refl _) (.cells #[.int .i64 k, .string s, .slice a ks.len c] 43)
  by_cases h0 : d < 1
  · go_enter Tryz.func88, Tryz.ntmps88
    go_wp2_with fail
    go_ret
    exact ⟨ret_bool (by unfold shape1; rw [decide_eq_false (by omega)]; rfl), hB0⟩
  have hd1 : 1 ≤ d := by omega
  clear h0
  rcases Bool.eq_false_or_eq_true (kidsB k ks.len) with hkb | hkb
  case inr =>
    go_enter Tryz.func88, Tryz.ntmps88
    go_wp2_with fail
    refine (kids_any k ks.len _).mono ?_
    rintro e w1 ⟨rfl, rfl⟩
    rw [hkb]
    go_wp2_with fail
    go_ret
    exact ⟨ret_bool (by unfold shape1 nodeB; rw [hkb]; simp), hB0⟩
  rcases Bool.eq_false_or_eq_true (plainB s) with hpb | hpb
  case inr =>
    go_enter Tryz.func88, Tryz.ntmps88
    go_wp2_with fail
    refine (kids_any k ks.len _).mono ?_
    rintro e w1 ⟨rfl, rfl⟩
    rw [hkb]
    go_wp2_with fail
    refine (plain_any s _ Hs.out).mono ?_
    rintro e w1 ⟨rfl, rfl⟩
    rw [hpb]
    go_wp2_with fail
    go_ret
    exact ⟨ret_bool (by unfold shape1 nodeB; rw [hpb]; simp), hB0⟩
  by_cases hks : k ≠ 1 ∧ s ≠ .empty
  · have e1 : (k != 1) = true := by simpa using hks.1
    have e2 : (s.toList == ([] : List UInt8)) = false := nE_false hks.2
    have Hks := Lib.hid hks
    clear hks
    go_enter Tryz.func88, Tryz.ntmps88
    go_wp2_with fail
    refine (kids_any k ks.len _).mono ?_
    rintro e w1 ⟨rfl, rfl⟩
    rw [hkb]
    go_wp2_with fail
    refine (plain_any s _ Hs.out).mono ?_
    rintro e w1 ⟨rfl, rfl⟩
    rw [hpb]
    go_wp2_with fail
    go_ret
    exact ⟨ret_bool (by unfold shape1 nodeB; rw [decide_eq_false Hks.out.1, decide_eq_false Hks.out.2]; simp), hB0⟩
  have hnode : nodeB k s ks.len = true := by
    unfold nodeB
    rw [hkb, hpb]
    by_cases h1 : k = 1
    · simp [h1]
    · have : s = .empty := Classical.byContradiction fun h => hks ⟨h1, h⟩
      simp [this]
  have Hnode := Lib.hid hnode
  clear hnode
  have hkl := hk.alloc (Nat.le_refl _) (.cells #[.int .i64 k, .string s, .slice a ks.len c] 43)
  have hcond : ((k != 1) = false) ∨ ((k != 1) = true ∧ (s.toList == ([] : List UInt8)) = true) := by
    by_cases h1 : k = 1
    · exact .inl (by simp [h1])
    · exact .inr ⟨by simpa using h1, nE_true (Classical.byContradiction fun h => hks ⟨h1, h⟩)⟩
  clear hks
  rcases hcond with e1 | ⟨e1, e2⟩
  all_goals go_enter Tryz.func88, Tryz.ntmps88
  all_goals go_wp2_with fail
  all_goals refine (kids_any k ks.len _).mono ?_
  all_goals rintro e w1 ⟨rfl, rfl⟩
  all_goals rw [hkb]
  all_goals go_wp2_with fail
  all_goals refine (plain_any s _ Hs.out).mono ?_
  all_goals rintro e w1 ⟨rfl, rfl⟩
  all_goals rw [hpb]
  all_goals go_wp2_with fail
  all_goals go_loopw [5] (fun i wr => ∃ j : Nat, j ≤ ks.len ∧ i = .int .i64 j ∧ shape ks (d - 1) = shape (ks.drop j) (d - 1) ∧ Below (w.alloc (.cells #[.int .i64 k, .string s, .slice a ks.len c] 43)).heap.size (w.alloc (.cells #[.int .i64 k, .string s, .slice a ks.len c] 43)) wr) (fun i _ => ks.len - (intOf i).toNat)
  all_goals first
    | case atStart => exact ⟨0, Nat.zero_le _, rfl, by rw [Fo.drop_zero], Below.refl _ _⟩
    | skip
  all_goals
    obtain ⟨j, hj, rfl, hsh, hB⟩ := hrel
    obtain ⟨_, _, hbx⟩ := box_cells hB
    have Hsh := Lib.hid hsh
    clear hsh
    have hBB := hB0.trans (hB.mono (by simp))
    by_cases hlt : j < ks.len
    · obtain ⟨b, off, k', s', ks', a', n', c', rfl, _, hb, hg, hc1, hc2, hc3, hcap, hks⟩ := (hk.below hBB).get hlt
      have hsz := Fo.get_size hg
      have Hfk := Lib.hid (Hfit.out.get hg)
      have hdr := Lib.hid (Fo.drop_get hg)
      have hkl' := hks.1
      have hks' := hks.more (Nat.le_refl 0) hBB.size
      have hn' : n' ≤ maxLen := by rw [← hkl']; exact Hfk.out.2.1
      have e1 : ((d : Int) - 1) = ((d - 1 : Nat) : Int) := by omega
      clear hg
      go_wp2_with fail
      refine (ih k' s' ks' (by omega) a' n' c' (d - 1) _ hks' Hfk.out.1 Hfk.out.2.2 hn' (by omega)).mono ?_
      rintro e w1 ⟨rfl, hB1⟩
      have hB2 := hB.trans (hB1.mono hB.size)
      have hB3 := hBB.trans (hB1.mono hBB.size)
      rcases Bool.eq_false_or_eq_true (shape1 k' s' ks' (d - 1)) with hs1 | hs1
      · rw [hs1]
        go_wp2_with fail
        go_roundw
        case rel => exact ⟨j + 1, by omega, by go_num, by rw [Hsh.out, hdr.out, shape_node, hs1]; rfl, hB2⟩
        case measure => simp [intOf]; omega
      · rw [hs1]
        go_wp2_with fail
        go_ret
        exact ⟨ret_bool (by unfold shape1; rw [Hsh.out, hdr.out, shape_node, hs1]; simp), hB3⟩
    · have e0 : j = ks.len := by omega
      subst e0
      go_wp2_with fail
      go_ret
      exact ⟨ret_bool (by unfold shape1; rw [Hsh.out, Fo.drop_all (Nat.le_refl _), Hnode.out, decide_eq_true hd1]; rfl), hBB⟩
end Go.Proofs.YtceiafncpimihaaGreat
