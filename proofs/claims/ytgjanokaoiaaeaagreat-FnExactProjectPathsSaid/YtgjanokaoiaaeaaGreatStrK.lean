/-
  Lists of strings: what the laws' helpers eqStringS, markStringS, heldStringS answer (for seats without lists of files).
-/
import Derived.Test.YtgjanokaoiaaeaaGreatOwnS
import Derived.Test.YtgjanokaoiaaeaaGreatMarkT
import Derived.StillTailTactics
import Derived.Deep.QuietTactic
import Derived.Deep.RegionHeld3
namespace Go.Proofs.YtgjanokaoiaaeaaGreat
set_option linter.unusedVariables false
set_option linter.unusedSimpArgs false
open Go.RowKit

theorem growT2 {w w' w'' : World} {row : Option Nat} (h : w.grownBy w' row) (k : w'.grownBy w'' row) : w.grownBy w'' row :=
  ⟨k.os.trans h.os, k.tape.trans h.tape, k.output.trans h.output, Nat.le_trans h.size k.size, fun i hi hne => (k.block i (Nat.lt_of_lt_of_le hi h.size) hne).trans (h.block i hi hne)⟩
theorem growB2 {w w' w'' : World} {row : Option Nat} (h : w.grownBy w' row) (hb : Below w'.heap.size w' w'') : w.grownBy w'' row :=
  ⟨hb.os.trans h.os, hb.tape.trans h.tape, hb.output.trans h.output, Nat.le_trans h.size hb.size, fun i hi hne => (hb.block i (Nat.lt_of_lt_of_le hi h.size)).trans (h.block i hi hne)⟩

set_option maxHeartbeats 1000000 in
theorem eqS_yes (a b : Option Addr) (n c d : Nat) (ss : List ByteArray) (w : World) (hf : SvAt w w.heap.size a n ss) (hg : SvAt w w.heap.size b n ss) (hn : n ≤ maxLen) :
    Calls Tryz.prog 19 #[.slice a n c, .slice b n d] w fun e w' => e = .returned (.bool true) ∧ Below w.heap.size w w' := by
  unfold maxLen at hn
  go_enter Tryz.func19, Tryz.ntmps19
  go_wp2_with fail
  go_loopw [5] (fun i wr => ∃ j : Nat, j ≤ n ∧ i = .int .i64 j ∧ Below w.heap.size w wr) (fun i _ => n - (intOf i).toNat)
  case atStart => exact ⟨0, Nat.zero_le _, rfl, Below.refl _ _⟩
  case round =>
    obtain ⟨j, hj, rfl, hB⟩ := hrel
    by_cases hlt : j < n
    · obtain ⟨b1, o1, s, rfl, hb1, hs1, hc1⟩ := (hf.below hB).get hlt
      obtain ⟨b2, o2, s2, rfl, hb2, hs2, hc2⟩ := (hg.below hB).get hlt
      obtain rfl : s = s2 := by rw [hs1] at hs2; cases hs2; rfl
      have hd : (s.toList == s.toList) = true := by simp
      have hj0 : (0 : Int) ≤ (j : Int) := by omega
      have hj3 : (j : Int) < (n : Int) := by omega
      clear hs1 hs2
      go_wp2_with fail
      go_quiet (fail)
      go_wp2_with fail
      exact ⟨⟨j + 1, by omega, by go_num, below_drewN hB _⟩, by simp [intOf]; omega⟩
    · go_wp2_with fail
      go_ret
      exact ⟨rfl, hB⟩

/-- the first n strings marked from k on -/
def smrk (k : Nat) : Nat → List ByteArray → List ByteArray
  | 0, ss => ss
  | n + 1, ss => (smrk k n ss).set n (mkS (k + n))
theorem smrk_length (k : Nat) (ss : List ByteArray) : ∀ n, (smrk k n ss).length = ss.length
  | 0 => rfl
  | n + 1 => by rw [smrk, List.length_set, smrk_length k ss n]
theorem smrk_get {k j : Nat} {ss : List ByteArray} (hj : j < ss.length) : ∀ {n}, j < n → (smrk k n ss)[j]? = some (mkS (k + j))
  | 0, h => absurd h (by omega)
  | n + 1, h => by
    rw [smrk]
    by_cases e : j = n
    · subst e
      rw [List.getElem?_set_self (by rw [smrk_length]; exact hj)]
    · rw [List.getElem?_set_ne (fun h => e h.symm)]
      exact smrk_get hj (by omega)
theorem srow_below {w w' : World} {B g n cap : Nat} {xs : List Value} (h : w.ownsRow B 9 1 (.slice (some ⟨g, 0, none⟩) n cap) n xs) (hb : Below w.heap.size w w') : w'.ownsRow B 9 1 (.slice (some ⟨g, 0, none⟩) n cap) n xs := by
  refine ⟨h.1, ?_⟩
  rcases h.2 with h2 | ⟨g, cap, cur, he, h3, h4, h5⟩
  · exact .inl h2
  · exact .inr ⟨g, cap, cur, he, h3, (hb.block g (blk_lt h4)).trans h4, h5⟩

set_option maxRecDepth 100000 in
set_option maxHeartbeats 1000000 in
theorem markS_any (v : Value) (B k : Nat) (ss : List ByteArray) (w : World) (ho : OwnsS w B v ss) (hn : ss.length ≤ 1048576) (h0 : 1 ≤ k) (h1 : k ≤ 16) :
    Calls Tryz.prog 20 #[v, .int .i64 k] w fun e w' =>
      e = .returned (.int .i64 (k + ss.length : Nat)) ∧ OwnsS w' B v (smrk k ss.length ss) ∧ w.grownBy w' v.ownBlock := by
  rcases ho.2 with ⟨rfl, h00⟩ | ⟨g, cap, cur, rfl, hb, hg, _⟩
  · obtain rfl : ss = [] := List.eq_nil_of_length_eq_zero h00
    go_enter Tryz.func20, Tryz.ntmps20
    go_wp2_with fail
    go_loopw [1, 5] (fun x i wr => x = .int .i64 k ∧ i = .int .i64 0 ∧ wr = w) (fun _ _ _ => 0)
    case atStart => exact ⟨rfl, rfl, rfl⟩
    case round =>
      obtain ⟨rfl, rfl, rfl⟩ := hrel
      go_wp2_with fail
      go_ret
      exact ⟨rfl, ho, World.grownBy.refl _ _⟩
  · have hgl : g < w.heap.size := blk_lt hg
    have Ho := Lib.hid ho
    clear ho hg
    go_enter Tryz.func20, Tryz.ntmps20
    go_wp2_with fail
    go_loopw [1, 5] (fun x i wr => ∃ j : Nat, j ≤ ss.length ∧ i = .int .i64 j ∧ x = .int .i64 (k + j : Nat) ∧ wr.ownsRow B 9 1 (.slice (some ⟨g, 0, none⟩) ss.length cap) ss.length ((smrk k j ss).map .string) ∧ w.grownBy wr (some g)) (fun _ i _ => ss.length - (intOf i).toNat)
    case atStart => exact ⟨0, Nat.zero_le _, rfl, by simp, Ho.out, World.grownBy.refl _ _⟩
    case round =>
      obtain ⟨j, hj, rfl, rfl, hown, hgr⟩ := hrel
      have hln := Lib.hid (smrk_length k ss j)
      have hgw := hgr.size
      by_cases hlt : j < ss.length
      · have Hown := Lib.hid hown
        have hgt : (smrk k j ss)[j]? = some ((smrk k j ss)[j]'(by rw [hln.out]; exact hlt)) := List.getElem?_eq_getElem _
        generalize (smrk k j ss)[j]'(by rw [hln.out]; exact hlt) = p at hgt
        have Hgt := Lib.hid hgt
        clear hown hgt
        go_wp2_with fail
        refine (markText_any (k + j) _ (by omega) (by omega)).mono ?_
        rintro e w1 ⟨rfl, hB1⟩
        have ho1 := srow_below Hown.out hB1
        have hc1 : w1.cell? ⟨g, j, none⟩ = some (.string p) := (World.ownsRow.cellAt ho1 j (by omega)).trans (by rw [List.getElem?_map, Hgt.out]; rfl)
        have hf1 := World.ownsRow.frozenAt ho1 j
        have Ho1 : Hid ((w1.setCell ⟨g, j, none⟩ (.string (mkS (k + j)))).ownsRow B 9 1 (.slice (some ⟨g, 0, none⟩) ss.length cap) ss.length ((smrk k (j + 1) ss).map .string)) := Lib.hid (by
          rw [smrk, List.map_set]; exact (World.ownsRow.stored ho1 _ _).1)
        have Hg1 := Lib.hid (growT2 (growB2 hgr hB1) (World.ownsRow.stored ho1 j (.string (mkS (k + j)))).2)
        clear ho1 hgr
        go_wp2_with fail
        exact ⟨⟨j + 1, by omega, by go_num, by go_num, Ho1.out, Hg1.out⟩, by simp [intOf]; omega⟩
      · have e : j = ss.length := by omega
        have Ho2 : Hid (OwnsS wr B (.slice (some ⟨g, 0, none⟩) ss.length cap) (smrk k ss.length ss)) := Lib.hid (by
          rw [OwnsS, smrk_length, ← e]; rw [← e] at hown; exact hown)
        have Hr : Hid (((k + j : Nat) : Int) = ((k + ss.length : Nat) : Int)) := Lib.hid (by rw [e])
        clear e hown
        go_wp2_with fail
        go_ret
        exact ⟨ret_int Hr.out, Ho2.out, hgr⟩

set_option maxRecDepth 100000 in
set_option maxHeartbeats 1000000 in
theorem heldS_any (a : Option Addr) (n c k : Nat) (ss : List ByteArray) (w : World) (hf : SvAt w w.heap.size a n ss) (hm : ∀ j, j < n → ss[j]? = some (mkS (k + j))) (hn : n ≤ 1048576) (h0 : 1 ≤ k) (h1 : k ≤ 16) :
    Calls Tryz.prog 21 #[.slice a n c, .int .i64 k] w fun e w' =>
      e = .returned (.int .i64 (k + n : Nat)) ∧ Below w.heap.size w w' := by
  have Hm := Lib.hid hm
  clear hm
  go_enter Tryz.func21, Tryz.ntmps21
  go_wp2_with fail
  go_loopw [1, 5] (fun x i wr => ∃ j : Nat, j ≤ n ∧ i = .int .i64 j ∧ x = .int .i64 (k + j : Nat) ∧ Below w.heap.size w wr) (fun _ i _ => n - (intOf i).toNat)
  case atStart => exact ⟨0, Nat.zero_le _, rfl, by simp, Below.refl _ _⟩
  case round =>
    obtain ⟨j, hj, rfl, rfl, hB⟩ := hrel
    by_cases hlt : j < n
    · obtain ⟨b, off, p, rfl, hb, hg, hc1⟩ := (hf.below hB).get hlt
      have hg2 := Hm.out j hlt
      rw [hg] at hg2
      obtain rfl : p = mkS (k + j) := by cases hg2; rfl
      clear hg hg2
      have hd1 : ((mkS (k + j)).toList == (mkS (k + j)).toList) = true := by simp
      go_wp2_with fail
      have hbw : b < wr.heap.size := by have := hB.size; omega
      go_region_held3 (fun w' => w'.cell? ⟨b, off + j, none⟩ = some (.string (mkS (k + j)))) (first | go_keep | exact (hB1.cell (p := ⟨b, off + j, none⟩) hbw).trans hc1) ((go_at_call 43; refine (markText_any (k + j) _ (by omega) (by omega)).mono ?_; rintro e w1 ⟨rfl, hB1⟩))
      have B1 := hB.drew.trans (hB1.mono hB.size)
      clear hc1 hB1
      go_wp2_with fail
      exact ⟨⟨j + 1, by omega, by go_num, by go_num, B1⟩, by simp [intOf]; omega⟩
    · have e : j = n := by omega
      have Hr : Hid (((k + j : Nat) : Int) = ((k + n : Nat) : Int)) := Lib.hid (by rw [e])
      clear e
      go_wp2_with fail
      go_ret
      exact ⟨ret_int Hr.out, hB⟩
end Go.Proofs.YtgjanokaoiaaeaaGreat
