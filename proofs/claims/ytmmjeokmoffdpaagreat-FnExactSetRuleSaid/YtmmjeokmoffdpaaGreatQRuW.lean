/-
  The laws' words on rules and projects: sizes, copies into the program's type, equality.
-/
import Derived.Test.YtmmjeokmoffdpaaGreatGone
import Derived.Test.YtmmjeokmoffdpaaGreatQTreeZ
import Derived.Test.YtmmjeokmoffdpaaGreatQFWalk
import Derived.StillTailTactics
namespace Go.Proofs.YtmmjeokmoffdpaaGreat
set_option linter.unusedVariables false
set_option linter.unusedSimpArgs false
open Go.RowKit

/-- what szRule answers -/
def szR (left : Int) (t s : ByteArray) (ks : Fo) : Int := if (t.size + (s.size + ks.len + ks.tot) : Int) ≤ left then left - (t.size + (s.size + ks.len + ks.tot)) else -1
/-- what szRuleS answers -/
def szRs (left : Int) (rs : List Ru) : Int := if (rs.length + ruTot rs : Int) ≤ left then left - (rs.length + ruTot rs) else -1

set_option maxHeartbeats 400000 in
theorem szRule_any (t : ByteArray) (k : Int) (s : ByteArray) (ks : Fo) (a : Option Addr) (n c : Nat) (left : Int) (w : World) (hk : KA w 0 w.heap.size ks a n) (hfit : ks.Fits) (ht : t.size ≤ maxLen) (hs : s.size ≤ maxLen) (hn : n ≤ maxLen) (h0 : 0 ≤ left) (h1 : left ≤ 1048576) :
    Calls Tryz.prog 5 #[.agg #[.string t, .int .i64 k, .string s, .slice a n c], .int .i64 left] w fun e w' => e = .returned (.int .i64 (szR left t s ks)) ∧ Below w.heap.size w w' := by
  have Hn := Lib.hid hn
  have Hs := Lib.hid hs
  unfold maxLen at ht hs hn
  by_cases hsl : (t.size : Int) ≤ left
  · go_enter Tryz.func5, Tryz.ntmps5
    go_wp2_with fail
    refine (szExpr_any k s ks a n c (left - t.size) _ ((hk.alloc (Nat.le_refl _) _).more (Nat.le_refl _) (by simp)) hfit Hs.out Hn.out (by omega) (by omega)).mono ?_
    rintro e w1 ⟨rfl, hB1⟩
    have hBB := ((Below.refl w.heap.size w).alloc (Nat.le_refl _) (.cells #[.string t, .int .i64 k, .string s, .slice a n c] 30)).trans (hB1.mono (by simp))
    by_cases hks : (s.size + ks.len + ks.tot : Int) ≤ left - t.size
    · rw [show szE (left - t.size) s ks = left - t.size - (s.size + ks.len + ks.tot) from by unfold szE; rw [if_pos hks]]
      go_wp2_with fail
      go_ret
      exact ⟨ret_int (by unfold szR; rw [if_pos (by omega)]; omega), hBB⟩
    · rw [show szE (left - t.size) s ks = -1 from by unfold szE; rw [if_neg hks]]
      go_wp2_with fail
      go_ret
      exact ⟨ret_int (by unfold szR; rw [if_neg (by omega)]), hBB⟩
  · go_enter Tryz.func5, Tryz.ntmps5
    go_wp2_with fail
    go_ret
    exact ⟨ret_int (by unfold szR; rw [if_neg (by omega)]), (Below.refl _ _).alloc (Nat.le_refl _) _⟩

set_option maxHeartbeats 800000 in
theorem szRuleS_any (rs : List Ru) (a : Option Addr) (n c : Nat) (left : Int) (w : World) (hf : RuAt w 0 w.heap.size rs a n) (hfit : RuFits rs) (hn : n ≤ maxLen) (h0 : 0 ≤ left) (h1 : left ≤ 1048576) :
    Calls Tryz.prog 16 #[.slice a n c, .int .i64 left] w fun e w' => e = .returned (.int .i64 (szRs left rs)) ∧ Below w.heap.size w w' := by
  unfold maxLen at hn
  have hlen := Lib.hid hf.1
  by_cases hneg : left < n
  · go_enter Tryz.func16, Tryz.ntmps16
    go_wp2_with fail
    go_ret
    exact ⟨ret_int (by unfold szRs; have := hlen.out; rw [if_neg (by omega)]), Below.refl _ _⟩
  · go_enter Tryz.func16, Tryz.ntmps16
    go_wp2_with fail
    go_loopw [1, 5] (fun l i wr => ∃ j : Nat, j ≤ n ∧ i = .int .i64 j ∧ l = .int .i64 (left - n - (ruTot rs - ruTot (rs.drop j))) ∧ 0 ≤ left - n - (ruTot rs - ruTot (rs.drop j)) ∧ Below w.heap.size w wr) (fun _ i _ => n - (intOf i).toNat)
    case atStart => exact ⟨0, Nat.zero_le _, rfl, by simp, by simp; omega, Below.refl _ _⟩
    case round =>
      obtain ⟨j, hj, rfl, rfl, hpos, hB⟩ := hrel
      have hd := ruTot_le rs j
      by_cases hlt : j < n
      · obtain ⟨b, off, t, k, s, ks, a', n', c', rfl, _, hb, hg, hc0, hc1, hc2, hc3, hcap, hks⟩ := (hf.below hB).get hlt
        have hfitk := hfit.get hg
        have hkl := hks.1
        have hdt : ruTot (rs.drop j) = (t.size + (s.size + ks.len + ks.tot)) + ruTot (rs.drop (j + 1)) := ruTot_drop hg
        have Hdt := Lib.hid hdt
        have Hfk := Lib.hid hfitk
        have hks' := hks.more (Nat.le_refl 0) hB.size
        clear hg hfitk hdt
        go_wp2_with fail
        refine (szRule_any t k s ks a' n' c' _ _ hks' Hfk.out.2.2.2 Hfk.out.1 Hfk.out.2.1 (by rw [← hkl]; exact Hfk.out.2.2.1) hpos (by omega)).mono ?_
        rintro e w1 ⟨rfl, hB1⟩
        by_cases hok : (t.size + (s.size + ks.len + ks.tot) : Int) ≤ left - n - (ruTot rs - ruTot (rs.drop j))
        · rw [show szR (left - n - (ruTot rs - ruTot (rs.drop j))) t s ks = left - n - (ruTot rs - ruTot (rs.drop (j + 1))) from by unfold szR; rw [if_pos hok, Hdt.out]; omega]
          have hpos' : 0 ≤ left - n - (ruTot rs - ruTot (rs.drop (j + 1))) := by have := Hdt.out; omega
          go_wp2_with fail
          go_roundw
          case rel => exact ⟨j + 1, by omega, by go_num, rfl, hpos', hB.trans (hB1.mono hB.size)⟩
          case measure => simp [intOf]; omega
        · rw [show szR (left - n - (ruTot rs - ruTot (rs.drop j))) t s ks = -1 from by unfold szR; rw [if_neg hok]]
          go_wp2_with fail
          go_ret
          exact ⟨ret_int (by unfold szRs; have h1 := hlen.out; have h2 := Hdt.out; rw [if_neg (by omega)]), hB.trans (hB1.mono hB.size)⟩
      · have e : j = n := by omega
        subst e
        have hd0 : ruTot (rs.drop j) = 0 := by rw [List.drop_of_length_le (by have := hlen.out; omega)]; rfl
        rw [hd0] at hpos ⊢
        go_wp2_with fail
        go_ret
        exact ⟨ret_int (by unfold szRs; have h1 := hlen.out; rw [if_pos (by omega)]; omega), hB⟩

set_option maxHeartbeats 400000 in
theorem eqRule_any (t : ByteArray) (k : Int) (s : ByteArray) (ks : Fo) (a b : Option Addr) (n c d : Nat) (w : World) (hk : KA w 0 w.heap.size ks a n) (hk2 : KA w 0 w.heap.size ks b n) (hfit : ks.Fits) (hn : n ≤ maxLen) :
    Calls Tryz.prog 11 #[.agg #[.string t, .int .i64 k, .string s, .slice a n c], .agg #[.string t, .int .i64 k, .string s, .slice b n d]] w fun e w' => e = .returned (.bool true) ∧ Below w.heap.size w w' := by
  have hB := ((Below.refl w.heap.size w).alloc (Nat.le_refl _) (.cells #[.string t, .int .i64 k, .string s, .slice a n c] 44)).alloc (by simp) (.cells #[.string t, .int .i64 k, .string s, .slice b n d] 44)
  have hd : (t.toList == t.toList) = true := by simp
  go_enter Tryz.func11, Tryz.ntmps11
  go_wp2_with fail
  refine (eqExpr_yes k s ks a b n c d _ (hk.next hB) (hk2.next hB) hfit hn).mono ?_
  rintro e w1 ⟨rfl, hB1⟩
  have hBB := hB.trans (hB1.mono hB.size)
  go_wp2_with fail
  go_ret
  exact ⟨rfl, hBB⟩

set_option maxHeartbeats 800000 in
set_option maxRecDepth 100000 in
theorem eqRuleS_any (rs : List Ru) (a b : Option Addr) (n c d : Nat) (w : World) (hf : RuAt w 0 w.heap.size rs a n) (hg : RuAt w 0 w.heap.size rs b n) (hfit : RuFits rs) (hn : n ≤ maxLen) :
    Calls Tryz.prog 30 #[.slice a n c, .slice b n d] w fun e w' => e = .returned (.bool true) ∧ Below w.heap.size w w' := by
  unfold maxLen at hn
  go_enter Tryz.func30, Tryz.ntmps30
  go_wp2_with fail
  go_loopw [5] (fun i wr => ∃ j : Nat, j ≤ n ∧ i = .int .i64 j ∧ Below w.heap.size w wr) (fun i _ => n - (intOf i).toNat)
  case atStart => exact ⟨0, Nat.zero_le _, rfl, Below.refl _ _⟩
  case round =>
    obtain ⟨j, hj, rfl, hB⟩ := hrel
    by_cases hlt : j < n
    · obtain ⟨b1, o1, t, k, s, ks, a', n', c', rfl, _, hb1, hg1, hc0, hc1, hc2, hc3, hcap, hks⟩ := (hf.below hB).get hlt
      obtain ⟨b2, o2, t2, k2, s2, ks2, a2, n2, c2, rfl, _, hb2, hg2, hd0, hd1, hd2, hd3, hcap2, hks2⟩ := (hg.below hB).get hlt
      rw [hg1] at hg2
      simp only [Option.some.injEq, Prod.mk.injEq] at hg2
      obtain ⟨rfl, rfl, rfl, rfl⟩ := hg2
      obtain ⟨_, _, hfl, hfk⟩ := hfit.get hg1
      have hkl := hks.1
      have hkl2 := hks2.1
      subst hkl
      subst hkl2
      have hBd : Below w.heap.size w wr.drew := hB.drew
      have hks' : KA wr.drew 0 wr.drew.heap.size ks a' ks.len := hks.keep (Nat.le_refl 0) hBd.size fun _ _ _ => rfl
      have hks2' : KA wr.drew 0 wr.drew.heap.size ks a2 ks.len := hks2.keep (Nat.le_refl 0) hBd.size fun _ _ _ => rfl
      clear hg1
      go_wp2_with fail
      go_still_tail 8, (by kernel_rfl)
      change wpList _ _ _ _ _ wr.drew
      go_wp2_with fail
      refine (eqRule_any t k s ks a' a2 ks.len c' c2 _ hks' hks2' hfk hfl).mono ?_
      rintro e w1 ⟨rfl, hB1⟩
      have hBB := hBd.trans (hB1.mono hBd.size)
      go_wp2_with fail
      go_roundw
      case rel => exact ⟨j + 1, by omega, by go_num, hBB⟩
      case measure => simp [intOf]; omega
    · go_wp2_with fail
      go_ret
      exact ⟨rfl, hB⟩
end Go.Proofs.YtmmjeokmoffdpaaGreat
