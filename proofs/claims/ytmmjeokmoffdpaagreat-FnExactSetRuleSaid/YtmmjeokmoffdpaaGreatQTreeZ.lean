/-
  The law's helper szExpr: what is left of a budget behind an expression.
-/
import Derived.Test.YtmmjeokmoffdpaaGreatProg
import Derived.Test.YtmmjeokmoffdpaaGreatGone
namespace Go.Proofs.YtmmjeokmoffdpaaGreat
set_option linter.unusedVariables false
open Go.RowKit

theorem Fo.drop_tot_le : ∀ (f : Fo) (j : Nat), (f.drop j).tot ≤ f.tot
  | .nil, 0 => Nat.le_refl _
  | .nil, _ + 1 => Nat.le_refl _
  | .node k s ks r, 0 => Nat.le_refl _
  | .node k s ks r, j + 1 => by have := drop_tot_le r j; simp only [drop, tot]; omega
/-- what is left behind a list of expressions -/
def szS (left : Int) (f : Fo) : Int := if (f.len + f.tot : Int) ≤ left then left - (f.len + f.tot) else -1
/-- what is left behind one expression -/
def szE (left : Int) (s : ByteArray) (ks : Fo) : Int := if (s.size + ks.len + ks.tot : Int) ≤ left then left - (s.size + ks.len + ks.tot) else -1
/-- the contract of szExprS at one list -/
def SzC (f : Fo) : Prop := ∀ (a : Option Addr) (n c : Nat) (left : Int) (w : World), KA w 0 w.heap.size f a n → f.Fits → n ≤ maxLen → 0 ≤ left → left ≤ 1048576 →
  Calls Tryz.prog 38 #[.slice a n c, .int .i64 left] w fun e w' => e = .returned (.int .i64 (szS left f)) ∧ Below w.heap.size w w'

set_option maxHeartbeats 400000 in
theorem szE_of (k : Int) (s : ByteArray) (ks : Fo) (ih : SzC ks) (a : Option Addr) (n c : Nat) (left : Int) (w : World) (hk : KA w 0 w.heap.size ks a n) (hfit : ks.Fits) (hs : s.size ≤ maxLen) (hn : n ≤ maxLen) (h0 : 0 ≤ left) (h1 : left ≤ 1048576) :
    Calls Tryz.prog 17 #[.agg #[.int .i64 k, .string s, .slice a n c], .int .i64 left] w fun e w' => e = .returned (.int .i64 (szE left s ks)) ∧ Below w.heap.size w w' := by
  have Hn := Lib.hid hn
  unfold maxLen at hs hn
  by_cases hsl : (s.size : Int) ≤ left
  · go_enter Tryz.func17, Tryz.ntmps17
    go_wp2_with fail
    refine (ih a n c (left - s.size) _ ((hk.alloc (Nat.le_refl _) _).more (Nat.le_refl _) (by simp)) hfit Hn.out (by omega) (by omega)).mono ?_
    rintro e w1 ⟨rfl, hB1⟩
    have hBB := ((Below.refl w.heap.size w).alloc (Nat.le_refl _) (.cells #[.int .i64 k, .string s, .slice a n c] 28)).trans (hB1.mono (by simp))
    by_cases hks : (ks.len + ks.tot : Int) ≤ left - s.size
    · rw [show szS (left - s.size) ks = left - s.size - (ks.len + ks.tot) from by unfold szS; rw [if_pos hks]]
      go_wp2_with fail
      go_ret
      exact ⟨ret_int (by unfold szE; rw [if_pos (by omega)]; omega), hBB⟩
    · rw [show szS (left - s.size) ks = -1 from by unfold szS; rw [if_neg hks]]
      go_wp2_with fail
      go_ret
      exact ⟨ret_int (by unfold szE; rw [if_neg (by omega)]), hBB⟩
  · go_enter Tryz.func17, Tryz.ntmps17
    go_wp2_with fail
    go_ret
    exact ⟨ret_int (by unfold szE; rw [if_neg (by omega)]), (Below.refl _ _).alloc (Nat.le_refl _) _⟩

set_option maxHeartbeats 800000 in
theorem szS_all : ∀ (N : Nat) (f : Fo), f.size ≤ N → SzC f := by
  intro N
  induction N with
  | zero =>
    intro f hN a n c left w hf hfit hn h0 h1
    have hl : n = 0 := by have := hf.1; have := f.len_size; omega
    subst hl
    have hfl := hf.1
    have hft : f = .nil := by cases f with | nil => rfl | node => simp [Fo.len] at hfl
    subst hft
    go_enter Tryz.func38, Tryz.ntmps38
    go_wp2_with fail
    go_loopw [1, 5] (fun l i wr => l = .int .i64 left ∧ i = .int .i64 0 ∧ Below w.heap.size w wr) (fun _ i _ => 0)
    case atStart => exact ⟨by simp, rfl, Below.refl _ _⟩
    case round =>
      obtain ⟨rfl, rfl, hB⟩ := hrel
      go_wp2_with fail
      go_ret
      exact ⟨ret_int (by unfold szS; simp [Fo.len, Fo.tot]; omega), hB⟩
  | succ N ih =>
    intro f hN a n c left w hf hfit hn h0 h1
    unfold maxLen at hn
    have hlen := Lib.hid hf.1
    by_cases hneg : left < n
    · go_enter Tryz.func38, Tryz.ntmps38
      go_wp2_with fail
      go_ret
      exact ⟨ret_int (by unfold szS; have := hlen.out; rw [if_neg (by omega)]), Below.refl _ _⟩
    · go_enter Tryz.func38, Tryz.ntmps38
      go_wp2_with fail
      go_loopw [1, 5] (fun l i wr => ∃ j : Nat, j ≤ n ∧ i = .int .i64 j ∧ l = .int .i64 (left - n - (f.tot - (f.drop j).tot)) ∧ 0 ≤ left - n - (f.tot - (f.drop j).tot) ∧ Below w.heap.size w wr) (fun _ i _ => n - (intOf i).toNat)
      case atStart => exact ⟨0, Nat.zero_le _, rfl, by simp [Fo.drop_zero], by simp [Fo.drop_zero]; omega, Below.refl _ _⟩
      case round =>
        obtain ⟨j, hj, rfl, rfl, hpos, hB⟩ := hrel
        have hd := f.drop_tot_le j
        by_cases hlt : j < n
        · obtain ⟨b, off, k, s, ks, a', n', c', rfl, _, hb, hg, hc1, hc2, hc3, hcap, hks⟩ := (hf.below hB).get hlt
          have hfitk := hfit.get hg
          have hsz := Fo.get_size hg
          have hkl := hks.1
          have hdt : (f.drop j).tot = s.size + ks.len + ks.tot + (f.drop (j + 1)).tot := by rw [Fo.drop_get hg]; rfl
          have Hdt := Lib.hid hdt
          have Hfk := Lib.hid hfitk
          have hks' := hks.more (Nat.le_refl 0) hB.size
          clear hg hfitk hdt
          go_wp2_with fail
          refine (szE_of k s ks (ih ks (by omega)) a' n' c' _ _ hks' Hfk.out.2.2 Hfk.out.1 (by rw [← hkl]; exact Hfk.out.2.1) hpos (by omega)).mono ?_
          rintro e w1 ⟨rfl, hB1⟩
          by_cases hok : (s.size + ks.len + ks.tot : Int) ≤ left - n - (f.tot - (f.drop j).tot)
          · rw [show szE (left - n - (f.tot - (f.drop j).tot)) s ks = left - n - (f.tot - (f.drop (j + 1)).tot) from by unfold szE; rw [if_pos hok, Hdt.out]; omega]
            have hpos' : 0 ≤ left - n - (f.tot - (f.drop (j + 1)).tot) := by have := Hdt.out; omega
            go_wp2_with fail
            go_roundw
            case rel => exact ⟨j + 1, by omega, by go_num, rfl, hpos', hB.trans (hB1.mono hB.size)⟩
            case measure => simp [intOf]; omega
          · rw [show szE (left - n - (f.tot - (f.drop j).tot)) s ks = -1 from by unfold szE; rw [if_neg hok]]
            go_wp2_with fail
            go_ret
            exact ⟨ret_int (by unfold szS; have h1 := hlen.out; have h2 := Hdt.out; rw [if_neg (by omega)]), hB.trans (hB1.mono hB.size)⟩
        · have e : j = n := by omega
          subst e
          have hd0 : (f.drop j).tot = 0 := by rw [Fo.drop_all (by have := hlen.out; omega)]; rfl
          go_wp2_with fail
          go_ret
          exact ⟨ret_int (by unfold szS; have h1 := hlen.out; rw [if_pos (by omega)]; omega), hB⟩
theorem szExpr_any (k : Int) (s : ByteArray) (ks : Fo) (a : Option Addr) (n c : Nat) (left : Int) (w : World) (hk : KA w 0 w.heap.size ks a n) (hfit : ks.Fits) (hs : s.size ≤ maxLen) (hn : n ≤ maxLen) (h0 : 0 ≤ left) (h1 : left ≤ 1048576) :
    Calls Tryz.prog 17 #[.agg #[.int .i64 k, .string s, .slice a n c], .int .i64 left] w fun e w' => e = .returned (.int .i64 (szE left s ks)) ∧ Below w.heap.size w w' :=
  szE_of k s ks (szS_all ks.size ks (Nat.le_refl _)) a n c left w hk hfit hs hn h0 h1
end Go.Proofs.YtmmjeokmoffdpaaGreat
