/-
  The law's helper eqExpr at two places that hold one expression.
-/
import Derived.Test.YtfnnpeggjnonjaaProg
import Derived.Test.YtfnnpeggjnonjaaTree
import Derived.StillTailTactics
namespace Go.Proofs.Ytfnnpeggjnonjaa
set_option linter.unusedVariables false
open Go.RowKit

/-- the contract of eqExprS at one list -/
def EqC (f : Fo) : Prop := ∀ (a b : Option Addr) (n c d : Nat) (w : World), KA w 0 w.heap.size f a n → KA w 0 w.heap.size f b n → f.Fits → n ≤ maxLen →
  Calls Try.prog 17 #[.slice a n c, .slice b n d] w fun e w' => e = .returned (.bool true) ∧ Below w.heap.size w w'

set_option maxHeartbeats 400000 in
theorem eqE_of (k : Int) (s : ByteArray) (ks : Fo) (ih : EqC ks) (a b : Option Addr) (n c d : Nat) (w : World) (hk : KA w 0 w.heap.size ks a n) (hk2 : KA w 0 w.heap.size ks b n) (hfit : ks.Fits) (hn : n ≤ maxLen) :
    Calls Try.prog 9 #[.agg #[.int .i64 k, .string s, .slice a n c], .agg #[.int .i64 k, .string s, .slice b n d]] w fun e w' => e = .returned (.bool true) ∧ Below w.heap.size w w' := by
  have hB := ((Below.refl w.heap.size w).alloc (Nat.le_refl _) (.cells #[.int .i64 k, .string s, .slice a n c] 29)).alloc (by simp) (.cells #[.int .i64 k, .string s, .slice b n d] 29)
  have hd : (s.toList == s.toList) = true := by simp
  have hkk : (k == k) = true := by simp
  go_enter Try.func9, Try.ntmps9
  go_wp2_with fail
  refine (ih a b n c d _ (hk.next hB) (hk2.next hB) hfit hn).mono ?_
  rintro e w1 ⟨rfl, hB1⟩
  have hBB := hB.trans (hB1.mono hB.size)
  go_wp2_with fail
  go_ret
  exact ⟨rfl, hBB⟩

set_option maxHeartbeats 800000 in
set_option maxRecDepth 100000 in
theorem eqS_of (f : Fo) (ih : ∀ ks : Fo, ks.size < f.size → EqC ks) : EqC f := by
  intro a b n c d w hf hg hfit hn
  unfold maxLen at hn
  go_enter Try.func17, Try.ntmps17
  go_wp2_with fail
  go_loopw [5] (fun i wr => ∃ j : Nat, j ≤ n ∧ i = .int .i64 j ∧ Below w.heap.size w wr) (fun i _ => n - (intOf i).toNat)
  case atStart => exact ⟨0, Nat.zero_le _, rfl, Below.refl _ _⟩
  case round =>
    obtain ⟨j, hj, rfl, hB⟩ := hrel
    by_cases hlt : j < n
    · obtain ⟨b1, o1, k, s, ks, a', n', c', rfl, _, hb1, hg1, hc1, hc2, hc3, hcap, hks⟩ := (hf.below hB).get hlt
      obtain ⟨b2, o2, k2, s2, ks2, a2, n2, c2, rfl, _, hb2, hg2, hd1, hd2, hd3, hcap2, hks2⟩ := (hg.below hB).get hlt
      rw [hg1] at hg2
      simp only [Option.some.injEq, Prod.mk.injEq] at hg2
      obtain ⟨rfl, rfl, rfl⟩ := hg2
      have hsz := Fo.get_size hg1
      obtain ⟨_, hfl, hfk⟩ := hfit.get hg1
      have hkl := hks.1
      have hkl2 := hks2.1
      subst hkl
      subst hkl2
      have hBd : Below w.heap.size w wr.drew := hB.drew
      have hks' : KA wr.drew 0 wr.drew.heap.size ks a' ks.len := hks.keep (Nat.le_refl 0) hBd.size fun _ _ _ => rfl
      have hks2' : KA wr.drew 0 wr.drew.heap.size ks a2 ks.len := hks2.keep (Nat.le_refl 0) hBd.size fun _ _ _ => rfl
      clear hg1
      go_wp2_with fail
      go_still_tail 8, (by kernel_rfl)
      change wpList _ _ _ _ _ wr.drew
      go_wp2_with fail
      refine (eqE_of k s ks (ih ks (by omega)) a' a2 ks.len c' c2 _ hks' hks2' hfk hfl).mono ?_
      rintro e w1 ⟨rfl, hB1⟩
      have hBB := hBd.trans (hB1.mono hBd.size)
      go_wp2_with fail
      go_roundw
      case rel => exact ⟨j + 1, by omega, by go_num, hBB⟩
      case measure => simp [intOf]; omega
    · go_wp2_with fail
      go_ret
      exact ⟨rfl, hB⟩
theorem eqS_all (N : Nat) : ∀ f : Fo, f.size ≤ N → EqC f := by
  induction N with
  | zero => exact fun f hN => eqS_of f fun ks h => absurd h (by omega)
  | succ N ih => exact fun f hN => eqS_of f fun ks h => ih ks (by omega)
theorem eqExpr_yes (k : Int) (s : ByteArray) (ks : Fo) (a b : Option Addr) (n c d : Nat) (w : World) (hk : KA w 0 w.heap.size ks a n) (hk2 : KA w 0 w.heap.size ks b n) (hfit : ks.Fits) (hn : n ≤ maxLen) :
    Calls Try.prog 9 #[.agg #[.int .i64 k, .string s, .slice a n c], .agg #[.int .i64 k, .string s, .slice b n d]] w fun e w' => e = .returned (.bool true) ∧ Below w.heap.size w w' :=
  eqE_of k s ks (eqS_all ks.size ks (Nat.le_refl _)) a b n c d w hk hk2 hfit hn
end Go.Proofs.Ytfnnpeggjnonjaa
