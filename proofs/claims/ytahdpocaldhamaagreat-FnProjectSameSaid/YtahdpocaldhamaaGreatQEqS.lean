/-
  The reference's ExprEqual.
-/
import Derived.Test.YtahdpocaldhamaaGreatProg
import Derived.Test.YtahdpocaldhamaaGreatGone
import Derived.StillTailTactics
namespace Go.Proofs.YtahdpocaldhamaaGreat
set_option linter.unusedVariables false
set_option linter.unusedSimpArgs false
open Go.RowKit

theorem fo_past : ∀ {f : Fo} {j : Nat}, f.len ≤ j → f.get j = none
  | .nil, _, _ => rfl
  | .node _ _ _ r, 0, h => absurd h (by simp [Fo.len])
  | .node _ _ _ r, j + 1, h => fo_past (f := r) (by simp only [Fo.len] at h; omega)
theorem str_ne {s t : ByteArray} (h : ¬ s = t) : (s.toList == t.toList) = false := by
  rw [beq_eq_false_iff_ne]
  intro e
  exact h (ByteArray.ext (by simpa [ByteArray.toList_eq] using congrArg List.toArray e))
/-- the contract of the reference's ExprEqual at one node -/
def EqNC (ks : Fo) : Prop := ∀ (k k' : Int) (s s' : ByteArray) (ks' : Fo) (a b : Option Addr) (n m c d : Nat) (w : World) (bb : Bool), KA w 0 w.heap.size ks a n → KA w 0 w.heap.size ks' b m → ks.Fits → ks'.Fits → n ≤ maxLen → m ≤ maxLen → (bb = true ↔ k = k' ∧ s = s' ∧ ks = ks') →
  Calls Tryz.prog 30 #[.agg #[.int .i64 k, .string s, .slice a n c], .agg #[.int .i64 k', .string s', .slice b m d]] w fun e w' => e = .returned (.bool bb) ∧ Below w.heap.size w w'

set_option maxRecDepth 100000 in
set_option maxHeartbeats 2000000 in
theorem eqn_of (ks : Fo) (ih : ∀ f : Fo, f.size < ks.size → EqNC f) : EqNC ks := by
  intro k k' s s' ks' a b n m c d w bb hf hg hfit hfit' hn hm hb
  have B2 := ((Below.refl w.heap.size w).alloc (Nat.le_refl _) (.cells #[.int .i64 k, .string s, .slice a n c] 41)).alloc (by simp) (.cells #[.int .i64 k', .string s', .slice b m d] 41)
  have hfl := hf.1
  have hgl := hg.1
  have hf2 := hf.next B2
  have hg2 := hg.next B2
  have hb2 : ((w.alloc (.cells #[.int .i64 k, .string s, .slice a n c] 41)).alloc (.cells #[.int .i64 k', .string s', .slice b m d] 41)).heap[w.heap.size + 1]? = some (.cells #[.int .i64 k', .string s', .slice b m d] 41 (0, 0)) := by
    have := heap_alloc_new (w.alloc (.cells #[.int .i64 k, .string s, .slice a n c] 41)) (.cells #[.int .i64 k', .string s', .slice b m d] 41)
    rwa [World.size_alloc] at this
  have hb1 := (Below.heap_alloc (w.alloc (.cells #[.int .i64 k, .string s, .slice a n c] 41)) (.cells #[.int .i64 k', .string s', .slice b m d] 41) w.heap.size (by simp)).trans (heap_alloc_new w (.cells #[.int .i64 k, .string s, .slice a n c] 41))
  have Hbx := Lib.hid (And.intro hb1 hb2)
  have Hb := Lib.hid hb
  have HF := Lib.hid (And.intro hf2 hg2)
  have HB2 := Lib.hid B2
  have Hl := Lib.hid (And.intro hfl hgl)
  have hsz2 : ((w.alloc (.cells #[.int .i64 k, .string s, .slice a n c] 41)).alloc (.cells #[.int .i64 k', .string s', .slice b m d] 41)).heap.size = w.heap.size + 2 := by simp
  have Hsz2 := Lib.hid hsz2
  clear hb hf2 hg2 B2 hb1 hb2 hfl hgl hf hg hsz2
  unfold maxLen at hn hm
  by_cases hkk : k = k'
  case neg =>
    have hbf : bb = false := by
      cases bb with
      | false => rfl
      | true => exact absurd (Hb.out.1 rfl).1 hkk
    have Hbf := Lib.hid hbf
    have hkb : (k != k') = true := by simpa using hkk
    clear hbf
    go_enter Tryz.func30, Tryz.ntmps30
    go_wp2_with fail
    go_ret
    exact ⟨ret_bool Hbf.out.symm, HB2.out⟩
  case pos =>
  have hkb : (k != k') = false := by simpa using hkk
  by_cases hss : s = s'
  case neg =>
    have hbf : bb = false := by
      cases bb with
      | false => rfl
      | true => exact absurd (Hb.out.1 rfl).2.1 hss
    have Hbf := Lib.hid hbf
    have hsb := str_ne hss
    have Hkk := Lib.hid hkk
    clear hbf hkk hss
    go_enter Tryz.func30, Tryz.ntmps30
    go_wp2_with fail
    go_ret
    exact ⟨ret_bool Hbf.out.symm, HB2.out⟩
  case pos =>
  have hsb : (s.toList == s'.toList) = true := by rw [hss]; simp
  by_cases hnm : n = m
  case neg =>
    have hbf : bb = false := by
      cases bb with
      | false => rfl
      | true => exact absurd (show n = m by have := (Hb.out.1 rfl).2.2; rw [← Hl.out.1, ← Hl.out.2, this]) hnm
    have Hbf := Lib.hid hbf
    have hnb : ((n : Int) != (m : Int)) = true := by rw [bne_iff_ne]; omega
    have Hkk := Lib.hid (And.intro hkk hss)
    clear hbf hkk hss
    go_enter Tryz.func30, Tryz.ntmps30
    go_wp2_with fail
    go_ret
    exact ⟨ret_bool Hbf.out.symm, HB2.out⟩
  case pos =>
  have hnb : ((n : Int) != (m : Int)) = false := by rw [hnm]; simp
  have Hkk := Lib.hid (And.intro hkk (And.intro hss hnm))
  clear hkk hss hnm
  go_enter Tryz.func30, Tryz.ntmps30
  go_wp2_with fail
  generalize hw2 : (w.alloc (.cells #[.int .i64 k, .string s, .slice a n c] 41)).alloc (.cells #[.int .i64 k', .string s', .slice b m d] 41) = w2 at *
  clear hw2
  go_loopw [5] (fun i wr => ∃ j : Nat, j ≤ n ∧ i = .int .i64 j ∧ (∀ i, i < j → ks.get i = ks'.get i) ∧ Below w2.heap.size w2 wr) (fun i _ => n - (intOf i).toNat)
  case atStart => exact ⟨0, Nat.zero_le _, rfl, fun i h => absurd h (by omega), Below.refl _ _⟩
  case round =>
    obtain ⟨j, hj, rfl, heq, hB⟩ := hrel
    have hc1 : wr.cell? ⟨w.heap.size, 2, none⟩ = some (.slice a n c) := by rw [cell_of_row _ _ _ _ _ _ ((hB.block w.heap.size (by have := Hsz2.out; omega)).trans Hbx.out.1)]; rfl
    have hc2 : wr.cell? ⟨w.heap.size + 1, 2, none⟩ = some (.slice b m d) := by rw [cell_of_row _ _ _ _ _ _ ((hB.block (w.heap.size + 1) (by have := Hsz2.out; omega)).trans Hbx.out.2)]; rfl
    have Heq := Lib.hid heq
    clear heq
    by_cases hlt : j < n
    · have hltm : j < m := by have := Hkk.out.2.2; omega
      obtain ⟨b1, o1, k1, s1, f1, a1, n1, c1, rfl, _, hb1, hg1, d1, d2, d3, hcap, hks⟩ := (HF.out.1.below hB).get hlt
      obtain ⟨b2, o2, k2, s2, f2, a2, n2, c2, rfl, _, hb2, hg2, e1, e2, e3, hcap2, hks2⟩ := (HF.out.2.below hB).get hltm
      have hsz := Fo.get_size hg1
      obtain ⟨_, hfl, hfk⟩ := hfit.get hg1
      obtain ⟨_, hfl', hfk'⟩ := hfit'.get hg2
      have hBd : Below w2.heap.size w2 wr.drew := hB.drew
      have hks' : KA wr.drew 0 wr.drew.heap.size f1 a1 n1 := hks.keep (Nat.le_refl 0) hBd.size fun _ _ _ => rfl
      have hks2' : KA wr.drew 0 wr.drew.heap.size f2 a2 n2 := hks2.keep (Nat.le_refl 0) hBd.size fun _ _ _ => rfl
      obtain ⟨r, hr⟩ : ∃ r : Bool, (r = true ↔ k1 = k2 ∧ s1 = s2 ∧ f1 = f2) := by
        by_cases h : k1 = k2 ∧ s1 = s2 ∧ f1 = f2
        · exact ⟨true, by simp [h]⟩
        · exact ⟨false, by simp [h]⟩
      have Hc := Lib.hid (ih f1 (by omega) k1 k2 s1 s2 f2 a1 a2 n1 n2 c1 c2 wr.drew r hks' hks2' hfk hfk' (by have := hks.1; omega) (by have := hks2.1; omega) hr)
      have Hg := Lib.hid (And.intro hg1 (And.intro hg2 hr))
      clear hg1 hg2 hr
      go_wp2_with fail
      go_still_tail 10, (by kernel_rfl)
      change wpList _ _ _ _ _ wr.drew
      go_wp2_with fail
      refine Hc.out.mono ?_
      rintro e w1 ⟨rfl, hB1⟩
      have hBB := hBd.trans (hB1.mono hBd.size)
      cases r with
      | false =>
        have hbf : bb = false := by
          cases bb with
          | false => rfl
          | true =>
            have h1 := (Hb.out.1 rfl).2.2
            have h2 := Hg.out.1
            rw [h1, Hg.out.2.1] at h2
            simp only [Option.some.injEq, Prod.mk.injEq] at h2
            exact absurd (Hg.out.2.2.2 ⟨h2.1.symm, h2.2.1.symm, h2.2.2.symm⟩) (by simp)
        have Hbf := Lib.hid hbf
        have HBB := Lib.hid (HB2.out.trans (hBB.mono HB2.out.size))
        clear hbf hBB
        go_wp2_with fail
        go_ret
        exact ⟨ret_bool Hbf.out.symm, HBB.out⟩
      | true =>
        go_wp2_with fail
        go_roundw
        case rel => exact ⟨j + 1, by omega, by go_num, fun i hi => by
          by_cases e : i = j
          · subst e
            obtain ⟨h1, h2, h3⟩ := Hg.out.2.2.1 (by simp)
            rw [Hg.out.1, Hg.out.2.1, h1, h2, h3]
          · exact Heq.out i (by omega), hBB⟩
        case measure => simp [intOf]; omega
    · have hbt : bb = true := by
        refine Hb.out.2 ⟨Hkk.out.1, Hkk.out.2.1, Fo.ext fun i => ?_⟩
        by_cases hi : i < j
        · exact Heq.out i hi
        · rw [fo_past (by rw [Hl.out.1]; omega), fo_past (by rw [Hl.out.2]; have := Hkk.out.2.2; omega)]
      have Hbt := Lib.hid hbt
      have HBB := Lib.hid (HB2.out.trans (hB.mono HB2.out.size))
      clear hbt hB
      go_wp2_with fail
      go_ret
      exact ⟨ret_bool Hbt.out.symm, HBB.out⟩
theorem eqn_all (N : Nat) : ∀ ks : Fo, ks.size ≤ N → EqNC ks := by
  induction N with
  | zero => exact fun f hN => eqn_of f fun ks h => absurd h (by omega)
  | succ N ih => exact fun f hN => eqn_of f fun ks h => ih ks (by omega)
theorem eqSp_any (ks : Fo) : EqNC ks := eqn_all ks.size ks (Nat.le_refl _)
end Go.Proofs.YtahdpocaldhamaaGreat
