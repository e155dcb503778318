/-
  The model's ExprDynamic.
-/
import Derived.Test.YtmcanhmgllfndaaDyn
import Derived.Test.YtmcanhmgllfndaaTreeC
import Derived.Test.YtmcanhmgllfndaaBoxE
namespace Go.Proofs.Ytmcanhmgllfndaa
set_option linter.unusedVariables false
open Go.RowKit

/-- a read that names nothing is among these -/
def anyN (l : List (Option ByteArray)) : Bool := l.any fun o => o.isNone
theorem anyN_append (a b : List (Option ByteArray)) : anyN (a ++ b) = (anyN a || anyN b) := List.any_append
/-- the contract of l2Dynamic at one node -/
def DyC (k : Int) (s : ByteArray) (ks : Fo) : Prop := ∀ (a : Option Addr) (n c : Nat) (w : World), KA w 0 w.heap.size ks a n → s.size ≤ maxLen → ks.Fits → n ≤ maxLen → nodeB k s ks.len = true → good ks = true →
  Calls Try.prog 33 #[.agg #[.int .i64 k, .string s, .slice a n c]] w fun e w' => e = .returned (.bool (anyN (rd1 k ks))) ∧ Below w.heap.size w w'

set_option maxRecDepth 100000 in
set_option maxHeartbeats 2000000 in
theorem dyn_of (k : Int) (s : ByteArray) (ks : Fo) (ih : ∀ k' s' ks', Fo.size ks' < ks.size → DyC k' s' ks') : DyC k s ks := by
  intro a n c w hk hs hfit hn hnb hgd
  obtain rfl : ks.len = n := hk.1
  have Hfit := Lib.hid hfit
  have Hgd := Lib.hid hgd
  unfold maxLen at hn
  have hB0 := (Below.refl w.heap.size w).alloc (Nat.le_refl _) (.cells #[.int .i64 k, .string s, .slice a ks.len c] 29)
  have hkl := hk.alloc (Nat.le_refl _) (.cells #[.int .i64 k, .string s, .slice a ks.len c] 29)
  have hcond : (k = 2 ∧ 0 < ks.len) ∨ ((k == 2) = false ∧ anyN (rd1 k ks) = anyN (rdl ks)) := by
    rcases node_kinds hnb with ⟨rfl, h0, _⟩ | ⟨rfl, h4, _⟩ | ⟨rfl, h4, _⟩ | ⟨hk', h1, _⟩
    · exact .inr ⟨rfl, rfl⟩
    · exact .inr ⟨rfl, rfl⟩
    · exact .inr ⟨rfl, rfl⟩
    · rcases hk' with rfl | rfl | rfl | rfl
      · exact .inl ⟨rfl, by omega⟩
      · exact .inr ⟨rfl, rfl⟩
      · exact .inr ⟨rfl, rfl⟩
      · exact .inr ⟨rfl, rfl⟩
  clear hnb hgd hfit
  have hcond2 : (∃ b off k0, a = some ⟨b, off, none⟩ ∧ (w.alloc (.cells #[.int .i64 k, .string s, .slice a ks.len c] 29)).cell? ⟨b, off, none⟩ = some (.int .i64 k0) ∧ 0 < ks.len ∧ k = 2 ∧ ((k0 != 1) = true ∧ anyN (rd1 k ks) = true ∨ (k0 != 1) = false ∧ anyN (rd1 k ks) = anyN (rdl ks))) ∨ ((k == 2) = false ∧ anyN (rd1 k ks) = anyN (rdl ks)) := by
    rcases hcond with ⟨rfl, hl⟩ | h
    · obtain ⟨b, off, k0, s0, f0, a0, n0, c0, rfl, _, hb, g0, c00, _⟩ := hkl.get (j := 0) hl
      have c01 := c00
      rw [Nat.zero_mul, Nat.add_zero] at c01
      refine .inl ⟨b, off, k0, rfl, c01, hl, rfl, ?_⟩
      have hnm : anyN (rd1 2 ks) = (!decide (k0 = 1) || anyN (rdl ks)) := by
        unfold rd1
        rw [if_pos rfl, anyN_append]
        cases ks with
        | nil => simp [Fo.len] at hl
        | node k1 s1 f1 r1 =>
          simp only [Fo.get, Option.some.injEq, Prod.mk.injEq] at g0
          obtain ⟨rfl, _, _⟩ := g0
          unfold nameOf anyN
          by_cases h : k1 = 1 <;> simp [h]
      by_cases h1 : k0 = 1
      · exact .inr ⟨by simp [h1], by rw [hnm]; simp [h1]⟩
      · exact .inl ⟨by simpa using h1, by rw [hnm]; simp [h1]⟩
    · exact .inr h
  clear hcond
  rcases hcond2 with ⟨b, off, k0, rfl, hc0, hl0, rfl, ⟨e1, hany⟩ | ⟨e1, hany⟩⟩ | ⟨e2, hany⟩
  case inl.inl =>
    have Hany := Lib.hid hany
    clear hany
    go_enter Try.func33, Try.ntmps33
    go_wp2_with fail
    go_ret
    exact ⟨ret_bool (by rw [Hany.out]), hB0⟩
  case inl.inr =>
    have Hany := Lib.hid hany
    clear hany hkl
    go_enter Try.func33, Try.ntmps33
    go_wp2_with fail
    clear hc0 hl0
    go_loopw [3] (fun i wr => ∃ j : Nat, j ≤ ks.len ∧ i = .int .i64 j ∧ anyN (rdl ks) = anyN (rdl (ks.drop j)) ∧ Below (w.alloc (.cells #[.int .i64 2, .string s, .slice (some ⟨b, off, none⟩) ks.len c] 29)).heap.size (w.alloc (.cells #[.int .i64 2, .string s, .slice (some ⟨b, off, none⟩) ks.len c] 29)) wr) (fun i _ => ks.len - (intOf i).toNat)
    case atStart => exact ⟨0, Nat.zero_le _, rfl, by rw [Fo.drop_zero], Below.refl _ _⟩
    case round =>
      obtain ⟨j, hj, rfl, hsh, hB⟩ := hrel
      obtain ⟨_, _, hbx⟩ := box_cells hB
      have Hsh := Lib.hid hsh
      clear hsh
      have hBB := hB0.trans (hB.mono (by simp))
      by_cases hlt : j < ks.len
      · obtain ⟨b, off, k', s', ks', a', n', c', hae, _, hb, hg, hc1, hc2, hc3, hcap, hks⟩ := (hk.below hBB).get hlt
        cases hae
        have hsz := Fo.get_size hg
        obtain ⟨hnb', hgd'⟩ := good_get Hgd.out hg
        have Hfk := Lib.hid (Hfit.out.get hg)
        have hdr := Lib.hid (show rdl (ks.drop j) = rd1 k' ks' ++ rdl (ks.drop (j + 1)) by rw [Fo.drop_get hg, rdl_node])
        have hkl' := hks.1
        have hks' := hks.more (Nat.le_refl 0) hBB.size
        have hn' : n' ≤ maxLen := by rw [← hkl']; exact Hfk.out.2.1
        have Hih := Lib.hid (ih k' s' ks' (by omega) a' n' c' _ hks' Hfk.out.1 Hfk.out.2.2 hn' hnb' hgd')
        clear hg hnb' hgd'
        go_wp2_with fail
        refine Hih.out.mono ?_
        rintro e w1 ⟨rfl, hB1⟩
        have hB2 := hB.trans (hB1.mono hB.size)
        have hB3 := hBB.trans (hB1.mono hBB.size)
        rcases Bool.eq_false_or_eq_true (anyN (rd1 k' ks')) with hs1 | hs1
        · rw [hs1]
          go_wp2_with fail
          go_ret
          exact ⟨ret_bool (by rw [Hany.out, Hsh.out, hdr.out, anyN_append, hs1]; rfl), hB3⟩
        · rw [hs1]
          go_wp2_with fail
          go_roundw
          case rel => exact ⟨j + 1, by omega, by go_num, by rw [Hsh.out, hdr.out, anyN_append, hs1]; rfl, hB2⟩
          case measure => simp [intOf]; omega
      · have e0 : j = ks.len := by omega
        subst e0
        go_wp2_with fail
        go_ret
        exact ⟨ret_bool (by rw [Hany.out, Hsh.out, Fo.drop_all (Nat.le_refl _)]; rfl), hBB⟩
  case inr =>
    have Hany := Lib.hid hany
    clear hany hkl
    go_enter Try.func33, Try.ntmps33
    go_wp2_with fail
    go_loopw [3] (fun i wr => ∃ j : Nat, j ≤ ks.len ∧ i = .int .i64 j ∧ anyN (rdl ks) = anyN (rdl (ks.drop j)) ∧ Below (w.alloc (.cells #[.int .i64 k, .string s, .slice a ks.len c] 29)).heap.size (w.alloc (.cells #[.int .i64 k, .string s, .slice a ks.len c] 29)) wr) (fun i _ => ks.len - (intOf i).toNat)
    case atStart => exact ⟨0, Nat.zero_le _, rfl, by rw [Fo.drop_zero], Below.refl _ _⟩
    case round =>
      obtain ⟨j, hj, rfl, hsh, hB⟩ := hrel
      obtain ⟨_, _, hbx⟩ := box_cells hB
      have Hsh := Lib.hid hsh
      clear hsh
      have hBB := hB0.trans (hB.mono (by simp))
      by_cases hlt : j < ks.len
      · obtain ⟨b, off, k', s', ks', a', n', c', hae, _, hb, hg, hc1, hc2, hc3, hcap, hks⟩ := (hk.below hBB).get hlt
        subst hae
        have hsz := Fo.get_size hg
        obtain ⟨hnb', hgd'⟩ := good_get Hgd.out hg
        have Hfk := Lib.hid (Hfit.out.get hg)
        have hdr := Lib.hid (show rdl (ks.drop j) = rd1 k' ks' ++ rdl (ks.drop (j + 1)) by rw [Fo.drop_get hg, rdl_node])
        have hkl' := hks.1
        have hks' := hks.more (Nat.le_refl 0) hBB.size
        have hn' : n' ≤ maxLen := by rw [← hkl']; exact Hfk.out.2.1
        have Hih := Lib.hid (ih k' s' ks' (by omega) a' n' c' _ hks' Hfk.out.1 Hfk.out.2.2 hn' hnb' hgd')
        clear hg hnb' hgd'
        go_wp2_with fail
        refine Hih.out.mono ?_
        rintro e w1 ⟨rfl, hB1⟩
        have hB2 := hB.trans (hB1.mono hB.size)
        have hB3 := hBB.trans (hB1.mono hBB.size)
        rcases Bool.eq_false_or_eq_true (anyN (rd1 k' ks')) with hs1 | hs1
        · rw [hs1]
          go_wp2_with fail
          go_ret
          exact ⟨ret_bool (by rw [Hany.out, Hsh.out, hdr.out, anyN_append, hs1]; rfl), hB3⟩
        · rw [hs1]
          go_wp2_with fail
          go_roundw
          case rel => exact ⟨j + 1, by omega, by go_num, by rw [Hsh.out, hdr.out, anyN_append, hs1]; rfl, hB2⟩
          case measure => simp [intOf]; omega
      · have e0 : j = ks.len := by omega
        subst e0
        go_wp2_with fail
        go_ret
        exact ⟨ret_bool (by rw [Hany.out, Hsh.out, Fo.drop_all (Nat.le_refl _)]; rfl), hBB⟩
theorem dyn_all (N : Nat) : ∀ k s ks, Fo.size ks ≤ N → DyC k s ks := by
  induction N with
  | zero => exact fun k s ks hN => dyn_of k s ks fun k' s' ks' h => absurd h (by omega)
  | succ N ih => exact fun k s ks hN => dyn_of k s ks fun k' s' ks' h => ih k' s' ks' (by omega)

set_option maxHeartbeats 400000 in
theorem dynS_any (k : Int) (s : ByteArray) (ks : Fo) (a : Option Addr) (n c : Nat) (w : World) (hk : KA w 0 w.heap.size ks a n) (hs : s.size ≤ maxLen) (hfit : ks.Fits) (hn : n ≤ maxLen) (hz : ks.size ≤ 1048576) :
    Calls Try.prog 15 #[.agg #[.int .i64 k, .string s, .slice a n c]] w fun e w' => e = .returned (.bool (validE k s ks && anyN (rd1 k ks))) ∧ Below w.heap.size w w' := by
  have hB0 := (Below.refl w.heap.size w).alloc (Nat.le_refl _) (.cells #[.int .i64 k, .string s, .slice a n c] 29)
  go_enter Try.func15, Try.ntmps15
  go_wp2_with fail
  refine (validSE_any k s ks a n c _ (hk.next hB0) hs hfit hn hz).mono ?_
  rintro e w1 ⟨rfl, hB1⟩
  obtain ⟨hx0, hx1, hx2⟩ := box_cells hB1
  have hBB1 := hB0.trans (hB1.mono hB0.size)
  rcases Bool.eq_false_or_eq_true (validE k s ks) with h1 | h1
  · obtain ⟨hn1, hg1, _⟩ := valid_good h1
    have Hdy := Lib.hid (dyn_all ks.size k s ks (Nat.le_refl _) a n c _ (hk.next hBB1) hs hfit hn hn1 hg1)
    clear hn1 hg1
    rw [h1]
    go_wp2_with fail
    refine Hdy.out.mono ?_
    rintro e w2 ⟨rfl, hB2⟩
    have hBB := hBB1.trans (hB2.mono hBB1.size)
    go_wp2_with fail
    go_ret
    exact ⟨ret_bool (by rw [h1]; rfl), hBB⟩
  · rw [h1]
    go_wp2_with fail
    go_ret
    exact ⟨ret_bool (by rw [h1]; rfl), hBB1⟩
theorem dynI_expr (k : Int) (s : ByteArray) (ks : Fo) (a : Option Addr) (n c : Nat) (w : World) (hk : KA w 0 w.heap.size ks a n) (hs : s.size ≤ maxLen) (hfit : ks.Fits) (hn : n ≤ maxLen) :
    Calls Try.prog 16 #[.agg #[.int .i64 k, .string s, .slice a n c]] w fun e w' => e = .returned (.bool (validE k s ks && anyN (rd1 k ks))) ∧ Below w.heap.size w w' :=
  callsIn_wide.1 (dynI_in k s ks a n c w hk hs hfit hn)
end Go.Proofs.Ytmcanhmgllfndaa
