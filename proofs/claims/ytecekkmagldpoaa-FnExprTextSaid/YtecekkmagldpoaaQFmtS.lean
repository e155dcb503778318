/-
  The model's FormatExpr.
-/
import Derived.Test.YtecekkmagldpoaaQTreeC
import Derived.Test.YtecekkmagldpoaaGone
import Derived.Deep.QuietTactic
import Derived.Deep.RegionHeld3
import Derived.BigQuiet
import Derived.Laws.Concat
namespace Go.Proofs.Ytecekkmagldpoaa
set_option linter.unusedVariables false
open Go.RowKit

/-- the contract of l2Format at one node -/
def LfC (k : Int) (s : ByteArray) (ks : Fo) : Prop := ∀ (a : Option Addr) (n c : Nat) (w : World), KA w 0 w.heap.size ks a n → nodeB k s ks.len = true → good ks = true → ks.size ≤ 1000 →
  Calls Try.prog 17 #[.agg #[.int .i64 k, .string s, .slice a n c]] w fun e w' => e = .returned (.string ⟨(fm1 k s ks).toArray⟩) ∧ Below w.heap.size w w'
theorem byt {a b : ByteArray} (h : a.data.toList = b.data.toList) : a = b := WideShapes.bytes_inj h
theorem fm_get : ∀ {f : Fo} {j : Nat} {k : Int} {s : ByteArray} {ks : Fo} (seps : List (List UInt8)), f.get j = some (k, s, ks) → fmS (f.drop j) seps = fm1 k s ks ++ seps.headD [] ++ fmS (f.drop (j + 1)) seps.tail := fun seps h => by rw [Fo.drop_get h, fmS_node]
theorem fm_size {k : Int} {s : ByteArray} {ks : Fo} (hn : nodeB k s ks.len = true) (hg : good ks = true) (hz : ks.size ≤ 1000) : (⟨(fm1 k s ks).toArray⟩ : ByteArray).size ≤ 63063 := by
  have := fm1_len hn hg
  show (fm1 k s ks).toArray.size ≤ _
  simp; omega

set_option maxRecDepth 100000 in
set_option maxHeartbeats 4000000 in
theorem lf_of (k : Int) (s : ByteArray) (ks : Fo) (ih : ∀ k' s' ks', Fo.size ks' < ks.size → LfC k' s' ks') : LfC k s ks := by
  intro a n c w hk hn hg hz
  have hkl : ks.len = n := hk.1
  have hB0 := (Below.refl w.heap.size w).alloc (Nat.le_refl _) (.cells #[.int .i64 k, .string s, .slice a n c] 25)
  have hk1 := hk.next hB0
  have hkl' := Lib.hid hkl
  have Hg := Lib.hid hg
  rcases node_kinds hn with ⟨rfl, h0, hp⟩ | ⟨rfl, h4, rfl⟩ | ⟨rfl, h4, rfl⟩ | ⟨hkk, h1, rfl⟩
  · have hs := plain_size hp
    clear hkl h0 hn hg
    go_enter Try.func17, Try.ntmps17
    go_wp2_with fail
    go_ret
    exact ⟨ret_str (byt (by unfold fm1; simp)), hB0⟩
  · clear hn hg
    have hlt' : n ≤ 4 := by omega
    go_enter Try.func17, Try.ntmps17
    go_wp2_with fail
    go_loopw [3, 4] (fun o i wr => ∃ (j : Nat) (z : ByteArray), j ≤ n ∧ i = .int .i64 j ∧ o = .string z ∧ z.data.toList ++ fmS (ks.drop j) [] = [40] ++ fmS ks [] ∧ z.size + 63 * (ks.drop j).size ≤ 63063 ∧ Below (w.alloc (.cells #[.int .i64 3, .string .empty, .slice a n c] 25)).heap.size (w.alloc (.cells #[.int .i64 3, .string .empty, .slice a n c] 25)) wr) (fun _ i _ => n - (intOf i).toNat)
    case atStart => exact ⟨0, ⟨#[40]⟩, Nat.zero_le _, rfl, rfl, by rw [Fo.drop_zero], by rw [Fo.drop_zero]; show 1 + _ ≤ _; omega, Below.refl _ _⟩
    case round =>
      obtain ⟨j, z, hj, rfl, rfl, htx, hzz, hB⟩ := hrel
      obtain ⟨_, _, hbx⟩ := box_cells hB
      have Htx := Lib.hid htx
      have hBB := hB0.trans (hB.mono (by simp))
      clear htx
      by_cases hlt : j < n
      · obtain ⟨b, off, k', s', ks', a', n', c', rfl, _, hb, hgt, hc1, hc2, hc3, hcap, hks⟩ := (hk.below hBB).get hlt
        have hsz := Fo.get_size hgt
        obtain ⟨hn0, hg0⟩ := good_get Hg.out hgt
        have htx2 := fm_get [] hgt
        have hfl := fm1_len hn0 hg0
        have hds : (ks.drop j).size = ks'.size + (ks.drop (j + 1)).size + 1 := by rw [Fo.drop_get hgt]; rfl
        have Hih := Lib.hid (ih k' s' ks' (by omega) a' n' c' wr (hks.more (Nat.le_refl 0) hBB.size) hn0 hg0 (by omega))
        have hys : (⟨(fm1 k' s' ks').toArray⟩ : ByteArray).size ≤ 63 * (ks'.size + 1) := by show (fm1 k' s' ks').toArray.size ≤ _; simpa using hfl
        have Htx2 := Lib.hid htx2
        clear hgt hn0 hg0 htx2 hfl hks
        go_wp2_with fail
        refine Hih.out.mono ?_
        rintro e w1 ⟨rfl, hB1⟩
        have hB2 := hB.trans (hB1.mono hB.size)
        have Hyt := Lib.hid (show (⟨(fm1 k' s' ks').toArray⟩ : ByteArray).data.toList = fm1 k' s' ks' by simp)
        generalize (⟨(fm1 k' s' ks').toArray⟩ : ByteArray) = y at *
        go_wp2_with fail
        go_roundw
        case rel => exact ⟨j + 1, z ++ y, by omega, by go_num, rfl, by rw [ByteArray.data_append, Array.toList_append, Hyt.out, ← Htx.out, Htx2.out]; simp, by rw [ByteArray.size_append]; omega, hB2⟩
        case measure => simp [intOf]; omega
      · have e0 : ks.drop j = .nil := Fo.drop_all (by omega)
        have htx3 : z.data.toList = [40] ++ fmS ks [] := by rw [← Htx.out, e0]; simp [fmS]
        have Htx3 := Lib.hid htx3
        clear htx3 e0 hkl
        go_wp2_with fail
        go_ret
        exact ⟨ret_str (byt (by rw [show fm1 3 .empty ks = [40] ++ fmS ks [] ++ [41] from rfl, ← Htx3.out]; simp)), hBB⟩
  · obtain rfl : n = 4 := by omega
    obtain ⟨b, off, k0, s0, f0, a0, n0, c0, rfl, _, hb, g0, c00, c01, c02, cc0, ka0⟩ := hk1.get (j := 0) (by omega)
    obtain ⟨b1, off1, k1, s1, f1, a1, n1, c1, e1, _, _, g1, c10, c11, c12, cc1, ka1⟩ := hk1.get (j := 1) (by omega)
    cases e1
    obtain ⟨b2, off2, k2, s2, f2, a2, n2, c2, e2, _, _, g2, c20, c21, c22, cc2, ka2⟩ := hk1.get (j := 2) (by omega)
    cases e2
    obtain ⟨b3, off3, k3, s3, f3, a3, n3, c3, e3, _, _, g3, c30, c31, c32, cc3, ka3⟩ := hk1.get (j := 3) (by omega)
    cases e3
    rw [Nat.zero_mul, Nat.add_zero] at c00 c01 c02
    replace c10 : (w.alloc (.cells #[.int .i64 4, .string .empty, .slice (some ⟨b, off, none⟩) 4 c] 25)).cell? ⟨b, off + 3, none⟩ = some (.int .i64 k1) := c10
    replace c11 : (w.alloc (.cells #[.int .i64 4, .string .empty, .slice (some ⟨b, off, none⟩) 4 c] 25)).cell? ⟨b, off + 4, none⟩ = some (.string s1) := c11
    replace c12 : (w.alloc (.cells #[.int .i64 4, .string .empty, .slice (some ⟨b, off, none⟩) 4 c] 25)).cell? ⟨b, off + 5, none⟩ = some (.slice a1 n1 c1) := c12
    replace c20 : (w.alloc (.cells #[.int .i64 4, .string .empty, .slice (some ⟨b, off, none⟩) 4 c] 25)).cell? ⟨b, off + 6, none⟩ = some (.int .i64 k2) := c20
    replace c21 : (w.alloc (.cells #[.int .i64 4, .string .empty, .slice (some ⟨b, off, none⟩) 4 c] 25)).cell? ⟨b, off + 7, none⟩ = some (.string s2) := c21
    replace c22 : (w.alloc (.cells #[.int .i64 4, .string .empty, .slice (some ⟨b, off, none⟩) 4 c] 25)).cell? ⟨b, off + 8, none⟩ = some (.slice a2 n2 c2) := c22
    replace c30 : (w.alloc (.cells #[.int .i64 4, .string .empty, .slice (some ⟨b, off, none⟩) 4 c] 25)).cell? ⟨b, off + 9, none⟩ = some (.int .i64 k3) := c30
    replace c31 : (w.alloc (.cells #[.int .i64 4, .string .empty, .slice (some ⟨b, off, none⟩) 4 c] 25)).cell? ⟨b, off + 10, none⟩ = some (.string s3) := c31
    replace c32 : (w.alloc (.cells #[.int .i64 4, .string .empty, .slice (some ⟨b, off, none⟩) 4 c] 25)).cell? ⟨b, off + 11, none⟩ = some (.slice a3 n3 c3) := c32
    obtain ⟨hn0, hg0⟩ := good_get hg g0
    have hsz0 := Fo.get_size g0
    have hfs0 := fm_size hn0 hg0 (by omega)
    obtain ⟨z0, Hz0⟩ : ∃ z, Hid ((⟨(fm1 k0 s0 f0).toArray⟩ : ByteArray) = z) := ⟨_, rfl⟩
    have Hy0 := Lib.hid (show z0.data.toList = fm1 k0 s0 f0 by rw [← Hz0.out])
    rw [Hz0.out] at hfs0
    have hL0 : ∀ w' : World, KA w' 0 w'.heap.size f0 a0 n0 → Calls Try.prog 17 #[.agg #[.int .i64 k0, .string s0, .slice a0 n0 c0]] w' fun e w'' => e = .returned (.string z0) ∧ Below w'.heap.size w' w'' := fun w' hka => by
      have := ih k0 s0 f0 (by omega) a0 n0 c0 w' hka hn0 hg0 (by omega)
      rwa [Hz0.out] at this
    have HL0 := Lib.hid hL0
    obtain ⟨hn1, hg1⟩ := good_get hg g1
    have hsz1 := Fo.get_size g1
    have hfs1 := fm_size hn1 hg1 (by omega)
    obtain ⟨z1, Hz1⟩ : ∃ z, Hid ((⟨(fm1 k1 s1 f1).toArray⟩ : ByteArray) = z) := ⟨_, rfl⟩
    have Hy1 := Lib.hid (show z1.data.toList = fm1 k1 s1 f1 by rw [← Hz1.out])
    rw [Hz1.out] at hfs1
    have hL1 : ∀ w' : World, KA w' 0 w'.heap.size f1 a1 n1 → Calls Try.prog 17 #[.agg #[.int .i64 k1, .string s1, .slice a1 n1 c1]] w' fun e w'' => e = .returned (.string z1) ∧ Below w'.heap.size w' w'' := fun w' hka => by
      have := ih k1 s1 f1 (by omega) a1 n1 c1 w' hka hn1 hg1 (by omega)
      rwa [Hz1.out] at this
    have HL1 := Lib.hid hL1
    obtain ⟨hn2, hg2⟩ := good_get hg g2
    have hsz2 := Fo.get_size g2
    have hfs2 := fm_size hn2 hg2 (by omega)
    obtain ⟨z2, Hz2⟩ : ∃ z, Hid ((⟨(fm1 k2 s2 f2).toArray⟩ : ByteArray) = z) := ⟨_, rfl⟩
    have Hy2 := Lib.hid (show z2.data.toList = fm1 k2 s2 f2 by rw [← Hz2.out])
    rw [Hz2.out] at hfs2
    have hL2 : ∀ w' : World, KA w' 0 w'.heap.size f2 a2 n2 → Calls Try.prog 17 #[.agg #[.int .i64 k2, .string s2, .slice a2 n2 c2]] w' fun e w'' => e = .returned (.string z2) ∧ Below w'.heap.size w' w'' := fun w' hka => by
      have := ih k2 s2 f2 (by omega) a2 n2 c2 w' hka hn2 hg2 (by omega)
      rwa [Hz2.out] at this
    have HL2 := Lib.hid hL2
    obtain ⟨hn3, hg3⟩ := good_get hg g3
    have hsz3 := Fo.get_size g3
    have hfs3 := fm_size hn3 hg3 (by omega)
    obtain ⟨z3, Hz3⟩ : ∃ z, Hid ((⟨(fm1 k3 s3 f3).toArray⟩ : ByteArray) = z) := ⟨_, rfl⟩
    have Hy3 := Lib.hid (show z3.data.toList = fm1 k3 s3 f3 by rw [← Hz3.out])
    rw [Hz3.out] at hfs3
    have hL3 : ∀ w' : World, KA w' 0 w'.heap.size f3 a3 n3 → Calls Try.prog 17 #[.agg #[.int .i64 k3, .string s3, .slice a3 n3 c3]] w' fun e w'' => e = .returned (.string z3) ∧ Below w'.heap.size w' w'' := fun w' hka => by
      have := ih k3 s3 f3 (by omega) a3 n3 c3 w' hka hn3 hg3 (by omega)
      rwa [Hz3.out] at this
    have HL3 := Lib.hid hL3
    have htx : fmS ks [[61], [63], [58], [93]] = fm1 k0 s0 f0 ++ [61] ++ (fm1 k1 s1 f1 ++ [63] ++ (fm1 k2 s2 f2 ++ [58] ++ (fm1 k3 s3 f3 ++ [93]))) := by
      have t0 := fm_get [[61], [63], [58], [93]] g0
      have t1 := fm_get [[63], [58], [93]] g1
      have t2 := fm_get [[58], [93]] g2
      have t3 := fm_get [[93]] g3
      rw [Fo.drop_zero] at t0
      rw [show 3 + 1 = 4 from rfl, Fo.drop_all (f := ks) (j := 4) (by omega)] at t3
      simp only [List.headD_cons, List.tail_cons, Nat.zero_add] at t0 t1 t2 t3
      rw [t0, t1, t2, t3]
      simp [fmS]
    have Htx := Lib.hid htx
    have hbx : (w.alloc (.cells #[.int .i64 4, .string .empty, .slice (some ⟨b, off, none⟩) 4 c] 25)).cell? ⟨w.heap.size, 2, none⟩ = some (.slice (some ⟨b, off, none⟩) 4 c) := by rw [cell_of_row _ _ _ _ _ _ (heap_alloc_new w _)]; rfl
    have hgl : w.heap.size < (w.alloc (.cells #[.int .i64 4, .string .empty, .slice (some ⟨b, off, none⟩) 4 c] 25)).heap.size := by simp
    have Hcs := Lib.hid (And.intro hbx (And.intro c00 (And.intro c01 (And.intro c02 (And.intro c10 (And.intro c11 (And.intro c12 (And.intro c20 (And.intro c21 (And.intro c22 (And.intro c30 (And.intro c31 c32))))))))))))
    have hka0 := ka0.next ((Below.refl (w.alloc (.cells #[.int .i64 4, .string .empty, .slice (some ⟨b, off, none⟩) 4 c] 25)).heap.size (w.alloc (.cells #[.int .i64 4, .string .empty, .slice (some ⟨b, off, none⟩) 4 c] 25))).drew)
    have hka1 := ka1.next ((Below.refl (w.alloc (.cells #[.int .i64 4, .string .empty, .slice (some ⟨b, off, none⟩) 4 c] 25)).heap.size (w.alloc (.cells #[.int .i64 4, .string .empty, .slice (some ⟨b, off, none⟩) 4 c] 25))).drew)
    have hka2 := ka2.next ((Below.refl (w.alloc (.cells #[.int .i64 4, .string .empty, .slice (some ⟨b, off, none⟩) 4 c] 25)).heap.size (w.alloc (.cells #[.int .i64 4, .string .empty, .slice (some ⟨b, off, none⟩) 4 c] 25))).drew)
    have hka3 := ka3.next ((Below.refl (w.alloc (.cells #[.int .i64 4, .string .empty, .slice (some ⟨b, off, none⟩) 4 c] 25)).heap.size (w.alloc (.cells #[.int .i64 4, .string .empty, .slice (some ⟨b, off, none⟩) 4 c] 25))).drew)
    have Bd := hB0.trans ((Below.refl (w.alloc (.cells #[.int .i64 4, .string .empty, .slice (some ⟨b, off, none⟩) 4 c] 25)).heap.size (w.alloc (.cells #[.int .i64 4, .string .empty, .slice (some ⟨b, off, none⟩) 4 c] 25))).drew.mono hB0.size)
    clear hkl h4 hn hg g0 g1 g2 g3 hL0 hL1 hL2 hL3 htx hn0 hg0 hn1 hg1 hn2 hg2 hn3 hg3 hk hk1 ka0 ka1 ka2 ka3
    have q0 := fun W => run_string_add_sum (P := Try.prog) W ({ data := #[91] } : ByteArray) (z0 : ByteArray) (by have o1 : (⟨#[91]⟩ : ByteArray).size = 1 := rfl; have o2 : (⟨#[61]⟩ : ByteArray).size = 1 := rfl; have o3 : (⟨#[63]⟩ : ByteArray).size = 1 := rfl; have o4 : (⟨#[58]⟩ : ByteArray).size = 1 := rfl; have o5 : (⟨#[93]⟩ : ByteArray).size = 1 := rfl; first | omega | (simp only [ByteArray.size_append]; omega))
    have q1 := fun W => run_string_add_sum (P := Try.prog) W (({ data := #[91] } ++ z0) : ByteArray) ({ data := #[61] } : ByteArray) (by have o1 : (⟨#[91]⟩ : ByteArray).size = 1 := rfl; have o2 : (⟨#[61]⟩ : ByteArray).size = 1 := rfl; have o3 : (⟨#[63]⟩ : ByteArray).size = 1 := rfl; have o4 : (⟨#[58]⟩ : ByteArray).size = 1 := rfl; have o5 : (⟨#[93]⟩ : ByteArray).size = 1 := rfl; first | omega | (simp only [ByteArray.size_append]; omega))
    have q2 := fun W => run_string_add_sum (P := Try.prog) W ((({ data := #[91] } ++ z0) ++ { data := #[61] }) : ByteArray) (z1 : ByteArray) (by have o1 : (⟨#[91]⟩ : ByteArray).size = 1 := rfl; have o2 : (⟨#[61]⟩ : ByteArray).size = 1 := rfl; have o3 : (⟨#[63]⟩ : ByteArray).size = 1 := rfl; have o4 : (⟨#[58]⟩ : ByteArray).size = 1 := rfl; have o5 : (⟨#[93]⟩ : ByteArray).size = 1 := rfl; first | omega | (simp only [ByteArray.size_append]; omega))
    have q3 := fun W => run_string_add_sum (P := Try.prog) W (((({ data := #[91] } ++ z0) ++ { data := #[61] }) ++ z1) : ByteArray) ({ data := #[63] } : ByteArray) (by have o1 : (⟨#[91]⟩ : ByteArray).size = 1 := rfl; have o2 : (⟨#[61]⟩ : ByteArray).size = 1 := rfl; have o3 : (⟨#[63]⟩ : ByteArray).size = 1 := rfl; have o4 : (⟨#[58]⟩ : ByteArray).size = 1 := rfl; have o5 : (⟨#[93]⟩ : ByteArray).size = 1 := rfl; first | omega | (simp only [ByteArray.size_append]; omega))
    have q4 := fun W => run_string_add_sum (P := Try.prog) W ((((({ data := #[91] } ++ z0) ++ { data := #[61] }) ++ z1) ++ { data := #[63] }) : ByteArray) (z2 : ByteArray) (by have o1 : (⟨#[91]⟩ : ByteArray).size = 1 := rfl; have o2 : (⟨#[61]⟩ : ByteArray).size = 1 := rfl; have o3 : (⟨#[63]⟩ : ByteArray).size = 1 := rfl; have o4 : (⟨#[58]⟩ : ByteArray).size = 1 := rfl; have o5 : (⟨#[93]⟩ : ByteArray).size = 1 := rfl; first | omega | (simp only [ByteArray.size_append]; omega))
    have q5 := fun W => run_string_add_sum (P := Try.prog) W (((((({ data := #[91] } ++ z0) ++ { data := #[61] }) ++ z1) ++ { data := #[63] }) ++ z2) : ByteArray) ({ data := #[58] } : ByteArray) (by have o1 : (⟨#[91]⟩ : ByteArray).size = 1 := rfl; have o2 : (⟨#[61]⟩ : ByteArray).size = 1 := rfl; have o3 : (⟨#[63]⟩ : ByteArray).size = 1 := rfl; have o4 : (⟨#[58]⟩ : ByteArray).size = 1 := rfl; have o5 : (⟨#[93]⟩ : ByteArray).size = 1 := rfl; first | omega | (simp only [ByteArray.size_append]; omega))
    have q6 := fun W => run_string_add_sum (P := Try.prog) W ((((((({ data := #[91] } ++ z0) ++ { data := #[61] }) ++ z1) ++ { data := #[63] }) ++ z2) ++ { data := #[58] }) : ByteArray) (z3 : ByteArray) (by have o1 : (⟨#[91]⟩ : ByteArray).size = 1 := rfl; have o2 : (⟨#[61]⟩ : ByteArray).size = 1 := rfl; have o3 : (⟨#[63]⟩ : ByteArray).size = 1 := rfl; have o4 : (⟨#[58]⟩ : ByteArray).size = 1 := rfl; have o5 : (⟨#[93]⟩ : ByteArray).size = 1 := rfl; first | omega | (simp only [ByteArray.size_append]; omega))
    have q7 := fun W => run_string_add_sum (P := Try.prog) W (((((((({ data := #[91] } ++ z0) ++ { data := #[61] }) ++ z1) ++ { data := #[63] }) ++ z2) ++ { data := #[58] }) ++ z3) : ByteArray) ({ data := #[93] } : ByteArray) (by have o1 : (⟨#[91]⟩ : ByteArray).size = 1 := rfl; have o2 : (⟨#[61]⟩ : ByteArray).size = 1 := rfl; have o3 : (⟨#[63]⟩ : ByteArray).size = 1 := rfl; have o4 : (⟨#[58]⟩ : ByteArray).size = 1 := rfl; have o5 : (⟨#[93]⟩ : ByteArray).size = 1 := rfl; first | omega | (simp only [ByteArray.size_append]; omega))
    go_enter Try.func17, Try.ntmps17
    go_wp2_with fail
    clear hbx c00 c01 c02 c10 c11 c12 c20 c21 c22 c30 c31 c32
    have HS0 := Lib.hid (show (w.alloc (.cells #[.int .i64 4, .string .empty, .slice (some ⟨b, off, none⟩) 4 c] 25)).drew.cell? ⟨w.heap.size, 2, none⟩ = some (.slice (some ⟨b, off, none⟩) 4 c) ∧ (w.alloc (.cells #[.int .i64 4, .string .empty, .slice (some ⟨b, off, none⟩) 4 c] 25)).drew.cell? ⟨b, off, none⟩ = some (.int .i64 k0) ∧ (w.alloc (.cells #[.int .i64 4, .string .empty, .slice (some ⟨b, off, none⟩) 4 c] 25)).drew.cell? ⟨b, off + 1, none⟩ = some (.string s0) ∧ (w.alloc (.cells #[.int .i64 4, .string .empty, .slice (some ⟨b, off, none⟩) 4 c] 25)).drew.cell? ⟨b, off + 2, none⟩ = some (.slice a0 n0 c0) ∧ (w.alloc (.cells #[.int .i64 4, .string .empty, .slice (some ⟨b, off, none⟩) 4 c] 25)).drew.cell? ⟨b, off + 3, none⟩ = some (.int .i64 k1) ∧ (w.alloc (.cells #[.int .i64 4, .string .empty, .slice (some ⟨b, off, none⟩) 4 c] 25)).drew.cell? ⟨b, off + 4, none⟩ = some (.string s1) ∧ (w.alloc (.cells #[.int .i64 4, .string .empty, .slice (some ⟨b, off, none⟩) 4 c] 25)).drew.cell? ⟨b, off + 5, none⟩ = some (.slice a1 n1 c1) ∧ (w.alloc (.cells #[.int .i64 4, .string .empty, .slice (some ⟨b, off, none⟩) 4 c] 25)).drew.cell? ⟨b, off + 6, none⟩ = some (.int .i64 k2) ∧ (w.alloc (.cells #[.int .i64 4, .string .empty, .slice (some ⟨b, off, none⟩) 4 c] 25)).drew.cell? ⟨b, off + 7, none⟩ = some (.string s2) ∧ (w.alloc (.cells #[.int .i64 4, .string .empty, .slice (some ⟨b, off, none⟩) 4 c] 25)).drew.cell? ⟨b, off + 8, none⟩ = some (.slice a2 n2 c2) ∧ (w.alloc (.cells #[.int .i64 4, .string .empty, .slice (some ⟨b, off, none⟩) 4 c] 25)).drew.cell? ⟨b, off + 9, none⟩ = some (.int .i64 k3) ∧ (w.alloc (.cells #[.int .i64 4, .string .empty, .slice (some ⟨b, off, none⟩) 4 c] 25)).drew.cell? ⟨b, off + 10, none⟩ = some (.string s3) ∧ (w.alloc (.cells #[.int .i64 4, .string .empty, .slice (some ⟨b, off, none⟩) 4 c] 25)).drew.cell? ⟨b, off + 11, none⟩ = some (.slice a3 n3 c3) from Hcs.out)
    go_region_held3 (fun w' => w'.cell? ⟨w.heap.size, 2, none⟩ = some (.slice (some ⟨b, off, none⟩) 4 c) ∧ w'.cell? ⟨b, off, none⟩ = some (.int .i64 k0) ∧ w'.cell? ⟨b, off + 1, none⟩ = some (.string s0) ∧ w'.cell? ⟨b, off + 2, none⟩ = some (.slice a0 n0 c0) ∧ w'.cell? ⟨b, off + 3, none⟩ = some (.int .i64 k1) ∧ w'.cell? ⟨b, off + 4, none⟩ = some (.string s1) ∧ w'.cell? ⟨b, off + 5, none⟩ = some (.slice a1 n1 c1) ∧ w'.cell? ⟨b, off + 6, none⟩ = some (.int .i64 k2) ∧ w'.cell? ⟨b, off + 7, none⟩ = some (.string s2) ∧ w'.cell? ⟨b, off + 8, none⟩ = some (.slice a2 n2 c2) ∧ w'.cell? ⟨b, off + 9, none⟩ = some (.int .i64 k3) ∧ w'.cell? ⟨b, off + 10, none⟩ = some (.string s3) ∧ w'.cell? ⟨b, off + 11, none⟩ = some (.slice a3 n3 c3)) (first | exact HS4.out | exact HS3.out | exact HS2.out | exact HS1.out | exact HS0.out) ((first | (go_at_call_of 17 (Value.agg #[.int .i64 k0, .string s0, .slice a0 n0 c0]); refine (HL0.out _ hka0).mono ?_; rintro e v1 ⟨rfl, hC1⟩; have hka1 := hka1.next hC1; have hka2 := hka2.next hC1; have hka3 := hka3.next hC1; have Bd := Bd.trans (hC1.mono Bd.size); have HS1 := Lib.hid (show v1.cell? ⟨w.heap.size, 2, none⟩ = some (.slice (some ⟨b, off, none⟩) 4 c) ∧ v1.cell? ⟨b, off, none⟩ = some (.int .i64 k0) ∧ v1.cell? ⟨b, off + 1, none⟩ = some (.string s0) ∧ v1.cell? ⟨b, off + 2, none⟩ = some (.slice a0 n0 c0) ∧ v1.cell? ⟨b, off + 3, none⟩ = some (.int .i64 k1) ∧ v1.cell? ⟨b, off + 4, none⟩ = some (.string s1) ∧ v1.cell? ⟨b, off + 5, none⟩ = some (.slice a1 n1 c1) ∧ v1.cell? ⟨b, off + 6, none⟩ = some (.int .i64 k2) ∧ v1.cell? ⟨b, off + 7, none⟩ = some (.string s2) ∧ v1.cell? ⟨b, off + 8, none⟩ = some (.slice a2 n2 c2) ∧ v1.cell? ⟨b, off + 9, none⟩ = some (.int .i64 k3) ∧ v1.cell? ⟨b, off + 10, none⟩ = some (.string s3) ∧ v1.cell? ⟨b, off + 11, none⟩ = some (.slice a3 n3 c3) from ⟨(hC1.cell (p := ⟨w.heap.size, 2, none⟩) hgl).trans HS0.out.1, (hC1.cell (p := ⟨b, off, none⟩) hb).trans HS0.out.2.1, (hC1.cell (p := ⟨b, off + 1, none⟩) hb).trans HS0.out.2.2.1, (hC1.cell (p := ⟨b, off + 2, none⟩) hb).trans HS0.out.2.2.2.1, (hC1.cell (p := ⟨b, off + 3, none⟩) hb).trans HS0.out.2.2.2.2.1, (hC1.cell (p := ⟨b, off + 4, none⟩) hb).trans HS0.out.2.2.2.2.2.1, (hC1.cell (p := ⟨b, off + 5, none⟩) hb).trans HS0.out.2.2.2.2.2.2.1, (hC1.cell (p := ⟨b, off + 6, none⟩) hb).trans HS0.out.2.2.2.2.2.2.2.1, (hC1.cell (p := ⟨b, off + 7, none⟩) hb).trans HS0.out.2.2.2.2.2.2.2.2.1, (hC1.cell (p := ⟨b, off + 8, none⟩) hb).trans HS0.out.2.2.2.2.2.2.2.2.2.1, (hC1.cell (p := ⟨b, off + 9, none⟩) hb).trans HS0.out.2.2.2.2.2.2.2.2.2.2.1, (hC1.cell (p := ⟨b, off + 10, none⟩) hb).trans HS0.out.2.2.2.2.2.2.2.2.2.2.2.1, (hC1.cell (p := ⟨b, off + 11, none⟩) hb).trans HS0.out.2.2.2.2.2.2.2.2.2.2.2.2⟩); have hgl := Nat.lt_of_lt_of_le hgl hC1.size; have hb := Nat.lt_of_lt_of_le hb hC1.size) | (go_at_call_of 17 (Value.agg #[.int .i64 k1, .string s1, .slice a1 n1 c1]); refine (HL1.out _ hka1).mono ?_; rintro e v2 ⟨rfl, hC2⟩; have hka2 := hka2.next hC2; have hka3 := hka3.next hC2; have Bd := Bd.trans (hC2.mono Bd.size); have HS2 := Lib.hid (show v2.cell? ⟨w.heap.size, 2, none⟩ = some (.slice (some ⟨b, off, none⟩) 4 c) ∧ v2.cell? ⟨b, off, none⟩ = some (.int .i64 k0) ∧ v2.cell? ⟨b, off + 1, none⟩ = some (.string s0) ∧ v2.cell? ⟨b, off + 2, none⟩ = some (.slice a0 n0 c0) ∧ v2.cell? ⟨b, off + 3, none⟩ = some (.int .i64 k1) ∧ v2.cell? ⟨b, off + 4, none⟩ = some (.string s1) ∧ v2.cell? ⟨b, off + 5, none⟩ = some (.slice a1 n1 c1) ∧ v2.cell? ⟨b, off + 6, none⟩ = some (.int .i64 k2) ∧ v2.cell? ⟨b, off + 7, none⟩ = some (.string s2) ∧ v2.cell? ⟨b, off + 8, none⟩ = some (.slice a2 n2 c2) ∧ v2.cell? ⟨b, off + 9, none⟩ = some (.int .i64 k3) ∧ v2.cell? ⟨b, off + 10, none⟩ = some (.string s3) ∧ v2.cell? ⟨b, off + 11, none⟩ = some (.slice a3 n3 c3) from ⟨(hC2.cell (p := ⟨w.heap.size, 2, none⟩) hgl).trans HS1.out.1, (hC2.cell (p := ⟨b, off, none⟩) hb).trans HS1.out.2.1, (hC2.cell (p := ⟨b, off + 1, none⟩) hb).trans HS1.out.2.2.1, (hC2.cell (p := ⟨b, off + 2, none⟩) hb).trans HS1.out.2.2.2.1, (hC2.cell (p := ⟨b, off + 3, none⟩) hb).trans HS1.out.2.2.2.2.1, (hC2.cell (p := ⟨b, off + 4, none⟩) hb).trans HS1.out.2.2.2.2.2.1, (hC2.cell (p := ⟨b, off + 5, none⟩) hb).trans HS1.out.2.2.2.2.2.2.1, (hC2.cell (p := ⟨b, off + 6, none⟩) hb).trans HS1.out.2.2.2.2.2.2.2.1, (hC2.cell (p := ⟨b, off + 7, none⟩) hb).trans HS1.out.2.2.2.2.2.2.2.2.1, (hC2.cell (p := ⟨b, off + 8, none⟩) hb).trans HS1.out.2.2.2.2.2.2.2.2.2.1, (hC2.cell (p := ⟨b, off + 9, none⟩) hb).trans HS1.out.2.2.2.2.2.2.2.2.2.2.1, (hC2.cell (p := ⟨b, off + 10, none⟩) hb).trans HS1.out.2.2.2.2.2.2.2.2.2.2.2.1, (hC2.cell (p := ⟨b, off + 11, none⟩) hb).trans HS1.out.2.2.2.2.2.2.2.2.2.2.2.2⟩); have hgl := Nat.lt_of_lt_of_le hgl hC2.size; have hb := Nat.lt_of_lt_of_le hb hC2.size) | (go_at_call_of 17 (Value.agg #[.int .i64 k2, .string s2, .slice a2 n2 c2]); refine (HL2.out _ hka2).mono ?_; rintro e v3 ⟨rfl, hC3⟩; have hka3 := hka3.next hC3; have Bd := Bd.trans (hC3.mono Bd.size); have HS3 := Lib.hid (show v3.cell? ⟨w.heap.size, 2, none⟩ = some (.slice (some ⟨b, off, none⟩) 4 c) ∧ v3.cell? ⟨b, off, none⟩ = some (.int .i64 k0) ∧ v3.cell? ⟨b, off + 1, none⟩ = some (.string s0) ∧ v3.cell? ⟨b, off + 2, none⟩ = some (.slice a0 n0 c0) ∧ v3.cell? ⟨b, off + 3, none⟩ = some (.int .i64 k1) ∧ v3.cell? ⟨b, off + 4, none⟩ = some (.string s1) ∧ v3.cell? ⟨b, off + 5, none⟩ = some (.slice a1 n1 c1) ∧ v3.cell? ⟨b, off + 6, none⟩ = some (.int .i64 k2) ∧ v3.cell? ⟨b, off + 7, none⟩ = some (.string s2) ∧ v3.cell? ⟨b, off + 8, none⟩ = some (.slice a2 n2 c2) ∧ v3.cell? ⟨b, off + 9, none⟩ = some (.int .i64 k3) ∧ v3.cell? ⟨b, off + 10, none⟩ = some (.string s3) ∧ v3.cell? ⟨b, off + 11, none⟩ = some (.slice a3 n3 c3) from ⟨(hC3.cell (p := ⟨w.heap.size, 2, none⟩) hgl).trans HS2.out.1, (hC3.cell (p := ⟨b, off, none⟩) hb).trans HS2.out.2.1, (hC3.cell (p := ⟨b, off + 1, none⟩) hb).trans HS2.out.2.2.1, (hC3.cell (p := ⟨b, off + 2, none⟩) hb).trans HS2.out.2.2.2.1, (hC3.cell (p := ⟨b, off + 3, none⟩) hb).trans HS2.out.2.2.2.2.1, (hC3.cell (p := ⟨b, off + 4, none⟩) hb).trans HS2.out.2.2.2.2.2.1, (hC3.cell (p := ⟨b, off + 5, none⟩) hb).trans HS2.out.2.2.2.2.2.2.1, (hC3.cell (p := ⟨b, off + 6, none⟩) hb).trans HS2.out.2.2.2.2.2.2.2.1, (hC3.cell (p := ⟨b, off + 7, none⟩) hb).trans HS2.out.2.2.2.2.2.2.2.2.1, (hC3.cell (p := ⟨b, off + 8, none⟩) hb).trans HS2.out.2.2.2.2.2.2.2.2.2.1, (hC3.cell (p := ⟨b, off + 9, none⟩) hb).trans HS2.out.2.2.2.2.2.2.2.2.2.2.1, (hC3.cell (p := ⟨b, off + 10, none⟩) hb).trans HS2.out.2.2.2.2.2.2.2.2.2.2.2.1, (hC3.cell (p := ⟨b, off + 11, none⟩) hb).trans HS2.out.2.2.2.2.2.2.2.2.2.2.2.2⟩); have hgl := Nat.lt_of_lt_of_le hgl hC3.size; have hb := Nat.lt_of_lt_of_le hb hC3.size) | (go_at_call_of 17 (Value.agg #[.int .i64 k3, .string s3, .slice a3 n3 c3]); refine (HL3.out _ hka3).mono ?_; rintro e v4 ⟨rfl, hC4⟩; have Bd := Bd.trans (hC4.mono Bd.size); have HS4 := Lib.hid (show v4.cell? ⟨w.heap.size, 2, none⟩ = some (.slice (some ⟨b, off, none⟩) 4 c) ∧ v4.cell? ⟨b, off, none⟩ = some (.int .i64 k0) ∧ v4.cell? ⟨b, off + 1, none⟩ = some (.string s0) ∧ v4.cell? ⟨b, off + 2, none⟩ = some (.slice a0 n0 c0) ∧ v4.cell? ⟨b, off + 3, none⟩ = some (.int .i64 k1) ∧ v4.cell? ⟨b, off + 4, none⟩ = some (.string s1) ∧ v4.cell? ⟨b, off + 5, none⟩ = some (.slice a1 n1 c1) ∧ v4.cell? ⟨b, off + 6, none⟩ = some (.int .i64 k2) ∧ v4.cell? ⟨b, off + 7, none⟩ = some (.string s2) ∧ v4.cell? ⟨b, off + 8, none⟩ = some (.slice a2 n2 c2) ∧ v4.cell? ⟨b, off + 9, none⟩ = some (.int .i64 k3) ∧ v4.cell? ⟨b, off + 10, none⟩ = some (.string s3) ∧ v4.cell? ⟨b, off + 11, none⟩ = some (.slice a3 n3 c3) from ⟨(hC4.cell (p := ⟨w.heap.size, 2, none⟩) hgl).trans HS3.out.1, (hC4.cell (p := ⟨b, off, none⟩) hb).trans HS3.out.2.1, (hC4.cell (p := ⟨b, off + 1, none⟩) hb).trans HS3.out.2.2.1, (hC4.cell (p := ⟨b, off + 2, none⟩) hb).trans HS3.out.2.2.2.1, (hC4.cell (p := ⟨b, off + 3, none⟩) hb).trans HS3.out.2.2.2.2.1, (hC4.cell (p := ⟨b, off + 4, none⟩) hb).trans HS3.out.2.2.2.2.2.1, (hC4.cell (p := ⟨b, off + 5, none⟩) hb).trans HS3.out.2.2.2.2.2.2.1, (hC4.cell (p := ⟨b, off + 6, none⟩) hb).trans HS3.out.2.2.2.2.2.2.2.1, (hC4.cell (p := ⟨b, off + 7, none⟩) hb).trans HS3.out.2.2.2.2.2.2.2.2.1, (hC4.cell (p := ⟨b, off + 8, none⟩) hb).trans HS3.out.2.2.2.2.2.2.2.2.2.1, (hC4.cell (p := ⟨b, off + 9, none⟩) hb).trans HS3.out.2.2.2.2.2.2.2.2.2.2.1, (hC4.cell (p := ⟨b, off + 10, none⟩) hb).trans HS3.out.2.2.2.2.2.2.2.2.2.2.2.1, (hC4.cell (p := ⟨b, off + 11, none⟩) hb).trans HS3.out.2.2.2.2.2.2.2.2.2.2.2.2⟩); have hgl := Nat.lt_of_lt_of_le hgl hC4.size; have hb := Nat.lt_of_lt_of_le hb hC4.size)))
    all_goals (go_wp2_with fail; go_ret; exact ⟨ret_str (byt (by rw [show fm1 4 .empty ks = [91] ++ fmS ks [[61], [63], [58], [93]] from rfl, Htx.out, ← Hy0.out, ← Hy1.out, ← Hy2.out, ← Hy3.out]; simp)), Bd⟩)
  · obtain rfl : n = 1 := by omega
    obtain ⟨b, off, k0, s0, f0, a0, n0, c0, rfl, _, hb, g0, c00, c01, c02, cc0, ka0⟩ := hk1.get (j := 0) (by omega)
    rw [Nat.zero_mul, Nat.add_zero] at c00 c01 c02
    obtain ⟨hn0, hg0⟩ := good_get hg g0
    have hsz := Fo.get_size g0
    have Hih := Lib.hid (ih k0 s0 f0 (by omega) a0 n0 c0 _ (ka0.more (Nat.le_refl _) (Nat.le_refl _)) hn0 hg0 (by omega))
    have hfs := fm_size hn0 hg0 (by omega)
    have htx : fmS ks [] = fm1 k0 s0 f0 := by
      have := fm_get [] g0
      rw [Fo.drop_zero, Fo.drop_all (by omega)] at this
      rw [this]; simp [fmS]
    have Htx := Lib.hid htx
    clear hkl h1 hn hg g0 hn0 hg0 htx hk hk1 ka0
    rcases hkk with rfl | rfl | rfl | rfl
    · go_enter Try.func17, Try.ntmps17
      go_wp2_with fail
      refine Hih.out.mono ?_
      rintro e w1 ⟨rfl, hB1⟩
      have hBB := hB0.trans (hB1.mono hB0.size)
      have Hz := Lib.hid (show (⟨(fm1 k0 s0 f0).toArray⟩ : ByteArray).data.toList = fm1 k0 s0 f0 by simp)
      generalize (⟨(fm1 k0 s0 f0).toArray⟩ : ByteArray) = z at *
      go_wp2_with fail
      go_ret
      exact ⟨ret_str (byt (by rw [show fm1 2 .empty ks = [chrB 2] ++ fmS ks [] from rfl, Htx.out, ← Hz.out]; simp [chrB])), hBB⟩
    · go_enter Try.func17, Try.ntmps17
      go_wp2_with fail
      refine Hih.out.mono ?_
      rintro e w1 ⟨rfl, hB1⟩
      have hBB := hB0.trans (hB1.mono hB0.size)
      have Hz := Lib.hid (show (⟨(fm1 k0 s0 f0).toArray⟩ : ByteArray).data.toList = fm1 k0 s0 f0 by simp)
      generalize (⟨(fm1 k0 s0 f0).toArray⟩ : ByteArray) = z at *
      go_wp2_with fail
      go_ret
      exact ⟨ret_str (byt (by rw [show fm1 5 .empty ks = [chrB 5] ++ fmS ks [] from rfl, Htx.out, ← Hz.out]; simp [chrB])), hBB⟩
    · go_enter Try.func17, Try.ntmps17
      go_wp2_with fail
      refine Hih.out.mono ?_
      rintro e w1 ⟨rfl, hB1⟩
      have hBB := hB0.trans (hB1.mono hB0.size)
      have Hz := Lib.hid (show (⟨(fm1 k0 s0 f0).toArray⟩ : ByteArray).data.toList = fm1 k0 s0 f0 by simp)
      generalize (⟨(fm1 k0 s0 f0).toArray⟩ : ByteArray) = z at *
      go_wp2_with fail
      go_ret
      exact ⟨ret_str (byt (by rw [show fm1 6 .empty ks = [chrB 6] ++ fmS ks [] from rfl, Htx.out, ← Hz.out]; simp [chrB])), hBB⟩
    · go_enter Try.func17, Try.ntmps17
      go_wp2_with fail
      refine Hih.out.mono ?_
      rintro e w1 ⟨rfl, hB1⟩
      have hBB := hB0.trans (hB1.mono hB0.size)
      have Hz := Lib.hid (show (⟨(fm1 k0 s0 f0).toArray⟩ : ByteArray).data.toList = fm1 k0 s0 f0 by simp)
      generalize (⟨(fm1 k0 s0 f0).toArray⟩ : ByteArray) = z at *
      go_wp2_with fail
      go_ret
      exact ⟨ret_str (byt (by rw [show fm1 7 .empty ks = [chrB 7] ++ fmS ks [] from rfl, Htx.out, ← Hz.out]; simp [chrB])), hBB⟩
end Go.Proofs.Ytecekkmagldpoaa
