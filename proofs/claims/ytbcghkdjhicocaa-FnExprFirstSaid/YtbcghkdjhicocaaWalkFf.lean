/-
  The law FnExprFirst, walked.
-/
import Derived.Test.YtbcghkdjhicocaaWalkFr
import Derived.Test.YtbcghkdjhicocaaLit
import Derived.Deep.RegionHeld3
import Derived.StillTailTactics
namespace Go.Proofs.Ytbcghkdjhicocaa
set_option linter.unusedVariables false
set_option linter.unusedSimpArgs false
open Go.RowKit

set_option maxRecDepth 100000 in
set_option maxHeartbeats 4000000 in
theorem walkFnExprFirst (a : Option Addr) (len cap : Nat) (zs : List Int) (w : World) (h : IsRow .u8 w a len cap zs) :
    Calls Try.prog 4 #[.slice a len cap] w fun e w' => e = .returned (.bool true) ∧ Below w.heap.size w w' := by
  obtain ⟨hb, hn, hc⟩ := row_bytes h
  have hc' := Lib.hid hc
  unfold maxLen at hc
  by_cases hlong : 1048576 < len
  · go_enter Try.func4, Try.ntmps4
    go_wp2_with fail
    go_ret
    exact ⟨rfl, Below.refl _ _⟩
  go_enter Try.func4, Try.ntmps4
  go_wp2_with fail
  refine (drawExprFree_any a len cap w hb hn hc'.out).mono ?_
  rintro e w1 ⟨k1, s1, ks1, a1, c1, rfl, hk1, hc1, hs1, hf1, hz1, hB1⟩
  have hsl1 := Fo.size_len ks1
  have hbx1 := BxE.new w1 k1 s1 (.slice a1 ks1.len c1) 25
  have hv1 := (hk1.alloc (Nat.le_refl _) (.cells #[.int .i64 k1, .string s1, .slice a1 ks1.len c1] 25)).more (Nat.zero_le _) (show _ ≤ (w1.alloc (.cells #[.int .i64 k1, .string s1, .slice a1 ks1.len c1] 25)).heap.size by simp)
  have hB1' := hB1.alloc hB1.size (.cells #[.int .i64 k1, .string s1, .slice a1 ks1.len c1] 25)
  have hsm : s1.size ≤ maxLen := by unfold maxLen; omega
  have hnm : ks1.len ≤ maxLen := by unfold maxLen; omega
  have hzm : ks1.size ≤ 1048576 := by omega
  go_wp2_with fail
  refine (freeI_expr k1 s1 ks1 a1 ks1.len c1 _ hv1 hsm hf1 hnm).mono ?_
  rintro e w2 ⟨rfl, hB2⟩
  have B2 := hB1'.trans (hB2.mono hB1'.size)
  have hv2 := hv1.next hB2
  have hbx2 := hbx1.next hB2
  obtain ⟨d0, d1, d2, f0, f1, f2, hl⟩ := hbx2.facts
  cases hfe : freeE k1 s1 ks1 with
  | none =>
    rw [show resV none = .tuple #[.string .empty, .bool false] from rfl]
    go_wp2_with fail
    refine (freeS_expr k1 s1 ks1 a1 ks1.len c1 _ hv2 hsm hf1 hnm hzm).mono ?_
    rintro e w3 ⟨rfl, hB3⟩
    have B3 := B2.trans (hB3.mono B2.size)
    have hbx3 := hbx2.next hB3
    obtain ⟨e0, e1, e2, g0, g1, g2, hel⟩ := hbx3.facts
    rw [hfe, show resV none = .tuple #[.string .empty, .bool false] from rfl]
    go_wp2_with fail
    go_ret
    have hs3 := B3.size
    exact ⟨rfl, ((((B3.alloc B3.size _).alloc (by simp; omega) _).alloc (by simp; omega) _).alloc (by simp; omega) _)⟩
  | some x =>
    rw [show resV (some x) = .tuple #[.string x, .bool true] from rfl]
    go_wp2_with fail
    refine (freeS_expr k1 s1 ks1 a1 ks1.len c1 _ hv2 hsm hf1 hnm hzm).mono ?_
    rintro e w3 ⟨rfl, hB3⟩
    have B3 := B2.trans (hB3.mono B2.size)
    have hv3 := hv2.next hB3
    have hbx3 := hbx2.next hB3
    obtain ⟨e0, e1, e2, g0, g1, g2, hel⟩ := hbx3.facts
    obtain ⟨hva, hrd, hdy⟩ := free_plain hfe
    have hxs : x.size ≤ 60 := freeE_size hfe
    have hxl : (x.size : Int) ≤ 60 := by omega
    have hxx : (x.toList == x.toList) = true := by simp
    have hf1x : fr1 k1 s1 ks1 = some x := by unfold freeE at hfe; rw [if_pos hva] at hfe; exact hfe
    rw [hfe, show resV (some x) = .tuple #[.string x, .bool true] from rfl]
    have hs3 := B3.size
    have hK1 : KA (w3.alloc (.cells #[.int .i64 k1, .string s1, .slice a1 ks1.len c1] 25)) 0 (w3.alloc (.cells #[.int .i64 k1, .string s1, .slice a1 ks1.len c1] 25)).heap.size (.node k1 s1 ks1 .nil) (some ⟨w3.heap.size, 0, none⟩) 1 :=
      KA.ofRow (heap_alloc_new w3 (.cells #[.int .i64 k1, .string s1, .slice a1 ks1.len c1] 25)) (Nat.zero_le _) (by simp) (rowT_one hc1 (hv3.alloc (Nat.le_refl _) (.cells #[.int .i64 k1, .string s1, .slice a1 ks1.len c1] 25)) (Nat.zero_le _) (by simp) rfl) rfl
    have hs31 : (w3.alloc (.cells #[.int .i64 k1, .string s1, .slice a1 ks1.len c1] 25)).heap.size = w3.heap.size + 1 := by simp
    have hs32 : ((w3.alloc (.cells #[.int .i64 k1, .string s1, .slice a1 ks1.len c1] 25)).alloc (.cells #[.int .i64 k1, .string s1, .slice a1 ks1.len c1] 25)).heap.size = w3.heap.size + 1 + 1 := by simp
    have hs33 : (((w3.alloc (.cells #[.int .i64 k1, .string s1, .slice a1 ks1.len c1] 25)).alloc (.cells #[.int .i64 k1, .string s1, .slice a1 ks1.len c1] 25)).alloc (.cells #[.int .i64 5, .string ⟨#[]⟩, .slice (some ⟨w3.heap.size, 0, none⟩) 1 1, .int .i64 6, .string ⟨#[]⟩, .slice (some ⟨w3.heap.size + 1, 0, none⟩) 1 1] 25)).heap.size = w3.heap.size + 1 + 1 + 1 := by simp
    have hK2 : KA ((w3.alloc (.cells #[.int .i64 k1, .string s1, .slice a1 ks1.len c1] 25)).alloc (.cells #[.int .i64 k1, .string s1, .slice a1 ks1.len c1] 25)) 0 ((w3.alloc (.cells #[.int .i64 k1, .string s1, .slice a1 ks1.len c1] 25)).alloc (.cells #[.int .i64 k1, .string s1, .slice a1 ks1.len c1] 25)).heap.size (.node k1 s1 ks1 .nil) (some ⟨w3.heap.size + 1, 0, none⟩) 1 := by
      rw [← hs31]
      exact KA.ofRow (heap_alloc_new (w3.alloc (.cells #[.int .i64 k1, .string s1, .slice a1 ks1.len c1] 25)) (.cells #[.int .i64 k1, .string s1, .slice a1 ks1.len c1] 25)) (Nat.zero_le _) (by simp) (rowT_one hc1 ((hv3.alloc (Nat.le_refl _) (.cells #[.int .i64 k1, .string s1, .slice a1 ks1.len c1] 25)).alloc (by simp) (.cells #[.int .i64 k1, .string s1, .slice a1 ks1.len c1] 25)) (Nat.zero_le _) (by simp; omega) rfl) rfl
    have hK1' := hK1.alloc (Nat.le_refl _) (.cells #[.int .i64 k1, .string s1, .slice a1 ks1.len c1] 25)
    have hK3 : KA (((w3.alloc (.cells #[.int .i64 k1, .string s1, .slice a1 ks1.len c1] 25)).alloc (.cells #[.int .i64 k1, .string s1, .slice a1 ks1.len c1] 25)).alloc (.cells #[.int .i64 5, .string ⟨#[]⟩, .slice (some ⟨w3.heap.size, 0, none⟩) 1 1, .int .i64 6, .string ⟨#[]⟩, .slice (some ⟨w3.heap.size + 1, 0, none⟩) 1 1] 25)) 0 (((w3.alloc (.cells #[.int .i64 k1, .string s1, .slice a1 ks1.len c1] 25)).alloc (.cells #[.int .i64 k1, .string s1, .slice a1 ks1.len c1] 25)).alloc (.cells #[.int .i64 5, .string ⟨#[]⟩, .slice (some ⟨w3.heap.size, 0, none⟩) 1 1, .int .i64 6, .string ⟨#[]⟩, .slice (some ⟨w3.heap.size + 1, 0, none⟩) 1 1] 25)).heap.size (.node 5 ⟨#[]⟩ (.node k1 s1 ks1 .nil) (.node 6 ⟨#[]⟩ (.node k1 s1 ks1 .nil) .nil)) (some ⟨w3.heap.size + 1 + 1, 0, none⟩) 2 := by
      rw [← hs32]
      exact KA.ofRow (heap_alloc_new ((w3.alloc (.cells #[.int .i64 k1, .string s1, .slice a1 ks1.len c1] 25)).alloc (.cells #[.int .i64 k1, .string s1, .slice a1 ks1.len c1] 25)) (.cells #[.int .i64 5, .string ⟨#[]⟩, .slice (some ⟨w3.heap.size, 0, none⟩) 1 1, .int .i64 6, .string ⟨#[]⟩, .slice (some ⟨w3.heap.size + 1, 0, none⟩) 1 1] 25)) (Nat.zero_le _) (by simp) (rowT_one (Nat.le_refl 1) (hK1'.alloc (by simp) (.cells #[.int .i64 5, .string ⟨#[]⟩, .slice (some ⟨w3.heap.size, 0, none⟩) 1 1, .int .i64 6, .string ⟨#[]⟩, .slice (some ⟨w3.heap.size + 1, 0, none⟩) 1 1] 25)) (Nat.zero_le _) (by simp) (rowT_one (Nat.le_refl 1) (hK2.alloc (Nat.le_refl _) (.cells #[.int .i64 5, .string ⟨#[]⟩, .slice (some ⟨w3.heap.size, 0, none⟩) 1 1, .int .i64 6, .string ⟨#[]⟩, .slice (some ⟨w3.heap.size + 1, 0, none⟩) 1 1] 25)) (Nat.zero_le _) (by simp) rfl)) rfl
    have hKX : KA ((((w3.alloc (.cells #[.int .i64 k1, .string s1, .slice a1 ks1.len c1] 25)).alloc (.cells #[.int .i64 k1, .string s1, .slice a1 ks1.len c1] 25)).alloc (.cells #[.int .i64 5, .string ⟨#[]⟩, .slice (some ⟨w3.heap.size, 0, none⟩) 1 1, .int .i64 6, .string ⟨#[]⟩, .slice (some ⟨w3.heap.size + 1, 0, none⟩) 1 1] 25)).alloc (.cells #[.int .i64 3, .string ⟨#[]⟩, .slice (some ⟨w3.heap.size + 1 + 1, 0, none⟩) 2 2] 25)) 0 ((((w3.alloc (.cells #[.int .i64 k1, .string s1, .slice a1 ks1.len c1] 25)).alloc (.cells #[.int .i64 k1, .string s1, .slice a1 ks1.len c1] 25)).alloc (.cells #[.int .i64 5, .string ⟨#[]⟩, .slice (some ⟨w3.heap.size, 0, none⟩) 1 1, .int .i64 6, .string ⟨#[]⟩, .slice (some ⟨w3.heap.size + 1, 0, none⟩) 1 1] 25)).alloc (.cells #[.int .i64 3, .string ⟨#[]⟩, .slice (some ⟨w3.heap.size + 1 + 1, 0, none⟩) 2 2] 25)).heap.size (.node 5 ⟨#[]⟩ (.node k1 s1 ks1 .nil) (.node 6 ⟨#[]⟩ (.node k1 s1 ks1 .nil) .nil)) (some ⟨w3.heap.size + 1 + 1, 0, none⟩) 2 := (hK3.alloc (Nat.le_refl _) (.cells #[.int .i64 3, .string ⟨#[]⟩, .slice (some ⟨w3.heap.size + 1 + 1, 0, none⟩) 2 2] 25)).more (Nat.le_refl _) (by simp)
    have hXb := BxE.new (((w3.alloc (.cells #[.int .i64 k1, .string s1, .slice a1 ks1.len c1] 25)).alloc (.cells #[.int .i64 k1, .string s1, .slice a1 ks1.len c1] 25)).alloc (.cells #[.int .i64 5, .string ⟨#[]⟩, .slice (some ⟨w3.heap.size, 0, none⟩) 1 1, .int .i64 6, .string ⟨#[]⟩, .slice (some ⟨w3.heap.size + 1, 0, none⟩) 1 1] 25)) 3 ⟨#[]⟩ (.slice (some ⟨w3.heap.size + 1 + 1, 0, none⟩) 2 2) 25
    rw [hs33] at hXb
    have B33 := (((B3.alloc B3.size (.cells #[.int .i64 k1, .string s1, .slice a1 ks1.len c1] 25)).alloc (by simp; omega) (.cells #[.int .i64 k1, .string s1, .slice a1 ks1.len c1] 25)).alloc (by simp; omega) (.cells #[.int .i64 5, .string ⟨#[]⟩, .slice (some ⟨w3.heap.size, 0, none⟩) 1 1, .int .i64 6, .string ⟨#[]⟩, .slice (some ⟨w3.heap.size + 1, 0, none⟩) 1 1] 25)).alloc (by simp; omega) (.cells #[.int .i64 3, .string ⟨#[]⟩, .slice (some ⟨w3.heap.size + 1 + 1, 0, none⟩) 2 2] 25)
    clear hK1 hK2 hK1' hK3
    go_wp2_with fail
    refine (validI_expr 3 ⟨#[]⟩ (.node 5 ⟨#[]⟩ (.node k1 s1 ks1 .nil) (.node 6 ⟨#[]⟩ (.node k1 s1 ks1 .nil) .nil)) (some ⟨w3.heap.size + 1 + 1, 0, none⟩) 2 2 _ hKX (by decide) ⟨by decide, by simp [Fo.len, maxLen], ⟨hsm, hnm, hf1, trivial⟩, by decide, by simp [Fo.len, maxLen], ⟨hsm, hnm, hf1, trivial⟩, trivial⟩ (by decide)).mono ?_
    rintro e w4 ⟨rfl, hB4⟩
    have B4 := B33.trans (hB4.mono B33.size)
    rcases Bool.eq_false_or_eq_true (validE 3 ⟨#[]⟩ (.node 5 ⟨#[]⟩ (.node k1 s1 ks1 .nil) (.node 6 ⟨#[]⟩ (.node k1 s1 ks1 .nil) .nil))) with hvx | hvx
    · have hKX4 := hKX.next hB4
      obtain ⟨m0, m1, m2, n0, n1, n2, hml⟩ := (hXb.next hB4).facts
      rw [hvx]
      go_wp2_with fail
      refine (freeI_expr 3 ⟨#[]⟩ (.node 5 ⟨#[]⟩ (.node k1 s1 ks1 .nil) (.node 6 ⟨#[]⟩ (.node k1 s1 ks1 .nil) .nil)) (some ⟨w3.heap.size + 1 + 1, 0, none⟩) 2 2 _ hKX4 (by decide) ⟨by decide, by simp [Fo.len, maxLen], ⟨hsm, hnm, hf1, trivial⟩, by decide, by simp [Fo.len, maxLen], ⟨hsm, hnm, hf1, trivial⟩, trivial⟩ (by decide)).mono ?_
      rintro e w5 ⟨rfl, hB5⟩
      have B5 := B4.trans (hB5.mono B4.size)
      have hres : freeE 3 ⟨#[]⟩ (.node 5 ⟨#[]⟩ (.node k1 s1 ks1 .nil) (.node 6 ⟨#[]⟩ (.node k1 s1 ks1 .nil) .nil)) = some x := by unfold freeE; rw [if_pos hvx]; exact fr_both hf1x hxs
      rw [hres, show resV (some x) = .tuple #[.string x, .bool true] from rfl]
      go_wp2_with fail
      go_ret
      exact ⟨rfl, B5⟩
    · rw [hvx]
      go_wp2_with fail
      go_ret
      exact ⟨rfl, B4⟩
end Go.Proofs.Ytbcghkdjhicocaa
