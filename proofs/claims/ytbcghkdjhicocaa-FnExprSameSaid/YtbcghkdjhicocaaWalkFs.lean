/-
  The law FnExprSame, walked.
-/
import Derived.Test.YtbcghkdjhicocaaWalkFr
import Derived.Test.YtbcghkdjhicocaaLit
import Derived.Test.YtbcghkdjhicocaaBase
import Derived.Deep.RegionHeld3
import Derived.StillTailTactics
namespace Go.Proofs.Ytbcghkdjhicocaa
set_option linter.unusedVariables false
set_option linter.unusedSimpArgs false
open Go.RowKit

set_option maxRecDepth 100000 in
set_option maxHeartbeats 4000000 in
theorem walkFnExprSame (a : Option Addr) (len cap : Nat) (zs : List Int) (b : Option Addr) (len' cap' : Nat) (zs' : List Int) (w : World) (h : IsRow .u8 w a len cap zs) (h' : IsRow .u8 w b len' cap' zs') :
    Calls Try.prog 5 #[.slice a len cap, .slice b len' cap'] w fun e w' => e = .returned (.bool true) ∧ Below w.heap.size w w' := by
  obtain ⟨hb, hn, hc⟩ := row_bytes h
  obtain ⟨hb2, hn2, hc2⟩ := row_bytes h'
  have hc' := Lib.hid hc
  have hc2' := Lib.hid hc2
  unfold maxLen at hc hc2
  by_cases hlong : 1048576 < len
  · go_enter Try.func5, Try.ntmps5
    go_wp2_with fail
    go_ret
    exact ⟨rfl, Below.refl _ _⟩
  by_cases hlong2 : 1048576 < len'
  · go_enter Try.func5, Try.ntmps5
    go_wp2_with fail
    go_ret
    exact ⟨rfl, Below.refl _ _⟩
  go_enter Try.func5, Try.ntmps5
  go_wp2_with fail
  refine (drawExprFree_any a len cap w hb hn hc'.out).mono ?_
  rintro e w1 ⟨k1, s1, ks1, a1, c1, rfl, hk1, hc1, hs1, hf1, hz1, hB1⟩
  have hsl1 := Fo.size_len ks1
  have hbx1 := BxE.new w1 k1 s1 (.slice a1 ks1.len c1) 25
  have hv1 := (hk1.alloc (Nat.le_refl _) (.cells #[.int .i64 k1, .string s1, .slice a1 ks1.len c1] 25)).more (Nat.zero_le _) (show _ ≤ (w1.alloc (.cells #[.int .i64 k1, .string s1, .slice a1 ks1.len c1] 25)).heap.size by simp)
  have hB1' := hB1.alloc hB1.size (.cells #[.int .i64 k1, .string s1, .slice a1 ks1.len c1] 25)
  have hsm : s1.size ≤ maxLen := by unfold maxLen; omega
  have hnm : ks1.len ≤ maxLen := by unfold maxLen; omega
  have hzm : ks1.size ≤ 1048576 := by omega
  go_wp2_with fail
  refine (drawExprFree_any b len' cap' _ ((hb2.under hB1')) hn2 hc2'.out).mono ?_
  rintro e w2 ⟨k2, s2, ks2, a2, c2, rfl, hk2, hc2, hs2, hf2, hz2, hB2⟩
  have hsl2 := Fo.size_len ks2
  have hbx2 := BxE.new w2 k2 s2 (.slice a2 ks2.len c2) 25
  have hv2 := (hk2.alloc (Nat.le_refl _) (.cells #[.int .i64 k2, .string s2, .slice a2 ks2.len c2] 25)).more (Nat.zero_le _) (show _ ≤ (w2.alloc (.cells #[.int .i64 k2, .string s2, .slice a2 ks2.len c2] 25)).heap.size by simp)
  have B2 := (hB1'.trans (hB2.mono hB1'.size)).alloc (hB1'.trans (hB2.mono hB1'.size)).size (.cells #[.int .i64 k2, .string s2, .slice a2 ks2.len c2] 25)
  have hsm2 : s2.size ≤ maxLen := by unfold maxLen; omega
  have hnm2 : ks2.len ≤ maxLen := by unfold maxLen; omega
  have hva0 := ((hv1.next hB2).alloc (Nat.le_refl _) (.cells #[.int .i64 k2, .string s2, .slice a2 ks2.len c2] 25)).more (Nat.le_refl _) (show _ ≤ (w2.alloc (.cells #[.int .i64 k2, .string s2, .slice a2 ks2.len c2] 25)).heap.size by simp)
  have hvb0 := hv2
  have hbxa0 := (hbx1.next hB2).alloc (.cells #[.int .i64 k2, .string s2, .slice a2 ks2.len c2] 25)
  have hbxb0 := hbx2
  obtain ⟨c0, c1', c2', cf0, cf1, cf2, hcl⟩ := hbxa0.facts
  cases hfe : freeE k1 s1 ks1 with
  | none =>
    cases hfe2 : freeE k2 s2 ks2 with
    | none =>
      go_wp2_with fail
      refine (freeI_expr k1 s1 ks1 a1 ks1.len c1 _ hva0 hsm hf1 hnm).mono ?_
      rintro e w3 ⟨rfl, hB3⟩
      have B3 := B2.trans (hB3.mono B2.size)
      have hva3 := hva0.next hB3
      have hvb3 := hvb0.next hB3
      have hbxa3 := hbxa0.next hB3
      have hbxb3 := hbxb0.next hB3
      obtain ⟨d0, d1, d2, f0, f1, f2, hl⟩ := hbxa3.facts
      obtain ⟨e0, e1, e2, g0, g1, g2, hel⟩ := hbxb3.facts
      rw [hfe, show resV none = .tuple #[.string .empty, .bool false] from rfl]
      go_wp2_with fail
      refine (freeI_expr k2 s2 ks2 a2 ks2.len c2 _ hvb3 hsm2 hf2 hnm2).mono ?_
      rintro e w4 ⟨rfl, hB4⟩
      have B4 := B3.trans (hB4.mono B3.size)
      have hva4 := hva3.next hB4
      have hvb4 := hvb3.next hB4
      have hbxa4 := hbxa3.next hB4
      have hbxb4 := hbxb3.next hB4
      clear d0 d1 d2 f0 f1 f2 hl e0 e1 e2 g0 g1 g2 hel
      obtain ⟨d0, d1, d2, f0, f1, f2, hl⟩ := hbxa4.facts
      obtain ⟨e0, e1, e2, g0, g1, g2, hel⟩ := hbxb4.facts
      rw [hfe2, show resV none = .tuple #[.string .empty, .bool false] from rfl]
      go_wp2_with fail
      refine (freeS_expr k1 s1 ks1 a1 ks1.len c1 _ hva4 hsm hf1 hnm hzm).mono ?_
      rintro e w5 ⟨rfl, hB5⟩
      have B5 := B4.trans (hB5.mono B4.size)
      have hva5 := hva4.next hB5
      have hvb5 := hvb4.next hB5
      have hbxa5 := hbxa4.next hB5
      have hbxb5 := hbxb4.next hB5
      clear d0 d1 d2 f0 f1 f2 hl e0 e1 e2 g0 g1 g2 hel
      obtain ⟨d0, d1, d2, f0, f1, f2, hl⟩ := hbxa5.facts
      obtain ⟨e0, e1, e2, g0, g1, g2, hel⟩ := hbxb5.facts
      have hs5 := B5.size
      rw [hfe, show resV none = .tuple #[.string .empty, .bool false] from rfl]
      go_wp2_with fail
      go_ret
      exact ⟨rfl, (B5.alloc B5.size _).alloc (by simp; omega) _⟩
    | some y =>
      go_wp2_with fail
      refine (freeI_expr k1 s1 ks1 a1 ks1.len c1 _ hva0 hsm hf1 hnm).mono ?_
      rintro e w3 ⟨rfl, hB3⟩
      have B3 := B2.trans (hB3.mono B2.size)
      have hva3 := hva0.next hB3
      have hvb3 := hvb0.next hB3
      have hbxa3 := hbxa0.next hB3
      have hbxb3 := hbxb0.next hB3
      obtain ⟨d0, d1, d2, f0, f1, f2, hl⟩ := hbxa3.facts
      obtain ⟨e0, e1, e2, g0, g1, g2, hel⟩ := hbxb3.facts
      rw [hfe, show resV none = .tuple #[.string .empty, .bool false] from rfl]
      go_wp2_with fail
      refine (freeI_expr k2 s2 ks2 a2 ks2.len c2 _ hvb3 hsm2 hf2 hnm2).mono ?_
      rintro e w4 ⟨rfl, hB4⟩
      have B4 := B3.trans (hB4.mono B3.size)
      have hva4 := hva3.next hB4
      have hvb4 := hvb3.next hB4
      have hbxa4 := hbxa3.next hB4
      have hbxb4 := hbxb3.next hB4
      clear d0 d1 d2 f0 f1 f2 hl e0 e1 e2 g0 g1 g2 hel
      obtain ⟨d0, d1, d2, f0, f1, f2, hl⟩ := hbxa4.facts
      obtain ⟨e0, e1, e2, g0, g1, g2, hel⟩ := hbxb4.facts
      rw [hfe2, show resV (some y) = .tuple #[.string y, .bool true] from rfl]
      go_wp2_with fail
      refine (freeS_expr k1 s1 ks1 a1 ks1.len c1 _ hva4 hsm hf1 hnm hzm).mono ?_
      rintro e w5 ⟨rfl, hB5⟩
      have B5 := B4.trans (hB5.mono B4.size)
      have hva5 := hva4.next hB5
      have hvb5 := hvb4.next hB5
      have hbxa5 := hbxa4.next hB5
      have hbxb5 := hbxb4.next hB5
      clear d0 d1 d2 f0 f1 f2 hl e0 e1 e2 g0 g1 g2 hel
      obtain ⟨d0, d1, d2, f0, f1, f2, hl⟩ := hbxa5.facts
      obtain ⟨e0, e1, e2, g0, g1, g2, hel⟩ := hbxb5.facts
      have hs5 := B5.size
      rw [hfe, show resV none = .tuple #[.string .empty, .bool false] from rfl]
      go_wp2_with fail
      go_ret
      exact ⟨rfl, (B5.alloc B5.size _).alloc (by simp; omega) _⟩
  | some x =>
    cases hfe2 : freeE k2 s2 ks2 with
    | none =>
      go_wp2_with fail
      refine (freeI_expr k1 s1 ks1 a1 ks1.len c1 _ hva0 hsm hf1 hnm).mono ?_
      rintro e w3 ⟨rfl, hB3⟩
      have B3 := B2.trans (hB3.mono B2.size)
      have hva3 := hva0.next hB3
      have hvb3 := hvb0.next hB3
      have hbxa3 := hbxa0.next hB3
      have hbxb3 := hbxb0.next hB3
      obtain ⟨d0, d1, d2, f0, f1, f2, hl⟩ := hbxa3.facts
      obtain ⟨e0, e1, e2, g0, g1, g2, hel⟩ := hbxb3.facts
      rw [hfe, show resV (some x) = .tuple #[.string x, .bool true] from rfl]
      go_wp2_with fail
      refine (freeI_expr k2 s2 ks2 a2 ks2.len c2 _ hvb3 hsm2 hf2 hnm2).mono ?_
      rintro e w4 ⟨rfl, hB4⟩
      have B4 := B3.trans (hB4.mono B3.size)
      have hva4 := hva3.next hB4
      have hvb4 := hvb3.next hB4
      have hbxa4 := hbxa3.next hB4
      have hbxb4 := hbxb3.next hB4
      clear d0 d1 d2 f0 f1 f2 hl e0 e1 e2 g0 g1 g2 hel
      obtain ⟨d0, d1, d2, f0, f1, f2, hl⟩ := hbxa4.facts
      obtain ⟨e0, e1, e2, g0, g1, g2, hel⟩ := hbxb4.facts
      rw [hfe2, show resV none = .tuple #[.string .empty, .bool false] from rfl]
      go_wp2_with fail
      refine (freeS_expr k1 s1 ks1 a1 ks1.len c1 _ hva4 hsm hf1 hnm hzm).mono ?_
      rintro e w5 ⟨rfl, hB5⟩
      have B5 := B4.trans (hB5.mono B4.size)
      have hva5 := hva4.next hB5
      have hvb5 := hvb4.next hB5
      have hbxa5 := hbxa4.next hB5
      have hbxb5 := hbxb4.next hB5
      clear d0 d1 d2 f0 f1 f2 hl e0 e1 e2 g0 g1 g2 hel
      obtain ⟨d0, d1, d2, f0, f1, f2, hl⟩ := hbxa5.facts
      obtain ⟨e0, e1, e2, g0, g1, g2, hel⟩ := hbxb5.facts
      have hs5 := B5.size
      rw [hfe, show resV (some x) = .tuple #[.string x, .bool true] from rfl]
      have hxx : (x.toList == x.toList) = true := by simp
      go_wp2_with fail
      go_ret
      exact ⟨rfl, (B5.alloc B5.size _).alloc (by simp; omega) _⟩
    | some y =>
      go_wp2_with fail
      refine (freeI_expr k1 s1 ks1 a1 ks1.len c1 _ hva0 hsm hf1 hnm).mono ?_
      rintro e w3 ⟨rfl, hB3⟩
      have B3 := B2.trans (hB3.mono B2.size)
      have hva3 := hva0.next hB3
      have hvb3 := hvb0.next hB3
      have hbxa3 := hbxa0.next hB3
      have hbxb3 := hbxb0.next hB3
      obtain ⟨d0, d1, d2, f0, f1, f2, hl⟩ := hbxa3.facts
      obtain ⟨e0, e1, e2, g0, g1, g2, hel⟩ := hbxb3.facts
      rw [hfe, show resV (some x) = .tuple #[.string x, .bool true] from rfl]
      go_wp2_with fail
      refine (freeI_expr k2 s2 ks2 a2 ks2.len c2 _ hvb3 hsm2 hf2 hnm2).mono ?_
      rintro e w4 ⟨rfl, hB4⟩
      have B4 := B3.trans (hB4.mono B3.size)
      have hva4 := hva3.next hB4
      have hvb4 := hvb3.next hB4
      have hbxa4 := hbxa3.next hB4
      have hbxb4 := hbxb3.next hB4
      clear d0 d1 d2 f0 f1 f2 hl e0 e1 e2 g0 g1 g2 hel
      obtain ⟨d0, d1, d2, f0, f1, f2, hl⟩ := hbxa4.facts
      obtain ⟨e0, e1, e2, g0, g1, g2, hel⟩ := hbxb4.facts
      rw [hfe2, show resV (some y) = .tuple #[.string y, .bool true] from rfl]
      go_wp2_with fail
      refine (freeS_expr k1 s1 ks1 a1 ks1.len c1 _ hva4 hsm hf1 hnm hzm).mono ?_
      rintro e w5 ⟨rfl, hB5⟩
      have B5 := B4.trans (hB5.mono B4.size)
      have hva5 := hva4.next hB5
      have hvb5 := hvb4.next hB5
      have hbxa5 := hbxa4.next hB5
      have hbxb5 := hbxb4.next hB5
      clear d0 d1 d2 f0 f1 f2 hl e0 e1 e2 g0 g1 g2 hel
      obtain ⟨d0, d1, d2, f0, f1, f2, hl⟩ := hbxa5.facts
      obtain ⟨e0, e1, e2, g0, g1, g2, hel⟩ := hbxb5.facts
      have hs5 := B5.size
      rw [hfe, show resV (some x) = .tuple #[.string x, .bool true] from rfl]
      have hxx : (x.toList == x.toList) = true := by simp
      obtain ⟨hva, hrd, hdy⟩ := free_plain hfe
      obtain ⟨hvaB, hrdB, hdyB⟩ := free_plain hfe2
      have hf1x : fr1 k1 s1 ks1 = some x := by unfold freeE at hfe; rw [if_pos hva] at hfe; exact hfe
      have hf1y : fr1 k2 s2 ks2 = some y := by unfold freeE at hfe2; rw [if_pos hvaB] at hfe2; exact hfe2
      have hKX : KA ((w5.alloc (.cells #[.int .i64 k1, .string s1, .slice a1 ks1.len c1, .int .i64 k2, .string s2, .slice a2 ks2.len c2, .int .i64 1, .string ⟨#[49]⟩, .slice none 0 0, .int .i64 1, .string ⟨#[50]⟩, .slice none 0 0] 25)).alloc (.cells #[.int .i64 4, .string ⟨#[]⟩, .slice (some ⟨w5.heap.size, 0, none⟩) 4 4] 25)) 0 ((w5.alloc (.cells #[.int .i64 k1, .string s1, .slice a1 ks1.len c1, .int .i64 k2, .string s2, .slice a2 ks2.len c2, .int .i64 1, .string ⟨#[49]⟩, .slice none 0 0, .int .i64 1, .string ⟨#[50]⟩, .slice none 0 0] 25)).alloc (.cells #[.int .i64 4, .string ⟨#[]⟩, .slice (some ⟨w5.heap.size, 0, none⟩) 4 4] 25)).heap.size (.node k1 s1 ks1 (.node k2 s2 ks2 (.node 1 ⟨#[49]⟩ .nil (.node 1 ⟨#[50]⟩ .nil .nil)))) (some ⟨w5.heap.size, 0, none⟩) 4 :=
        (((KA.ofRow (heap_alloc_new w5 (.cells #[.int .i64 k1, .string s1, .slice a1 ks1.len c1, .int .i64 k2, .string s2, .slice a2 ks2.len c2, .int .i64 1, .string ⟨#[49]⟩, .slice none 0 0, .int .i64 1, .string ⟨#[50]⟩, .slice none 0 0] 25)) (Nat.zero_le _) (by simp) (rowT_one hc1 (hva5.alloc (Nat.le_refl _) (.cells #[.int .i64 k1, .string s1, .slice a1 ks1.len c1, .int .i64 k2, .string s2, .slice a2 ks2.len c2, .int .i64 1, .string ⟨#[49]⟩, .slice none 0 0, .int .i64 1, .string ⟨#[50]⟩, .slice none 0 0] 25)) (Nat.zero_le _) (show _ ≤ (w5.alloc (.cells #[.int .i64 k1, .string s1, .slice a1 ks1.len c1, .int .i64 k2, .string s2, .slice a2 ks2.len c2, .int .i64 1, .string ⟨#[49]⟩, .slice none 0 0, .int .i64 1, .string ⟨#[50]⟩, .slice none 0 0] 25)).heap.size by simp) (rowT_one hc2 (hvb5.alloc (Nat.le_refl _) (.cells #[.int .i64 k1, .string s1, .slice a1 ks1.len c1, .int .i64 k2, .string s2, .slice a2 ks2.len c2, .int .i64 1, .string ⟨#[49]⟩, .slice none 0 0, .int .i64 1, .string ⟨#[50]⟩, .slice none 0 0] 25)) (Nat.zero_le _) (show _ ≤ (w5.alloc (.cells #[.int .i64 k1, .string s1, .slice a1 ks1.len c1, .int .i64 k2, .string s2, .slice a2 ks2.len c2, .int .i64 1, .string ⟨#[49]⟩, .slice none 0 0, .int .i64 1, .string ⟨#[50]⟩, .slice none 0 0] 25)).heap.size by simp) (rowT_one (Nat.le_refl 0) (KA.nil (L := 0) (B := 0)) (Nat.le_refl _) (Nat.zero_le _) (rowT_one (Nat.le_refl 0) (KA.nil (L := 0) (B := 0)) (Nat.le_refl _) (Nat.zero_le _) rfl)))) rfl) : KA (w5.alloc (.cells #[.int .i64 k1, .string s1, .slice a1 ks1.len c1, .int .i64 k2, .string s2, .slice a2 ks2.len c2, .int .i64 1, .string ⟨#[49]⟩, .slice none 0 0, .int .i64 1, .string ⟨#[50]⟩, .slice none 0 0] 25)) 0 (w5.alloc (.cells #[.int .i64 k1, .string s1, .slice a1 ks1.len c1, .int .i64 k2, .string s2, .slice a2 ks2.len c2, .int .i64 1, .string ⟨#[49]⟩, .slice none 0 0, .int .i64 1, .string ⟨#[50]⟩, .slice none 0 0] 25)).heap.size (.node k1 s1 ks1 (.node k2 s2 ks2 (.node 1 ⟨#[49]⟩ .nil (.node 1 ⟨#[50]⟩ .nil .nil)))) (some ⟨w5.heap.size, 0, none⟩) 4).alloc (Nat.le_refl _) (.cells #[.int .i64 4, .string ⟨#[]⟩, .slice (some ⟨w5.heap.size, 0, none⟩) 4 4] 25)).more (Nat.le_refl _) (by simp)
      have hXb := BxE.new (w5.alloc (.cells #[.int .i64 k1, .string s1, .slice a1 ks1.len c1, .int .i64 k2, .string s2, .slice a2 ks2.len c2, .int .i64 1, .string ⟨#[49]⟩, .slice none 0 0, .int .i64 1, .string ⟨#[50]⟩, .slice none 0 0] 25)) 4 ⟨#[]⟩ (.slice (some ⟨w5.heap.size, 0, none⟩) 4 4) 25
      rw [World.size_alloc] at hXb
      have B55 := (B5.alloc B5.size (.cells #[.int .i64 k1, .string s1, .slice a1 ks1.len c1, .int .i64 k2, .string s2, .slice a2 ks2.len c2, .int .i64 1, .string ⟨#[49]⟩, .slice none 0 0, .int .i64 1, .string ⟨#[50]⟩, .slice none 0 0] 25)).alloc (by simp; omega) (.cells #[.int .i64 4, .string ⟨#[]⟩, .slice (some ⟨w5.heap.size, 0, none⟩) 4 4] 25)
      go_wp2_with fail
      refine (validI_expr 4 ⟨#[]⟩ (.node k1 s1 ks1 (.node k2 s2 ks2 (.node 1 ⟨#[49]⟩ .nil (.node 1 ⟨#[50]⟩ .nil .nil)))) (some ⟨w5.heap.size, 0, none⟩) 4 4 _ hKX (by decide) ⟨hsm, hnm, hf1, hsm2, hnm2, hf2, by decide, by decide, trivial, by decide, by decide, trivial, trivial⟩ (by decide)).mono ?_
      rintro e w6 ⟨rfl, hB6⟩
      have B6 := B55.trans (hB6.mono B55.size)
      rcases Bool.eq_false_or_eq_true (validE 4 ⟨#[]⟩ (.node k1 s1 ks1 (.node k2 s2 ks2 (.node 1 ⟨#[49]⟩ .nil (.node 1 ⟨#[50]⟩ .nil .nil))))) with hvx | hvx
      · have hKX6 := hKX.next hB6
        obtain ⟨m0, m1, m2, n0, n1, n2, hml⟩ := (hXb.next hB6).facts
        rw [hvx]
        go_wp2_with fail
        refine (freeI_expr 4 ⟨#[]⟩ (.node k1 s1 ks1 (.node k2 s2 ks2 (.node 1 ⟨#[49]⟩ .nil (.node 1 ⟨#[50]⟩ .nil .nil)))) (some ⟨w5.heap.size, 0, none⟩) 4 4 _ hKX6 (by decide) ⟨hsm, hnm, hf1, hsm2, hnm2, hf2, by decide, by decide, trivial, by decide, by decide, trivial, trivial⟩ (by decide)).mono ?_
        rintro e w7 ⟨rfl, hB7⟩
        have B7 := B6.trans (hB7.mono B6.size)
        have hres : freeE 4 ⟨#[]⟩ (.node k1 s1 ks1 (.node k2 s2 ks2 (.node 1 ⟨#[49]⟩ .nil (.node 1 ⟨#[50]⟩ .nil .nil)))) = some (if x = y then ⟨#[49]⟩ else ⟨#[50]⟩) := by unfold freeE; rw [if_pos hvx]; exact fr_same hf1x hf1y
        by_cases hxy : x = y
        · subst hxy
          rw [hres, if_pos rfl, show resV (some ⟨#[49]⟩) = .tuple #[.string ⟨#[49]⟩, .bool true] from rfl]
          go_wp2_with fail
          go_ret
          exact ⟨rfl, B7⟩
        · have hne : (x.toList == y.toList) = false := by
            rw [sEq]
            simpa using hxy
          rw [hres, if_neg hxy, show resV (some ⟨#[50]⟩) = .tuple #[.string ⟨#[50]⟩, .bool true] from rfl]
          go_wp2_with fail
          go_ret
          exact ⟨rfl, B7⟩
      · rw [hvx]
        go_wp2_with fail
        go_ret
        exact ⟨rfl, B6⟩
end Go.Proofs.Ytbcghkdjhicocaa
