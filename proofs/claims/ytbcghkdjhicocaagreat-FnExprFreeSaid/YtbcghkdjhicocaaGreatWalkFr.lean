/-
  The law FnExprFree, walked.
-/
import Derived.Test.YtbcghkdjhicocaaGreatDrawE4
import Derived.Test.YtbcghkdjhicocaaGreatFreeQ
import Derived.Test.YtbcghkdjhicocaaGreatFreeS
import Derived.Test.YtbcghkdjhicocaaGreatRow
import Derived.Deep.RegionHeld3
import Derived.StillTailTactics
namespace Go.Proofs.YtbcghkdjhicocaaGreat
set_option linter.unusedVariables false
set_option linter.unusedSimpArgs false
open Go.RowKit

theorem freeE_size {k : Int} {s : ByteArray} {ks : Fo} {x : ByteArray} (h : freeE k s ks = some x) : x.size ≤ 60 := by
  unfold freeE at h
  split at h
  · rename_i hv
    obtain ⟨hn, hg, _⟩ := valid_good hv
    exact fr1_size hn hg h
  · cases h
set_option maxRecDepth 100000 in
set_option maxHeartbeats 4000000 in
theorem walkFnExprFree (a : Option Addr) (len cap : Nat) (zs : List Int) (w : World) (h : IsRow .u8 w a len cap zs) :
    Calls Tryz.prog 3 #[.slice a len cap] w fun e w' => e = .returned (.bool true) ∧ Below w.heap.size w w' := by
  obtain ⟨hb, hn, hc⟩ := row_bytes h
  have hc' := Lib.hid hc
  unfold maxLen at hc
  by_cases hlong : 1048576 < len
  · go_enter Tryz.func3, Tryz.ntmps3
    go_wp2_with fail
    go_ret
    exact ⟨rfl, Below.refl _ _⟩
  go_enter Tryz.func3, Tryz.ntmps3
  go_wp2_with fail
  refine (drawExprFree_any a len cap w hb hn hc'.out).mono ?_
  rintro e w1 ⟨k1, s1, ks1, a1, c1, rfl, hk1, hc1, hs1, hf1, hz1, hB1⟩
  have hsl1 := Fo.size_len ks1
  have hbx1 := BxE.new w1 k1 s1 (.slice a1 ks1.len c1) 25
  have hv1 := (hk1.alloc (Nat.le_refl _) (.cells #[.int .i64 k1, .string s1, .slice a1 ks1.len c1] 25)).more (Nat.zero_le _) (show _ ≤ (w1.alloc (.cells #[.int .i64 k1, .string s1, .slice a1 ks1.len c1] 25)).heap.size by simp)
  have hB1' := hB1.alloc hB1.size (.cells #[.int .i64 k1, .string s1, .slice a1 ks1.len c1] 25)
  have hsm : s1.size ≤ maxLen := by unfold maxLen; omega
  have hnm : ks1.len ≤ maxLen := by unfold maxLen; omega
  have hzm : ks1.size ≤ 1048576 := by omega
  go_wp2_with fail
  refine (freeI_expr k1 s1 ks1 a1 ks1.len c1 _ hv1 hsm hf1 hnm).mono ?_
  rintro e w2 ⟨rfl, hB2⟩
  have B2 := hB1'.trans (hB2.mono hB1'.size)
  have hv2 := hv1.next hB2
  have hbx2 := hbx1.next hB2
  obtain ⟨d0, d1, d2, f0, f1, f2, hl⟩ := hbx2.facts
  cases hfe : freeE k1 s1 ks1 with
  | none =>
    rw [show resV none = .tuple #[.string .empty, .bool false] from rfl]
    go_wp2_with fail
    refine (freeS_expr k1 s1 ks1 a1 ks1.len c1 _ hv2 hsm hf1 hnm hzm).mono ?_
    rintro e w3 ⟨rfl, hB3⟩
    have B3 := B2.trans (hB3.mono B2.size)
    rw [hfe, show resV none = .tuple #[.string .empty, .bool false] from rfl]
    go_wp2_with fail
    go_ret
    exact ⟨rfl, B3⟩
  | some x =>
    rw [show resV (some x) = .tuple #[.string x, .bool true] from rfl]
    go_wp2_with fail
    refine (freeS_expr k1 s1 ks1 a1 ks1.len c1 _ hv2 hsm hf1 hnm hzm).mono ?_
    rintro e w3 ⟨rfl, hB3⟩
    have B3 := B2.trans (hB3.mono B2.size)
    have hv3 := hv2.next hB3
    have hbx3 := hbx2.next hB3
    obtain ⟨e0, e1, e2, g0, g1, g2, hel⟩ := hbx3.facts
    obtain ⟨hva, hrd, hdy⟩ := free_plain hfe
    have hxs : x.size ≤ 60 := freeE_size hfe
    have hxl : (x.size : Int) ≤ 60 := by omega
    have hxx : (x.toList == x.toList) = true := by simp
    rw [hfe, show resV (some x) = .tuple #[.string x, .bool true] from rfl]
    go_wp2_with fail
    refine (validI_expr k1 s1 ks1 a1 ks1.len c1 _ hv3 hsm hf1 hnm).mono ?_
    rintro e w4 ⟨rfl, hB4⟩
    have B4 := B3.trans (hB4.mono B3.size)
    have hv4 := hv3.next hB4
    have hbx4 := hbx3.next hB4
    obtain ⟨m0, m1, m2, n0, n1, n2, hml⟩ := hbx4.facts
    rw [hva]
    go_wp2_with fail
    refine (readsI_expr k1 s1 ks1 a1 ks1.len c1 _ hv4 hsm hf1 hnm).mono ?_
    rintro e w5 ⟨v, rfl, hown, hB5⟩
    have B5 := B4.trans (hB5.mono B4.size)
    have hv5 := hv4.next hB5
    have hbx5 := hbx4.next hB5
    obtain ⟨o0, o1, o2, p0, p1, p2, hol⟩ := hbx5.facts
    obtain ⟨ra, rc, rfl, _⟩ := hown.form
    rw [hrd]
    go_wp2_with fail
    refine (dynI_expr k1 s1 ks1 a1 ks1.len c1 _ hv5 hsm hf1 hnm).mono ?_
    rintro e w6 ⟨rfl, hB6⟩
    have B6 := B5.trans (hB6.mono B5.size)
    rw [hva, hdy]
    go_wp2_with fail
    go_ret
    exact ⟨rfl, B6⟩
end Go.Proofs.YtbcghkdjhicocaaGreat
