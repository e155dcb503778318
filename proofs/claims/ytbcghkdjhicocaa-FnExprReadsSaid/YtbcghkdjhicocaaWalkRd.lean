/-
  The law FnExprReads, walked.
-/
import Derived.Test.YtbcghkdjhicocaaWalkFr
import Derived.Test.YtbcghkdjhicocaaLit
import Derived.Test.YtbcghkdjhicocaaReadQ
import Derived.Test.YtbcghkdjhicocaaBeK
import Derived.Deep.RegionHeld3
import Derived.StillTailTactics
namespace Go.Proofs.Ytbcghkdjhicocaa
set_option linter.unusedVariables false
set_option linter.unusedSimpArgs false
open Go.RowKit

theorem k3_next {w w' : World} {fx fa fb : Fo} {ax aa ab : Option Addr} {nx na nb : Nat} (h : KA w 0 w.heap.size fx ax nx ∧ KA w 0 w.heap.size fa aa na ∧ KA w 0 w.heap.size fb ab nb) (hB : Below w.heap.size w w') : KA w' 0 w'.heap.size fx ax nx ∧ KA w' 0 w'.heap.size fa aa na ∧ KA w' 0 w'.heap.size fb ab nb := ⟨h.1.next hB, h.2.1.next hB, h.2.2.next hB⟩
section
variable {w w' : World} {gx ga gb : Nat} {kx ka kb : Int} {sx sa sb : ByteArray} {vx va vb : Value} {T : TypeId}
theorem x3_next (h : BxE w gx kx sx vx T ∧ BxE w ga ka sa va T ∧ BxE w gb kb sb vb T) (hB : Below w.heap.size w w') : BxE w' gx kx sx vx T ∧ BxE w' ga ka sa va T ∧ BxE w' gb kb sb vb T := ⟨h.1.next hB, h.2.1.next hB, h.2.2.next hB⟩
theorem x3_nine (h : BxE w gx kx sx vx T ∧ BxE w ga ka sa va T ∧ BxE w gb kb sb vb T) : w.cell? ⟨gx, 0, none⟩ = some (.int .i64 kx) ∧ w.cell? ⟨gx, 1, none⟩ = some (.string sx) ∧ w.cell? ⟨gx, 2, none⟩ = some vx ∧ w.cell? ⟨ga, 0, none⟩ = some (.int .i64 ka) ∧ w.cell? ⟨ga, 1, none⟩ = some (.string sa) ∧ w.cell? ⟨ga, 2, none⟩ = some va ∧ w.cell? ⟨gb, 0, none⟩ = some (.int .i64 kb) ∧ w.cell? ⟨gb, 1, none⟩ = some (.string sb) ∧ w.cell? ⟨gb, 2, none⟩ = some vb := ⟨h.1.c0, h.1.c1, h.1.c2, h.2.1.c0, h.2.1.c1, h.2.1.c2, h.2.2.c0, h.2.2.c1, h.2.2.c2⟩
end
/-- between two rounds: the list of all, and the other list beside it -/
def RdI (w6 : World) (D : Nat) (R1 R2 : List ByteArray) (vo : Value) (v i : Value) (wr : World) : Prop :=
  ∃ j : Nat, j ≤ R2.length ∧ i = .int .i64 j ∧ OwnsS wr w6.heap.size v (uniqN R1 ((R2.take j).map some)) ∧ OwnsS wr D vo R2 ∧ (∀ g, v.ownBlock = some g → vo.ownBlock ≠ some g) ∧ Below w6.heap.size w6 wr
theorem readsE_len {k : Int} {s : ByteArray} {ks : Fo} (h : ks.size ≤ 10001) : (readsE k s ks).length ≤ 10002 := by
  unfold readsE
  split
  · have := uniqN_length (rd1 k ks) []
    have := rd1_length k ks
    simp at *
    omega
  · simp
set_option maxRecDepth 100000 in
set_option maxHeartbeats 4000000 in
theorem walkFnExprReads (a : Option Addr) (len cap : Nat) (zs : List Int) (b : Option Addr) (len' cap' : Nat) (zs' : List Int) (w : World) (h : IsRow .u8 w a len cap zs) (h' : IsRow .u8 w b len' cap' zs') :
    Calls Try.prog 3 #[.slice a len cap, .slice b len' cap'] w fun e w' => e = .returned (.bool true) ∧ Below w.heap.size w w' := by
  obtain ⟨hb, hn, hc⟩ := row_bytes h
  obtain ⟨hb2, hn2, hc2⟩ := row_bytes h'
  have hc' := Lib.hid hc
  have hc2' := Lib.hid hc2
  unfold maxLen at hc hc2
  by_cases hlong : 1048576 < len
  · go_enter Try.func3, Try.ntmps3
    go_wp2_with fail
    go_ret
    exact ⟨rfl, Below.refl _ _⟩
  by_cases hlong2 : 1048576 < len'
  · go_enter Try.func3, Try.ntmps3
    go_wp2_with fail
    go_ret
    exact ⟨rfl, Below.refl _ _⟩
  go_enter Try.func3, Try.ntmps3
  go_wp2_with fail
  refine (drawExprReads_any a len cap w hb hn hc'.out).mono ?_
  rintro e w1 ⟨k1, s1, ks1, a1, c1, rfl, hk1, hc1, hs1, hf1, hz1, hB1⟩
  have hsl1 := Fo.size_len ks1
  have hbx1 := BxE.new w1 k1 s1 (.slice a1 ks1.len c1) 25
  have hv1 := (hk1.alloc (Nat.le_refl _) (.cells #[.int .i64 k1, .string s1, .slice a1 ks1.len c1] 25)).more (Nat.zero_le _) (show _ ≤ (w1.alloc (.cells #[.int .i64 k1, .string s1, .slice a1 ks1.len c1] 25)).heap.size by simp)
  have hB1' := hB1.alloc hB1.size (.cells #[.int .i64 k1, .string s1, .slice a1 ks1.len c1] 25)
  have hsm : s1.size ≤ maxLen := by unfold maxLen; omega
  have hnm : ks1.len ≤ maxLen := by unfold maxLen; omega
  have hzm : ks1.size ≤ 1048576 := by omega
  go_wp2_with fail
  refine (drawExprReads_any b len' cap' _ ((hb2.under hB1')) hn2 hc2'.out).mono ?_
  rintro e w2 ⟨k2, s2, ks2, a2, c2, rfl, hk2, hc2, hs2, hf2, hz2, hB2⟩
  have hsl2 := Fo.size_len ks2
  have hbx2 := BxE.new w2 k2 s2 (.slice a2 ks2.len c2) 25
  have hv2 := (hk2.alloc (Nat.le_refl _) (.cells #[.int .i64 k2, .string s2, .slice a2 ks2.len c2] 25)).more (Nat.zero_le _) (show _ ≤ (w2.alloc (.cells #[.int .i64 k2, .string s2, .slice a2 ks2.len c2] 25)).heap.size by simp)
  have B2 := (hB1'.trans (hB2.mono hB1'.size)).alloc (hB1'.trans (hB2.mono hB1'.size)).size (.cells #[.int .i64 k2, .string s2, .slice a2 ks2.len c2] 25)
  have hsm2 : s2.size ≤ maxLen := by unfold maxLen; omega
  have hnm2 : ks2.len ≤ maxLen := by unfold maxLen; omega
  have hva0 := ((hv1.next hB2).alloc (Nat.le_refl _) (.cells #[.int .i64 k2, .string s2, .slice a2 ks2.len c2] 25)).more (Nat.le_refl _) (show _ ≤ (w2.alloc (.cells #[.int .i64 k2, .string s2, .slice a2 ks2.len c2] 25)).heap.size by simp)
  have hvb0 := hv2
  have hbxa0 := (hbx1.next hB2).alloc (.cells #[.int .i64 k2, .string s2, .slice a2 ks2.len c2] 25)
  have hbxb0 := hbx2
  obtain ⟨c0, c1', c2', cf0, cf1, cf2, hcl⟩ := hbxa0.facts
  go_wp2_with fail
  refine (readsI_expr k1 s1 ks1 a1 ks1.len c1 _ hva0 hsm hf1 hnm).mono ?_
  rintro e w3 ⟨v3, rfl, hown3, hB3⟩
  have B3 := B2.trans (hB3.mono B2.size)
  have hva3 := hva0.next hB3
  have hvb3 := hvb0.next hB3
  have hbxa3 := hbxa0.next hB3
  have hbxb3 := hbxb0.next hB3
  obtain ⟨d0, d1, d2, f0, f1, f2, hl⟩ := hbxa3.facts
  obtain ⟨e0, e1, e2, g0, g1, g2, hel⟩ := hbxb3.facts
  obtain ⟨ra, rc, rfl, hsv3⟩ := hown3.form
  have hs3 := B3.size
  have hKX : KA ((w3.alloc (.cells #[.int .i64 k1, .string s1, .slice a1 ks1.len c1, .int .i64 k2, .string s2, .slice a2 ks2.len c2] 25)).alloc (.cells #[.int .i64 3, .string ⟨#[]⟩, .slice (some ⟨w3.heap.size, 0, none⟩) 2 2] 25)) 0 ((w3.alloc (.cells #[.int .i64 k1, .string s1, .slice a1 ks1.len c1, .int .i64 k2, .string s2, .slice a2 ks2.len c2] 25)).alloc (.cells #[.int .i64 3, .string ⟨#[]⟩, .slice (some ⟨w3.heap.size, 0, none⟩) 2 2] 25)).heap.size (.node k1 s1 ks1 (.node k2 s2 ks2 .nil)) (some ⟨w3.heap.size, 0, none⟩) 2 :=
    (((KA.ofRow (heap_alloc_new w3 (.cells #[.int .i64 k1, .string s1, .slice a1 ks1.len c1, .int .i64 k2, .string s2, .slice a2 ks2.len c2] 25)) (Nat.zero_le _) (by simp) (rowT_one hc1 (hva3.alloc (Nat.le_refl _) (.cells #[.int .i64 k1, .string s1, .slice a1 ks1.len c1, .int .i64 k2, .string s2, .slice a2 ks2.len c2] 25)) (Nat.zero_le _) (show _ ≤ (w3.alloc (.cells #[.int .i64 k1, .string s1, .slice a1 ks1.len c1, .int .i64 k2, .string s2, .slice a2 ks2.len c2] 25)).heap.size by simp) (rowT_one hc2 (hvb3.alloc (Nat.le_refl _) (.cells #[.int .i64 k1, .string s1, .slice a1 ks1.len c1, .int .i64 k2, .string s2, .slice a2 ks2.len c2] 25)) (Nat.zero_le _) (show _ ≤ (w3.alloc (.cells #[.int .i64 k1, .string s1, .slice a1 ks1.len c1, .int .i64 k2, .string s2, .slice a2 ks2.len c2] 25)).heap.size by simp) rfl)) rfl) : KA (w3.alloc (.cells #[.int .i64 k1, .string s1, .slice a1 ks1.len c1, .int .i64 k2, .string s2, .slice a2 ks2.len c2] 25)) 0 (w3.alloc (.cells #[.int .i64 k1, .string s1, .slice a1 ks1.len c1, .int .i64 k2, .string s2, .slice a2 ks2.len c2] 25)).heap.size (.node k1 s1 ks1 (.node k2 s2 ks2 .nil)) (some ⟨w3.heap.size, 0, none⟩) 2).alloc (Nat.le_refl _) (.cells #[.int .i64 3, .string ⟨#[]⟩, .slice (some ⟨w3.heap.size, 0, none⟩) 2 2] 25)).more (Nat.le_refl _) (by simp)
  have hXb := BxE.new (w3.alloc (.cells #[.int .i64 k1, .string s1, .slice a1 ks1.len c1, .int .i64 k2, .string s2, .slice a2 ks2.len c2] 25)) 3 ⟨#[]⟩ (.slice (some ⟨w3.heap.size, 0, none⟩) 2 2) 25
  rw [World.size_alloc] at hXb
  have B33 := (B3.alloc B3.size (.cells #[.int .i64 k1, .string s1, .slice a1 ks1.len c1, .int .i64 k2, .string s2, .slice a2 ks2.len c2] 25)).alloc (by simp; omega) (.cells #[.int .i64 3, .string ⟨#[]⟩, .slice (some ⟨w3.heap.size, 0, none⟩) 2 2] 25)
  have hvaX := ((hva3.alloc (Nat.le_refl _) (.cells #[.int .i64 k1, .string s1, .slice a1 ks1.len c1, .int .i64 k2, .string s2, .slice a2 ks2.len c2] 25)).alloc (by simp) (.cells #[.int .i64 3, .string ⟨#[]⟩, .slice (some ⟨w3.heap.size, 0, none⟩) 2 2] 25)).more (Nat.le_refl _) (show _ ≤ ((w3.alloc (.cells #[.int .i64 k1, .string s1, .slice a1 ks1.len c1, .int .i64 k2, .string s2, .slice a2 ks2.len c2] 25)).alloc (.cells #[.int .i64 3, .string ⟨#[]⟩, .slice (some ⟨w3.heap.size, 0, none⟩) 2 2] 25)).heap.size by simp; omega)
  have hvbX := ((hvb3.alloc (Nat.le_refl _) (.cells #[.int .i64 k1, .string s1, .slice a1 ks1.len c1, .int .i64 k2, .string s2, .slice a2 ks2.len c2] 25)).alloc (by simp) (.cells #[.int .i64 3, .string ⟨#[]⟩, .slice (some ⟨w3.heap.size, 0, none⟩) 2 2] 25)).more (Nat.le_refl _) (show _ ≤ ((w3.alloc (.cells #[.int .i64 k1, .string s1, .slice a1 ks1.len c1, .int .i64 k2, .string s2, .slice a2 ks2.len c2] 25)).alloc (.cells #[.int .i64 3, .string ⟨#[]⟩, .slice (some ⟨w3.heap.size, 0, none⟩) 2 2] 25)).heap.size by simp; omega)
  have hbxaX := (hbxa3.alloc (.cells #[.int .i64 k1, .string s1, .slice a1 ks1.len c1, .int .i64 k2, .string s2, .slice a2 ks2.len c2] 25)).alloc (.cells #[.int .i64 3, .string ⟨#[]⟩, .slice (some ⟨w3.heap.size, 0, none⟩) 2 2] 25)
  have hbxbX := (hbxb3.alloc (.cells #[.int .i64 k1, .string s1, .slice a1 ks1.len c1, .int .i64 k2, .string s2, .slice a2 ks2.len c2] 25)).alloc (.cells #[.int .i64 3, .string ⟨#[]⟩, .slice (some ⟨w3.heap.size, 0, none⟩) 2 2] 25)
  have hownX := strs_below hown3 (((Below.refl w3.heap.size w3).alloc (Nat.le_refl _) (.cells #[.int .i64 k1, .string s1, .slice a1 ks1.len c1, .int .i64 k2, .string s2, .slice a2 ks2.len c2] 25)).alloc (by simp) (.cells #[.int .i64 3, .string ⟨#[]⟩, .slice (some ⟨w3.heap.size, 0, none⟩) 2 2] 25))
  have hR1l : (readsE k1 s1 ks1).length ≤ 10002 := readsE_len hz1
  have hR2l : (readsE k2 s2 ks2).length ≤ 10002 := readsE_len hz2
  generalize hR1 : readsE k1 s1 ks1 = R1 at *
  generalize hR2 : readsE k2 s2 ks2 = R2 at *
  go_wp2_with fail
  refine (readsS_any k1 s1 ks1 a1 ks1.len c1 _ hvaX hsm hf1 hnm hzm).mono ?_
  rw [hR1]
  rintro e w4 ⟨v4, rfl, hown4, hB4⟩
  have B4 := B33.trans (hB4.mono B33.size)
  obtain ⟨sa, sc, rfl, hsv4⟩ := hown4.form
  have hown34 := strs_below hownX hB4
  have hsv3' := hown34.at_
  have hKX4 := hKX.next hB4
  have hXb4 := hXb.next hB4
  have hva4 := hvaX.next hB4
  have hvb4 := hvbX.next hB4
  have hbxa4 := hbxaX.next hB4
  have hbxb4 := hbxbX.next hB4
  go_wp2_with fail
  refine (beT_yes ra sa R1.length rc sc R1 w4 hsv3' hsv4 (by unfold maxLen; omega)).mono ?_
  rintro e w5 ⟨rfl, hB5⟩
  have B5 := B4.trans (hB5.mono B4.size)
  have hown5 := strs_below hown34 hB5
  have hKX5 := hKX4.next hB5
  have hXb5 := hXb4.next hB5
  have hva5 := hva4.next hB5
  have hvb5 := hvb4.next hB5
  have hbxa5 := hbxa4.next hB5
  have hbxb5 := hbxb4.next hB5
  clear d0 d1 d2 f0 f1 f2 hl e0 e1 e2 g0 g1 g2 hel
  obtain ⟨d0, d1, d2, f0, f1, f2, hl⟩ := hbxa5.facts
  obtain ⟨e0, e1, e2, g0, g1, g2, hel⟩ := hbxb5.facts
  obtain ⟨x0, x1, x2, y0, y1, y2, hxl⟩ := hXb5.facts
  go_wp2_with fail
  refine (validI_expr 3 ⟨#[]⟩ (.node k1 s1 ks1 (.node k2 s2 ks2 .nil)) (some ⟨w3.heap.size, 0, none⟩) 2 2 _ hKX5 (by decide) ⟨hsm, hnm, hf1, hsm2, hnm2, hf2, trivial⟩ (by decide)).mono ?_
  rintro e w6 ⟨rfl, hB6⟩
  have B6 := B5.trans (hB6.mono B5.size)
  have hown6 := strs_below hown5 hB6
  have hKX6 := hKX5.next hB6
  have hva6 := hva5.next hB6
  have hvb6 := hvb5.next hB6
  have hbxa6 := hbxa5.next hB6
  have hbxb6 := hbxb5.next hB6
  have hXb6 := hXb5.next hB6
  clear d0 d1 d2 f0 f1 f2 hl e0 e1 e2 g0 g1 g2 hel x0 x1 x2 y0 y1 y2 hxl
  obtain ⟨d0, d1, d2, f0, f1, f2, hl⟩ := hbxa6.facts
  obtain ⟨e0, e1, e2, g0, g1, g2, hel⟩ := hbxb6.facts
  obtain ⟨x0, x1, x2, y0, y1, y2, hxl⟩ := hXb6.facts
  rcases Bool.eq_false_or_eq_true (validE 3 ⟨#[]⟩ (.node k1 s1 ks1 (.node k2 s2 ks2 .nil))) with hvx | hvx
  case inr =>
    rw [hvx]
    go_wp2_with fail
    refine (readsS_any k1 s1 ks1 a1 ks1.len c1 _ hva6 hsm hf1 hnm hzm).mono ?_
    rw [hR1]
    rintro e w7 ⟨v7, rfl, hown7, hB7⟩
    have B7 := B6.trans (hB7.mono B6.size)
    obtain ⟨ta, tc, rfl, hsv7⟩ := hown7.form
    have hsv37 := (strs_below hown6 hB7).at_
    go_wp2_with fail
    refine (beT_yes ra ta R1.length rc tc R1 w7 hsv37 hsv7 (by unfold maxLen; omega)).mono ?_
    rintro e w8 ⟨rfl, hB8⟩
    have B8 := B7.trans (hB8.mono B7.size)
    go_wp2_with fail
    go_ret
    exact ⟨rfl, B8⟩
  case inl =>
    rw [hvx]
    have hv1 : validE k1 s1 ks1 = true := valid_get (j := 0) hvx rfl
    have hv2 : validE k2 s2 ks2 = true := valid_get (j := 1) hvx rfl
    have hfin : readsE 3 ⟨#[]⟩ (.node k1 s1 ks1 (.node k2 s2 ks2 .nil)) = uniqN R1 (R2.map some) := by
      rw [← hR1, ← hR2]
      unfold readsE
      rw [if_pos hvx, if_pos hv1, if_pos hv2, rd1_join, reads_both]
    have hdyn : (validE 3 ⟨#[]⟩ (.node k1 s1 ks1 (.node k2 s2 ks2 .nil)) && anyN (rd1 3 (.node k1 s1 ks1 (.node k2 s2 ks2 .nil)))) = (anyN (rd1 k1 ks1) || anyN (rd1 k2 ks2)) := by rw [hvx, rd1_join, anyN_append]; rfl
    have Hpl := Lib.hid (And.intro hfin (And.intro hdyn (And.intro hv1 hv2)))
    clear hfin hdyn hv1 hv2
    have hmade := World.ownsRow_made (w := w6) (base := w6.heap.size) (e := 9) (size := 1) #[] 0 (Nat.le_refl _) (by unfold maxLen; omega) rfl
    obtain ⟨i0, hi, hz0, hzz1, hzz2⟩ := info_parts infoStr
    have hvb6' := hvb6
    rcases hown6.2 with ⟨e9, h09⟩ | ⟨g9, cap9, cur9, e9, hb9, hg9, _⟩
    · injection e9 with e91 e92 e93
      subst e91
      subst e93
      have hR10 : R1 = [] := List.eq_nil_of_length_eq_zero e92
      subst hR10
      have B67 : Below w6.heap.size w6 (w6.alloc (.cells #[] 9)) := (Below.refl w6.heap.size w6).alloc (Nat.le_refl _) (.cells #[] 9)
      have hown7 : OwnsS (w6.alloc (.cells #[] 9)) w6.heap.size (.slice (some ⟨w6.heap.size, 0, none⟩) 0 0) [] := strs_made w6
      have hvb7 := hvb6.next B67
      go_wp2_with fail
      refine (readsI_expr k2 s2 ks2 a2 ks2.len c2 _ hvb7 hsm2 hf2 hnm2).mono ?_
      rw [hR2]
      rintro e w8 ⟨v8, rfl, hown8, hB8⟩
      obtain ⟨oa, oc, rfl, hsv8⟩ := hown8.form
      have B68 := B67.trans (hB8.mono B67.size)
      have hs68 := B67.size
      have hall0 : RdI w6 (w6.alloc (.cells #[] 9)).heap.size [] R2 (.slice oa R2.length oc) (.slice (some ⟨w6.heap.size, 0, none⟩) 0 0) (.int .i64 0) w8 := ⟨0, Nat.zero_le _, rfl, strs_below hown7 hB8, hown8, fun g hg hg2 => by have := strs_lt hown7 g hg; have := strs_at (k := R2.length) hown8 g hg2; omega, B68⟩
      have Hown8 := Lib.hid hown8
      clear hown8 hown7 hsv8
      go_wp2_with fail
      go_loopw [9, 11] (fun v i wr => RdI w6 (w6.alloc (.cells #[] 9)).heap.size [] R2 (.slice oa R2.length oc) v i wr) (fun _ i _ => R2.length - (intOf i).toNat)
      case atStart => exact hall0
      case round =>
        obtain ⟨j, hj, rfl, hown, hoth, hsep, hB⟩ := hrel
        obtain ⟨aa, ac, rfl, hsv⟩ := hown.form
        have hsvo := hoth.at_
        have hul := uniqN_length ((R2.take j).map some) []
        simp only [List.length_map, List.length_take] at hul
        by_cases hlt : j < R2.length
        · obtain ⟨b9, o9, x9, rfl, hb9', hs9, hc9⟩ := hsvo.get hlt
          have hjj : (j : Int) < (R2.length : Int) := by omega
          have hj0 : (0 : Int) ≤ (j : Int) := by omega
          have htk : uniqN [] ((R2.take (j + 1)).map some) = (if hasB (uniqN [] ((R2.take j).map some)) x9 then uniqN [] ((R2.take j).map some) else uniqN [] ((R2.take j).map some) ++ [x9]) := by
            rw [List.take_add_one, hs9, List.map_append]
            exact uniqN_snoc _ _ _
          have Htk := Lib.hid htk
          have Hs9 := Lib.hid hs9
          clear htk hs9
          generalize uniqN [] ((R2.take j).map some) = U at *
          go_wp2_with fail
          refine (beHas_any aa U.length ac U x9 _ hsv (by unfold maxLen; omega)).mono ?_
          rintro e w9 ⟨rfl, rfl⟩
          rcases Bool.eq_false_or_eq_true (hasB U x9) with hh | hh
          · rw [hh]
            have Htk2 := Lib.hid (show uniqN [] ((R2.take (j + 1)).map some) = U by rw [Htk.out, if_pos hh])
            clear hh
            go_wp2_with fail
            exact ⟨⟨j + 1, by omega, by go_num, by rw [Htk2.out]; exact hown, hoth, hsep, hB⟩, by simp [intOf]; omega⟩
          · rw [hh]
            have Htk2 := Lib.hid (show uniqN [] ((R2.take (j + 1)).map some) = U ++ [x9] by rw [Htk.out, if_neg (by rw [hh]; simp)])
            clear hh
            have hBs := hB.size
            have Hall := Lib.hid (And.intro hown (And.intro hoth (And.intro hsep hB)))
            clear hown hoth hsep hB hsv hsvo
            go_wp2_with (at_builtin; refine wpList_append_at rfl _ _ 27 rfl w6.heap.size 9 i0 _ 1 16 underStrs hi hz0 hzz1 hzz2 rfl (by decide) _ _ _ rfl (World.ownsRow.alloc Hall.out.1 _) ⟨_, 0, none⟩ 1 1 [.string x9] rfl rfl (fun j u hu => cell_one _ _ _ j u hu) (by simp [Value.oneCell']) (by simp only [maxLen]; omega) (by omega) (by simp; omega) ?_; intro v4 w4 hown4 hgrow4 hat4)
            obtain ⟨hown, hoth, hsep, hB⟩ := Hall.out
            have hown4' : OwnsS w4 w6.heap.size v4 (U ++ [x9]) := OwnsS.grew (by simpa using hown4)
            have hvo := strs_lt hoth
            refine ⟨⟨j + 1, by omega, by go_num, by rw [Htk2.out]; exact hown4', World.ownsRow.kept (World.ownsRow.alloc hoth _) hgrow4 (.inr fun e => ?_), fun g hg hg2 => ?_, (hB.alloc hBs _).grown hgrow4 (by simp; omega) (fun k hk => strs_at hown k hk)⟩, by simp [intOf]; omega⟩
            · exact hsep _ e.symm rfl
            · rcases hat4 with h4 | h4
              · exact hsep g (h4 ▸ hg) hg2
              · have h5 := h4 g hg
                have h6 := hvo g hg2
                simp only [World.size_alloc] at h5
                omega
        · have hjl : j = R2.length := by omega
          have htake : (R2.take j).map some = R2.map some := by rw [List.take_of_length_le (by omega)]
          have hba := hbxa6.next hB
          have hbb := hbxb6.next hB
          have hbx := hXb6.next hB
          have hva9 := hva6.next hB
          have hvb9 := hvb6.next hB
          have hKX9 := hKX6.next hB
          have hjn : ¬ (j : Int) < (R2.length : Int) := by omega
          have B9 := B6.trans (hB.mono B6.size)
          obtain ⟨hfin, hdyn, hv1, hv2⟩ := Hpl.out
          rw [htake, ← hfin] at hown hsv hul ⊢
          have hdx := fun W (hW : KA W 0 W.heap.size (.node k1 s1 ks1 (.node k2 s2 ks2 .nil)) (some ⟨w3.heap.size, 0, none⟩) 2) => dynI_expr 3 ⟨#[]⟩ (.node k1 s1 ks1 (.node k2 s2 ks2 .nil)) (some ⟨w3.heap.size, 0, none⟩) 2 2 W hW (by decide) ⟨hsm, hnm, hf1, hsm2, hnm2, hf2, trivial⟩ (by decide)
          have hda := fun W (hW : KA W 0 W.heap.size ks1 a1 ks1.len) => dynI_expr k1 s1 ks1 a1 ks1.len c1 W hW hsm hf1 hnm
          have hdb := fun W (hW : KA W 0 W.heap.size ks2 a2 ks2.len) => dynI_expr k2 s2 ks2 a2 ks2.len c2 W hW hsm2 hf2 hnm2
          have hrx := fun W (hW : KA W 0 W.heap.size (.node k1 s1 ks1 (.node k2 s2 ks2 .nil)) (some ⟨w3.heap.size, 0, none⟩) 2) => readsI_expr 3 ⟨#[]⟩ (.node k1 s1 ks1 (.node k2 s2 ks2 .nil)) (some ⟨w3.heap.size, 0, none⟩) 2 2 W hW (by decide) ⟨hsm, hnm, hf1, hsm2, hnm2, hf2, trivial⟩ (by decide)
          simp only [hdyn] at hdx
          simp only [hv1, Bool.true_and] at hda
          simp only [hv2, Bool.true_and] at hdb
          have hbt := fun (na : Option Addr) (nc : Nat) W (h1 : SvAt W W.heap.size na (readsE 3 ⟨#[]⟩ (.node k1 s1 ks1 (.node k2 s2 ks2 .nil))).length (readsE 3 ⟨#[]⟩ (.node k1 s1 ks1 (.node k2 s2 ks2 .nil)))) (h2 : SvAt W W.heap.size aa (readsE 3 ⟨#[]⟩ (.node k1 s1 ks1 (.node k2 s2 ks2 .nil))).length (readsE 3 ⟨#[]⟩ (.node k1 s1 ks1 (.node k2 s2 ks2 .nil)))) => beT_yes na aa _ nc ac (readsE 3 ⟨#[]⟩ (.node k1 s1 ks1 (.node k2 s2 ks2 .nil))) W h1 h2 (by unfold maxLen; omega)
          have Hdx := Lib.hid hdx
          have Hda := Lib.hid hda
          have Hdb := Lib.hid hdb
          have Hrx := Lib.hid hrx
          have Hbt := Lib.hid hbt
          clear hdx hda hdb hrx hbt hfin hdyn hv1 hv2 htake hoth hsvo hsep hul Hpl hvx Hown8 hall0 hown6 hown5 hown34 hown4 hownX hown3
          generalize readsE 3 ⟨#[]⟩ (.node k1 s1 ks1 (.node k2 s2 ks2 .nil)) = R3 at *
          generalize anyN (rd1 k1 ks1) = da at *
          generalize anyN (rd1 k2 ks2) = db at *
          clear d0 d1 d2 f0 f1 f2 hl e0 e1 e2 g0 g1 g2 hel x0 x1 x2 y0 y1 y2 hxl
          have hD := (Below.refl wr.heap.size wr).drew
          have K0 := Lib.hid (And.intro (hKX9.next hD) (And.intro (hva9.next hD) (hvb9.next hD)))
          have X0 := Lib.hid (And.intro (hbx.next hD) (And.intro (hba.next hD) (hbb.next hD)))
          have HN0 := Lib.hid (x3_nine X0.out)
          have S0 := Lib.hid (strs_below hown hD)
          have B0 := B9.trans (hD.mono B9.size)
          clear hbx hba hbb hKX9 hva9 hvb9 hown hsv hD
          cases da
          · cases db
            all_goals
              go_wp2_with fail
              go_region_held3 (fun w' => w'.cell? ⟨w3.heap.size + 1, 0, none⟩ = some (.int .i64 3) ∧ w'.cell? ⟨w3.heap.size + 1, 1, none⟩ = some (.string ⟨#[]⟩) ∧ w'.cell? ⟨w3.heap.size + 1, 2, none⟩ = some (.slice (some ⟨w3.heap.size, 0, none⟩) 2 2) ∧ w'.cell? ⟨w1.heap.size, 0, none⟩ = some (.int .i64 k1) ∧ w'.cell? ⟨w1.heap.size, 1, none⟩ = some (.string s1) ∧ w'.cell? ⟨w1.heap.size, 2, none⟩ = some (.slice a1 ks1.len c1) ∧ w'.cell? ⟨w2.heap.size, 0, none⟩ = some (.int .i64 k2) ∧ w'.cell? ⟨w2.heap.size, 1, none⟩ = some (.string s2) ∧ w'.cell? ⟨w2.heap.size, 2, none⟩ = some (.slice a2 ks2.len c2)) (first | exact HN0.out | exact HN1.out | exact HN2.out | exact HN3.out | exact HN4.out | exact HN5.out)
                ((first
                  | (go_at_call 8; refine (Hrx.out _ K0.out.1).mono ?_; rintro e v1 ⟨sv, rfl, hsv1, hC1⟩; obtain ⟨na, nc, rfl, hsn⟩ := hsv1.form; have K1 := Lib.hid (k3_next K0.out hC1); have X1 := Lib.hid (x3_next X0.out hC1); have HN1 := Lib.hid (x3_nine X1.out); have S1 := Lib.hid (strs_below S0.out hC1); have B1 := B0.trans (hC1.mono B0.size))
                  | (go_at_call 9; refine (Hbt.out na nc _ hsn S1.out.at_).mono ?_; rintro e v2 ⟨rfl, hC2⟩; have K2 := Lib.hid (k3_next K1.out hC2); have X2 := Lib.hid (x3_next X1.out hC2); have HN2 := Lib.hid (x3_nine X2.out); have B2' := B1.trans (hC2.mono B1.size))
                  | (go_at_call_of 13 (Value.agg #[.int .i64 3, .string ⟨#[]⟩, .slice (some ⟨w3.heap.size, 0, none⟩) 2 2]); refine (Hdx.out _ K2.out.1).mono ?_; rintro e v3 ⟨rfl, hC3⟩; have K3 := Lib.hid (k3_next K2.out hC3); have X3 := Lib.hid (x3_next X2.out hC3); have HN3 := Lib.hid (x3_nine X3.out); have B3' := B2'.trans (hC3.mono B2'.size))
                  | (go_at_call_of 13 (Value.agg #[.int .i64 k1, .string s1, .slice a1 ks1.len c1]); refine (Hda.out _ K3.out.2.1).mono ?_; rintro e v4 ⟨rfl, hC4⟩; have K4 := Lib.hid (k3_next K3.out hC4); have X4 := Lib.hid (x3_next X3.out hC4); have HN4 := Lib.hid (x3_nine X4.out); have BF := B3'.trans (hC4.mono B3'.size))
                  | (go_at_call_of 13 (Value.agg #[.int .i64 k2, .string s2, .slice a2 ks2.len c2]); refine (Hdb.out _ K4.out.2.2).mono ?_; rintro e v5 ⟨rfl, hC5⟩; have X5 := Lib.hid (x3_next X4.out hC5); have HN5 := Lib.hid (x3_nine X5.out); have BF := BF.trans (hC5.mono BF.size))))
            all_goals (go_wp2_with fail; go_ret; exact ⟨rfl, BF⟩)
          · cases db
            all_goals
              obtain ⟨q00, q01, q02, q03, q04, q05, q06, q07, q08⟩ := HN0.out
              go_wp2_with fail
              go_region_law (first
                  | (go_simp; go_at_call 8; refine (Hrx.out _ K0.out.1).mono ?_; rintro e v1 ⟨sv, rfl, hsv1, hC1⟩; obtain ⟨na, nc, rfl, hsn⟩ := hsv1.form; have K1 := Lib.hid (k3_next K0.out hC1); have X1 := Lib.hid (x3_next X0.out hC1); obtain ⟨q10, q11, q12, q13, q14, q15, q16, q17, q18⟩ := x3_nine X1.out; have S1 := Lib.hid (strs_below S0.out hC1); have B1 := B0.trans (hC1.mono B0.size))
                  | (go_simp; go_at_call 9; refine (Hbt.out na nc _ hsn S1.out.at_).mono ?_; rintro e v2 ⟨rfl, hC2⟩; have K2 := Lib.hid (k3_next K1.out hC2); have X2 := Lib.hid (x3_next X1.out hC2); obtain ⟨q20, q21, q22, q23, q24, q25, q26, q27, q28⟩ := x3_nine X2.out; have B2' := B1.trans (hC2.mono B1.size))
                  | (go_simp; go_at_call_of 13 (Value.agg #[.int .i64 3, .string ⟨#[]⟩, .slice (some ⟨w3.heap.size, 0, none⟩) 2 2]); refine (Hdx.out _ K2.out.1).mono ?_; rintro e v3 ⟨rfl, hC3⟩; have K3 := Lib.hid (k3_next K2.out hC3); have X3 := Lib.hid (x3_next X2.out hC3); obtain ⟨q30, q31, q32, q33, q34, q35, q36, q37, q38⟩ := x3_nine X3.out; have B3' := B2'.trans (hC3.mono B2'.size))
                  | (go_simp; go_at_call_of 13 (Value.agg #[.int .i64 k1, .string s1, .slice a1 ks1.len c1]); refine (Hda.out _ K3.out.2.1).mono ?_; rintro e v4 ⟨rfl, hC4⟩; have K4 := Lib.hid (k3_next K3.out hC4); have X4 := Lib.hid (x3_next X3.out hC4); obtain ⟨q40, q41, q42, q43, q44, q45, q46, q47, q48⟩ := x3_nine X4.out; have BF := B3'.trans (hC4.mono B3'.size))
                  | (go_simp; go_at_call_of 13 (Value.agg #[.int .i64 k2, .string s2, .slice a2 ks2.len c2]); refine (Hdb.out _ K4.out.2.2).mono ?_; rintro e v5 ⟨rfl, hC5⟩; have X5 := Lib.hid (x3_next X4.out hC5); obtain ⟨q50, q51, q52, q53, q54, q55, q56, q57, q58⟩ := x3_nine X5.out; have BF := BF.trans (hC5.mono BF.size)))
            all_goals (go_wp2_with fail; go_ret; exact ⟨rfl, BF⟩)
    · injection e9 with e91 e92 e93
      subst e91
      subst e93
      have hcl9 : ∀ j u, (R1.map Value.string)[j]? = some u → (w6.alloc (.cells #[] 9)).cell? ((⟨g9, 0, none⟩ : Addr).add j) = some u := fun j u hu => by
        rw [add_none]
        have := World.ownsRow.cells (g := g9) hown6 rfl j u hu
        rw [add_none] at this
        exact (World.cell?_alloc_lt w6 _ ⟨g9, 0 + j, none⟩ (blk_lt hg9)).trans this
      go_wp2_with (at_builtin; refine wpList_append_at rfl _ _ 27 rfl w6.heap.size 9 i0 _ 1 16 underStrs hi hz0 hzz1 hzz2 rfl (by decide) _ _ _ rfl hmade ⟨g9, 0, none⟩ R1.length rc (R1.map .string) rfl (by simp) hcl9 (by simp [Value.oneCell']) (by simp only [maxLen]; omega) (by omega) (by simp) ?_; intro v7 w7 hown7 hgrow7 hat7; have B67 : Below w6.heap.size w6 w7 := ((Below.refl w6.heap.size w6).alloc (Nat.le_refl _) (.cells #[] 9)).grown hgrow7 (by simp) (fun k hk => strs_at hmade k hk); have hown7 : OwnsS w7 w6.heap.size v7 R1 := (by rw [Nat.zero_add, List.nil_append] at hown7; exact hown7); have hvb7 := hvb6.next B67; have hba7 := hbxa6.next B67; have hbb7 := hbxb6.next B67; have hbx7 := hXb6.next B67; clear d0 d1 d2 f0 f1 f2 hl e0 e1 e2 g0 g1 g2 hel x0 x1 x2 y0 y1 y2 hxl; obtain ⟨d0, d1, d2, f0, f1, f2, hl⟩ := hba7.facts; obtain ⟨e0, e1, e2, g0, g1, g2, hel⟩ := hbb7.facts; obtain ⟨x0, x1, x2, y0, y1, y2, hxl⟩ := hbx7.facts)
      refine (readsI_expr k2 s2 ks2 a2 ks2.len c2 _ hvb7 hsm2 hf2 hnm2).mono ?_
      rw [hR2]
      rintro e w8 ⟨v8, rfl, hown8, hB8⟩
      obtain ⟨oa, oc, rfl, hsv8⟩ := hown8.form
      have B68 := B67.trans (hB8.mono B67.size)
      have hs68 := B67.size
      have hall0 : RdI w6 w7.heap.size R1 R2 (.slice oa R2.length oc) v7 (.int .i64 0) w8 := ⟨0, Nat.zero_le _, rfl, strs_below hown7 hB8, hown8, fun g hg hg2 => by have := strs_lt hown7 g hg; have := strs_at (k := R2.length) hown8 g hg2; omega, B68⟩
      have Hown8 := Lib.hid hown8
      clear hown8 hown7 hsv8
      go_wp2_with fail
      go_loopw [9, 11] (fun v i wr => RdI w6 w7.heap.size R1 R2 (.slice oa R2.length oc) v i wr) (fun _ i _ => R2.length - (intOf i).toNat)
      case atStart => exact hall0
      case round =>
        obtain ⟨j, hj, rfl, hown, hoth, hsep, hB⟩ := hrel
        obtain ⟨aa, ac, rfl, hsv⟩ := hown.form
        have hsvo := hoth.at_
        have hul := uniqN_length ((R2.take j).map some) R1
        simp only [List.length_map, List.length_take] at hul
        by_cases hlt : j < R2.length
        · obtain ⟨b9, o9, x9, rfl, hb9', hs9, hc9⟩ := hsvo.get hlt
          have hjj : (j : Int) < (R2.length : Int) := by omega
          have hj0 : (0 : Int) ≤ (j : Int) := by omega
          have htk : uniqN R1 ((R2.take (j + 1)).map some) = (if hasB (uniqN R1 ((R2.take j).map some)) x9 then uniqN R1 ((R2.take j).map some) else uniqN R1 ((R2.take j).map some) ++ [x9]) := by
            rw [List.take_add_one, hs9, List.map_append]
            exact uniqN_snoc _ _ _
          have Htk := Lib.hid htk
          have Hs9 := Lib.hid hs9
          clear htk hs9
          generalize uniqN R1 ((R2.take j).map some) = U at *
          go_wp2_with fail
          refine (beHas_any aa U.length ac U x9 _ hsv (by unfold maxLen; omega)).mono ?_
          rintro e w9 ⟨rfl, rfl⟩
          rcases Bool.eq_false_or_eq_true (hasB U x9) with hh | hh
          · rw [hh]
            have Htk2 := Lib.hid (show uniqN R1 ((R2.take (j + 1)).map some) = U by rw [Htk.out, if_pos hh])
            clear hh
            go_wp2_with fail
            exact ⟨⟨j + 1, by omega, by go_num, by rw [Htk2.out]; exact hown, hoth, hsep, hB⟩, by simp [intOf]; omega⟩
          · rw [hh]
            have Htk2 := Lib.hid (show uniqN R1 ((R2.take (j + 1)).map some) = U ++ [x9] by rw [Htk.out, if_neg (by rw [hh]; simp)])
            clear hh
            have hBs := hB.size
            have Hall := Lib.hid (And.intro hown (And.intro hoth (And.intro hsep hB)))
            clear hown hoth hsep hB hsv hsvo
            go_wp2_with (at_builtin; refine wpList_append_at rfl _ _ 27 rfl w6.heap.size 9 i0 _ 1 16 underStrs hi hz0 hzz1 hzz2 rfl (by decide) _ _ _ rfl (World.ownsRow.alloc Hall.out.1 _) ⟨_, 0, none⟩ 1 1 [.string x9] rfl rfl (fun j u hu => cell_one _ _ _ j u hu) (by simp [Value.oneCell']) (by simp only [maxLen]; omega) (by omega) (by simp; omega) ?_; intro v4 w4 hown4 hgrow4 hat4)
            obtain ⟨hown, hoth, hsep, hB⟩ := Hall.out
            have hown4' : OwnsS w4 w6.heap.size v4 (U ++ [x9]) := OwnsS.grew (by simpa using hown4)
            have hvo := strs_lt hoth
            refine ⟨⟨j + 1, by omega, by go_num, by rw [Htk2.out]; exact hown4', World.ownsRow.kept (World.ownsRow.alloc hoth _) hgrow4 (.inr fun e => ?_), fun g hg hg2 => ?_, (hB.alloc hBs _).grown hgrow4 (by simp; omega) (fun k hk => strs_at hown k hk)⟩, by simp [intOf]; omega⟩
            · exact hsep _ e.symm rfl
            · rcases hat4 with h4 | h4
              · exact hsep g (h4 ▸ hg) hg2
              · have h5 := h4 g hg
                have h6 := hvo g hg2
                simp only [World.size_alloc] at h5
                omega
        · have hjl : j = R2.length := by omega
          have htake : (R2.take j).map some = R2.map some := by rw [List.take_of_length_le (by omega)]
          have hba := hbxa6.next hB
          have hbb := hbxb6.next hB
          have hbx := hXb6.next hB
          have hva9 := hva6.next hB
          have hvb9 := hvb6.next hB
          have hKX9 := hKX6.next hB
          have hjn : ¬ (j : Int) < (R2.length : Int) := by omega
          have B9 := B6.trans (hB.mono B6.size)
          obtain ⟨hfin, hdyn, hv1, hv2⟩ := Hpl.out
          rw [htake, ← hfin] at hown hsv hul ⊢
          have hdx := fun W (hW : KA W 0 W.heap.size (.node k1 s1 ks1 (.node k2 s2 ks2 .nil)) (some ⟨w3.heap.size, 0, none⟩) 2) => dynI_expr 3 ⟨#[]⟩ (.node k1 s1 ks1 (.node k2 s2 ks2 .nil)) (some ⟨w3.heap.size, 0, none⟩) 2 2 W hW (by decide) ⟨hsm, hnm, hf1, hsm2, hnm2, hf2, trivial⟩ (by decide)
          have hda := fun W (hW : KA W 0 W.heap.size ks1 a1 ks1.len) => dynI_expr k1 s1 ks1 a1 ks1.len c1 W hW hsm hf1 hnm
          have hdb := fun W (hW : KA W 0 W.heap.size ks2 a2 ks2.len) => dynI_expr k2 s2 ks2 a2 ks2.len c2 W hW hsm2 hf2 hnm2
          have hrx := fun W (hW : KA W 0 W.heap.size (.node k1 s1 ks1 (.node k2 s2 ks2 .nil)) (some ⟨w3.heap.size, 0, none⟩) 2) => readsI_expr 3 ⟨#[]⟩ (.node k1 s1 ks1 (.node k2 s2 ks2 .nil)) (some ⟨w3.heap.size, 0, none⟩) 2 2 W hW (by decide) ⟨hsm, hnm, hf1, hsm2, hnm2, hf2, trivial⟩ (by decide)
          simp only [hdyn] at hdx
          simp only [hv1, Bool.true_and] at hda
          simp only [hv2, Bool.true_and] at hdb
          have hbt := fun (na : Option Addr) (nc : Nat) W (h1 : SvAt W W.heap.size na (readsE 3 ⟨#[]⟩ (.node k1 s1 ks1 (.node k2 s2 ks2 .nil))).length (readsE 3 ⟨#[]⟩ (.node k1 s1 ks1 (.node k2 s2 ks2 .nil)))) (h2 : SvAt W W.heap.size aa (readsE 3 ⟨#[]⟩ (.node k1 s1 ks1 (.node k2 s2 ks2 .nil))).length (readsE 3 ⟨#[]⟩ (.node k1 s1 ks1 (.node k2 s2 ks2 .nil)))) => beT_yes na aa _ nc ac (readsE 3 ⟨#[]⟩ (.node k1 s1 ks1 (.node k2 s2 ks2 .nil))) W h1 h2 (by unfold maxLen; omega)
          have Hdx := Lib.hid hdx
          have Hda := Lib.hid hda
          have Hdb := Lib.hid hdb
          have Hrx := Lib.hid hrx
          have Hbt := Lib.hid hbt
          clear hdx hda hdb hrx hbt hfin hdyn hv1 hv2 htake hoth hsvo hsep hul Hpl hvx Hown8 hall0 hown6 hown5 hown34 hown4 hownX hown3
          generalize readsE 3 ⟨#[]⟩ (.node k1 s1 ks1 (.node k2 s2 ks2 .nil)) = R3 at *
          generalize anyN (rd1 k1 ks1) = da at *
          generalize anyN (rd1 k2 ks2) = db at *
          clear d0 d1 d2 f0 f1 f2 hl e0 e1 e2 g0 g1 g2 hel x0 x1 x2 y0 y1 y2 hxl
          have hD := (Below.refl wr.heap.size wr).drew
          have K0 := Lib.hid (And.intro (hKX9.next hD) (And.intro (hva9.next hD) (hvb9.next hD)))
          have X0 := Lib.hid (And.intro (hbx.next hD) (And.intro (hba.next hD) (hbb.next hD)))
          have HN0 := Lib.hid (x3_nine X0.out)
          have S0 := Lib.hid (strs_below hown hD)
          have B0 := B9.trans (hD.mono B9.size)
          clear hbx hba hbb hKX9 hva9 hvb9 hown hsv hD
          cases da
          · cases db
            all_goals
              go_wp2_with fail
              go_region_held3 (fun w' => w'.cell? ⟨w3.heap.size + 1, 0, none⟩ = some (.int .i64 3) ∧ w'.cell? ⟨w3.heap.size + 1, 1, none⟩ = some (.string ⟨#[]⟩) ∧ w'.cell? ⟨w3.heap.size + 1, 2, none⟩ = some (.slice (some ⟨w3.heap.size, 0, none⟩) 2 2) ∧ w'.cell? ⟨w1.heap.size, 0, none⟩ = some (.int .i64 k1) ∧ w'.cell? ⟨w1.heap.size, 1, none⟩ = some (.string s1) ∧ w'.cell? ⟨w1.heap.size, 2, none⟩ = some (.slice a1 ks1.len c1) ∧ w'.cell? ⟨w2.heap.size, 0, none⟩ = some (.int .i64 k2) ∧ w'.cell? ⟨w2.heap.size, 1, none⟩ = some (.string s2) ∧ w'.cell? ⟨w2.heap.size, 2, none⟩ = some (.slice a2 ks2.len c2)) (first | exact HN0.out | exact HN1.out | exact HN2.out | exact HN3.out | exact HN4.out | exact HN5.out)
                ((first
                  | (go_at_call 8; refine (Hrx.out _ K0.out.1).mono ?_; rintro e v1 ⟨sv, rfl, hsv1, hC1⟩; obtain ⟨na, nc, rfl, hsn⟩ := hsv1.form; have K1 := Lib.hid (k3_next K0.out hC1); have X1 := Lib.hid (x3_next X0.out hC1); have HN1 := Lib.hid (x3_nine X1.out); have S1 := Lib.hid (strs_below S0.out hC1); have B1 := B0.trans (hC1.mono B0.size))
                  | (go_at_call 9; refine (Hbt.out na nc _ hsn S1.out.at_).mono ?_; rintro e v2 ⟨rfl, hC2⟩; have K2 := Lib.hid (k3_next K1.out hC2); have X2 := Lib.hid (x3_next X1.out hC2); have HN2 := Lib.hid (x3_nine X2.out); have B2' := B1.trans (hC2.mono B1.size))
                  | (go_at_call_of 13 (Value.agg #[.int .i64 3, .string ⟨#[]⟩, .slice (some ⟨w3.heap.size, 0, none⟩) 2 2]); refine (Hdx.out _ K2.out.1).mono ?_; rintro e v3 ⟨rfl, hC3⟩; have K3 := Lib.hid (k3_next K2.out hC3); have X3 := Lib.hid (x3_next X2.out hC3); have HN3 := Lib.hid (x3_nine X3.out); have B3' := B2'.trans (hC3.mono B2'.size))
                  | (go_at_call_of 13 (Value.agg #[.int .i64 k1, .string s1, .slice a1 ks1.len c1]); refine (Hda.out _ K3.out.2.1).mono ?_; rintro e v4 ⟨rfl, hC4⟩; have K4 := Lib.hid (k3_next K3.out hC4); have X4 := Lib.hid (x3_next X3.out hC4); have HN4 := Lib.hid (x3_nine X4.out); have BF := B3'.trans (hC4.mono B3'.size))
                  | (go_at_call_of 13 (Value.agg #[.int .i64 k2, .string s2, .slice a2 ks2.len c2]); refine (Hdb.out _ K4.out.2.2).mono ?_; rintro e v5 ⟨rfl, hC5⟩; have X5 := Lib.hid (x3_next X4.out hC5); have HN5 := Lib.hid (x3_nine X5.out); have BF := BF.trans (hC5.mono BF.size))))
            all_goals (go_wp2_with fail; go_ret; exact ⟨rfl, BF⟩)
          · cases db
            all_goals
              obtain ⟨q00, q01, q02, q03, q04, q05, q06, q07, q08⟩ := HN0.out
              go_wp2_with fail
              go_region_law (first
                  | (go_simp; go_at_call 8; refine (Hrx.out _ K0.out.1).mono ?_; rintro e v1 ⟨sv, rfl, hsv1, hC1⟩; obtain ⟨na, nc, rfl, hsn⟩ := hsv1.form; have K1 := Lib.hid (k3_next K0.out hC1); have X1 := Lib.hid (x3_next X0.out hC1); obtain ⟨q10, q11, q12, q13, q14, q15, q16, q17, q18⟩ := x3_nine X1.out; have S1 := Lib.hid (strs_below S0.out hC1); have B1 := B0.trans (hC1.mono B0.size))
                  | (go_simp; go_at_call 9; refine (Hbt.out na nc _ hsn S1.out.at_).mono ?_; rintro e v2 ⟨rfl, hC2⟩; have K2 := Lib.hid (k3_next K1.out hC2); have X2 := Lib.hid (x3_next X1.out hC2); obtain ⟨q20, q21, q22, q23, q24, q25, q26, q27, q28⟩ := x3_nine X2.out; have B2' := B1.trans (hC2.mono B1.size))
                  | (go_simp; go_at_call_of 13 (Value.agg #[.int .i64 3, .string ⟨#[]⟩, .slice (some ⟨w3.heap.size, 0, none⟩) 2 2]); refine (Hdx.out _ K2.out.1).mono ?_; rintro e v3 ⟨rfl, hC3⟩; have K3 := Lib.hid (k3_next K2.out hC3); have X3 := Lib.hid (x3_next X2.out hC3); obtain ⟨q30, q31, q32, q33, q34, q35, q36, q37, q38⟩ := x3_nine X3.out; have B3' := B2'.trans (hC3.mono B2'.size))
                  | (go_simp; go_at_call_of 13 (Value.agg #[.int .i64 k1, .string s1, .slice a1 ks1.len c1]); refine (Hda.out _ K3.out.2.1).mono ?_; rintro e v4 ⟨rfl, hC4⟩; have K4 := Lib.hid (k3_next K3.out hC4); have X4 := Lib.hid (x3_next X3.out hC4); obtain ⟨q40, q41, q42, q43, q44, q45, q46, q47, q48⟩ := x3_nine X4.out; have BF := B3'.trans (hC4.mono B3'.size))
                  | (go_simp; go_at_call_of 13 (Value.agg #[.int .i64 k2, .string s2, .slice a2 ks2.len c2]); refine (Hdb.out _ K4.out.2.2).mono ?_; rintro e v5 ⟨rfl, hC5⟩; have X5 := Lib.hid (x3_next X4.out hC5); obtain ⟨q50, q51, q52, q53, q54, q55, q56, q57, q58⟩ := x3_nine X5.out; have BF := BF.trans (hC5.mono BF.size)))
            all_goals (go_wp2_with fail; go_ret; exact ⟨rfl, BF⟩)
end Go.Proofs.Ytbcghkdjhicocaa
