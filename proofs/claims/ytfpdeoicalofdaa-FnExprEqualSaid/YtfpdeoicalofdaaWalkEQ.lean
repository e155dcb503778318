/-
  The law FnExprEqual, walked.
-/
import Derived.Test.YtfpdeoicalofdaaEqW
import Derived.Test.YtfpdeoicalofdaaEqS
import Derived.Test.YtfpdeoicalofdaaEqB
import Derived.Test.YtfpdeoicalofdaaEqT
import Derived.Test.YtfpdeoicalofdaaFmt3
import Derived.Test.YtfpdeoicalofdaaDrawE5
import Derived.Test.YtfpdeoicalofdaaRow
import Derived.Deep.RegionHeld3
import Derived.Deep.DeepCutAuto
namespace Go.Proofs.Ytfpdeoicalofdaa
set_option linter.unusedVariables false
set_option linter.unusedSimpArgs false
open Go.RowKit

/-- two drawn expressions in their boxes -/
def PrE (V : World) (g g' : Nat) (k : Int) (s : ByteArray) (ks : Fo) (a : Option Addr) (c : Nat) (k' : Int) (s' : ByteArray) (ls : Fo) (b : Option Addr) (d : Nat) : Prop := ExC V g k s ks a ks.len c 25 ∧ ExC V g' k' s' ls b ls.len d 25
theorem PrE.next {V V' : World} {g g' : Nat} {k k' : Int} {s s' : ByteArray} {ks ls : Fo} {a b : Option Addr} {c d : Nat} (h : PrE V g g' k s ks a c k' s' ls b d) (hB : Below V.heap.size V V') : PrE V' g g' k s ks a c k' s' ls b d := ⟨h.1.next hB, h.2.next hB⟩

set_option maxRecDepth 100000 in
set_option maxHeartbeats 4000000 in
theorem walkFnExprEqual (a : Option Addr) (len cap : Nat) (zs : List Int) (w : World) (h : IsRow .u8 w a len cap zs) :
    Calls Try.prog 3 #[.slice a len cap] w fun e w' => e = .returned (.bool true) ∧ Below w.heap.size w w' := by
  obtain ⟨hb, hn, hc⟩ := row_bytes h
  have hc' := Lib.hid hc
  unfold maxLen at hc
  by_cases hlong : 1048576 < len
  · go_enter Try.func3, Try.ntmps3
    go_wp2_with fail
    go_ret
    exact ⟨rfl, Below.refl _ _⟩
  go_enter Try.func3, Try.ntmps3
  go_wp2_with fail
  refine (drawExprEqual_any a len cap w hb hn hc'.out).mono ?_
  rintro e w1 ⟨k, s, ks, a1, c1, k', s', ls, b1, d1, rfl, ⟨hk, hc1, hs, hf, hz⟩, ⟨hl, hd1, hs', hf', hz'⟩, hB1⟩
  have hsl := Fo.size_len ks
  have hsl' := Fo.size_len ls
  have hsm : s.size ≤ maxLen := by unfold maxLen; omega
  have hsm' : s'.size ≤ maxLen := by unfold maxLen; omega
  have hlm : ks.len ≤ maxLen := by unfold maxLen; omega
  have hlm' : ls.len ≤ maxLen := by unfold maxLen; omega
  have Hs := Lib.hid (And.intro hf (And.intro hsm hlm))
  have Hs' := Lib.hid (And.intro hf' (And.intro hsm' hlm'))
  have hA := (Below.refl w1.heap.size w1).alloc (Nat.le_refl _) (.cells #[.int .i64 k, .string s, .slice a1 ks.len c1] 25)
  have hAB := hA.alloc (by simp) (.cells #[.int .i64 k', .string s', .slice b1 ls.len d1] 25)
  have hBA := (Below.refl (w1.alloc (.cells #[.int .i64 k, .string s, .slice a1 ks.len c1] 25)).heap.size (w1.alloc (.cells #[.int .i64 k, .string s, .slice a1 ks.len c1] 25))).alloc (Nat.le_refl _) (.cells #[.int .i64 k', .string s', .slice b1 ls.len d1] 25)
  have X1 : ExC ((w1.alloc (.cells #[.int .i64 k, .string s, .slice a1 ks.len c1] 25)).alloc (.cells #[.int .i64 k', .string s', .slice b1 ls.len d1] 25)) w1.heap.size k s ks a1 ks.len c1 25 := ⟨⟨(BxE.new w1 k s (.slice a1 ks.len c1) 25).next hBA, (hk.1.below hAB).more (Nat.zero_le _) hAB.size⟩, hk.rd.keep fun b hb => hAB.block b hb⟩
  have hbx2 := BxE.new (w1.alloc (.cells #[.int .i64 k, .string s, .slice a1 ks.len c1] 25)) k' s' (.slice b1 ls.len d1) 25
  rw [World.size_alloc] at hbx2
  have X2 : ExC ((w1.alloc (.cells #[.int .i64 k, .string s, .slice a1 ks.len c1] 25)).alloc (.cells #[.int .i64 k', .string s', .slice b1 ls.len d1] 25)) (w1.heap.size + 1) k' s' ls b1 ls.len d1 25 := ⟨⟨hbx2, (hl.1.below hAB).more (Nat.zero_le _) hAB.size⟩, hl.rd.keep fun b hb => hAB.block b hb⟩
  have P1 := Lib.hid (show PrE ((w1.alloc (.cells #[.int .i64 k, .string s, .slice a1 ks.len c1] 25)).alloc (.cells #[.int .i64 k', .string s', .slice b1 ls.len d1] 25)) w1.heap.size (w1.heap.size + 1) k s ks a1 c1 k' s' ls b1 d1 from ⟨X1, X2⟩)
  have B1 := hB1.trans (hAB.mono hB1.size)
  obtain ⟨r, hr⟩ : ∃ r : Bool, (r = true ↔ k = k' ∧ s = s' ∧ ks = ls) := by
    by_cases h : k = k' ∧ s = s' ∧ ks = ls
    · exact ⟨true, by simp [h]⟩
    · exact ⟨false, by simp [h]⟩
  have Hr := Lib.hid hr
  have Hr' := Lib.hid (show r = true ↔ k' = k ∧ s' = s ∧ ls = ks from hr.trans ⟨fun h => ⟨h.1.symm, h.2.1.symm, h.2.2.symm⟩, fun h => ⟨h.1.symm, h.2.1.symm, h.2.2.symm⟩⟩)
  obtain ⟨Z1, hZ1⟩ : ∃ z, fmtE k s ks = z := ⟨_, rfl⟩
  obtain ⟨Z2, hZ2⟩ : ∃ z, fmtE k' s' ls = z := ⟨_, rfl⟩
  have hlaw := fmtE_law hr
  rw [hZ1, hZ2] at hlaw
  have Hl := Lib.hid hlaw
  have HZ := Lib.hid (And.intro hZ1 hZ2)
  have hg1 := Lib.hid hc1
  have hg2 := Lib.hid hd1
  have hz1 := Lib.hid (show ks.size ≤ 1048576 by omega)
  have hz2 := Lib.hid (show ls.size ≤ 1048576 by omega)
  clear hb hn hc hc' h hr hlaw hZ1 hZ2 X1 X2 hbx2 hk hl hf hf' hsm hsm' hlm hlm' hA hBA hAB hB1 hs hs' hz hz' hsl hsl' hc1 hd1
  go_upto_region 4 with (fail)
  generalize hv1 : ((w1.alloc (.cells #[.int .i64 k, .string s, .slice a1 ks.len c1] 25)).alloc (.cells #[.int .i64 k', .string s', .slice b1 ls.len d1] 25)) = v1 at *
  clear hv1
  obtain ⟨c0, c1', c2⟩ := P1.out.1.1.three
  obtain ⟨d0, d1', d2⟩ := P1.out.2.1.three
  go_wp2_with fail
  refine (eqI_any r k k' s s' ks ls Hr.out _ _ _ _ _ _ v1 P1.out.1.2 P1.out.2.2 hg1.out hg2.out hz1.out ⟨Hs.out.2.1, Hs.out.2.2, Hs'.out.2.2⟩).mono ?_
  rintro e w2 ⟨rfl, hB2⟩
  have P2 := Lib.hid (P1.out.next hB2)
  have B2 := B1.trans (hB2.mono B1.size)
  clear c0 c1' c2 d0 d1' d2 hB2
  obtain ⟨c0, c1', c2⟩ := P2.out.1.1.three
  obtain ⟨d0, d1', d2⟩ := P2.out.2.1.three
  have hrr : (r != r) = false := by simp
  go_wp2_with fail
  refine (eqSp_any ks k k' s s' ls _ _ _ _ _ _ w2 r P2.out.1.1.2 P2.out.2.1.2 Hs.out.1 Hs'.out.1 Hs.out.2.2 Hs'.out.2.2 Hr.out).mono ?_
  rintro e w3 ⟨rfl, hB3⟩
  have P3 := Lib.hid (P2.out.next hB3)
  have B3 := B2.trans (hB3.mono B2.size)
  clear c0 c1' c2 d0 d1' d2 hB3
  obtain ⟨c0, c1', c2⟩ := P3.out.1.1.three
  obtain ⟨d0, d1', d2⟩ := P3.out.2.1.three
  go_wp2_with fail
  refine (eqI_any r k' k s' s ls ks Hr'.out _ _ _ _ _ _ w3 P3.out.2.2 P3.out.1.2 hg2.out hg1.out hz2.out ⟨Hs'.out.2.1, Hs'.out.2.2, Hs.out.2.2⟩).mono ?_
  rintro e w4 ⟨rfl, hB4⟩
  have P4 := Lib.hid (P3.out.next hB4)
  have B4 := B3.trans (hB4.mono B3.size)
  clear c0 c1' c2 d0 d1' d2 hB4
  obtain ⟨c0, c1', c2⟩ := P4.out.1.1.three
  obtain ⟨d0, d1', d2⟩ := P4.out.2.1.three
  go_wp2_with fail
  refine (eqI_any true k k s s ks ks (by simp) _ _ _ _ _ _ w4 P4.out.1.2 P4.out.1.2 hg1.out hg1.out hz1.out ⟨Hs.out.2.1, Hs.out.2.2, Hs.out.2.2⟩).mono ?_
  rintro e w5 ⟨rfl, hB5⟩
  have P5 := Lib.hid (P4.out.next hB5)
  have B5 := B4.trans (hB5.mono B4.size)
  clear c0 c1' c2 d0 d1' d2 hB5
  obtain ⟨c0, c1', c2⟩ := P5.out.1.1.three
  obtain ⟨d0, d1', d2⟩ := P5.out.2.1.three
  go_wp2_with fail
  refine (formatI_expr k s ks _ _ _ _ P5.out.1.1.2 Hs.out.2.1 Hs.out.1 Hs.out.2.2).mono ?_
  rintro e w6 ⟨rfl, hB6⟩
  have P6 := Lib.hid (P5.out.next hB6)
  have B6 := B5.trans (hB6.mono B5.size)
  clear c0 c1' c2 d0 d1' d2 hB6
  obtain ⟨c0, c1', c2⟩ := P6.out.1.1.three
  obtain ⟨d0, d1', d2⟩ := P6.out.2.1.three
  rw [HZ.out.1]
  go_wp2_with fail
  refine (formatI_expr k' s' ls _ _ _ _ P6.out.2.1.2 Hs'.out.2.1 Hs'.out.1 Hs'.out.2.2).mono ?_
  rintro e w7 ⟨rfl, hB7⟩
  have P7 := Lib.hid (P6.out.next hB7)
  have B7 := B6.trans (hB7.mono B6.size)
  clear c0 c1' c2 d0 d1' d2 hB7
  obtain ⟨c0, c1', c2⟩ := P7.out.1.1.three
  obtain ⟨d0, d1', d2⟩ := P7.out.2.1.three
  rw [HZ.out.2]
  clear c0 c1' c2 d0 d1' d2 hrr
  have HV : (Z1.toList.isEmpty || Z2.toList.isEmpty || r == (Z1.toList == Z2.toList)) = true := by
    rcases Hl.out with h | h | h
    · rw [h, show ByteArray.empty.toList = [] from by rw [Lib.toList_data]; rfl]; rfl
    · rw [h, show ByteArray.empty.toList = [] from by rw [Lib.toList_data]; rfl]; simp
    · rw [h, sEq]; simp
  go_wp2_with fail
  all_goals
    refine bodyPost_ret (v := .bool true) (by simp [results, Try.results3, go_sem, HV, *]) rfl ?_
    exact ⟨rfl, B7⟩
end Go.Proofs.Ytfpdeoicalofdaa
