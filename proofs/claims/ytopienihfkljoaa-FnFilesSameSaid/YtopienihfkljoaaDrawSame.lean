/-
  DrawFilesSame, and the law FnFilesSame, walked.
-/
import Derived.Test.YtopienihfkljoaaMutF
import Derived.Test.YtopienihfkljoaaWalkSame
import Derived.Test.YtopienihfkljoaaRow
namespace Go.Proofs.Ytopienihfkljoaa
open Go.RowKit

/-- what DrawFilesSame leaves: two readable lists -/
def TwoPost (w : World) (e : Ending) (w' : World) : Prop :=
  ∃ a c fs b d gs, e = .returned (.tuple #[.slice a (List.length fs) c, .slice b (List.length gs) d]) ∧ FilesAt w' w'.heap.size a (List.length fs) fs ∧ FilesAt w' w'.heap.size b (List.length gs) gs ∧
    Short 100 fs ∧ Short 100 gs ∧ List.length fs ≤ 10 ∧ List.length gs ≤ 10 ∧ Below w.heap.size w w'

set_option maxHeartbeats 1000000 in
theorem drawSame_any (a : Option Addr) (n c : Nat) (w : World) (hb : BytesAt w w.heap.size a n) (hn : n ≤ c) (hc : c ≤ maxLen) :
    Calls Try.prog 11 #[.slice a n c] w fun e w' => TwoPost w e w' := by
  go_enter Try.func11, Try.ntmps11
  go_wp2_with fail
  refine (open_any a n c w hb hn hc).mono ?_
  rintro e w1 ⟨R, n', c', rfl, hle, hr, hB⟩
  go_wp2_with fail
  refine (files_any hr (by omega)).mono ?_
  rintro e w2 ⟨a2, c2, fs, q2, rfl, hf2, hs2, hl2, hst2⟩
  have hq2 := hst2.hi
  go_wp2_with fail
  refine (pick_step (m := 2) hst2.rd (by omega) (by omega)).mono ?_
  rintro e w3 ⟨⟨x, rfl, _, _⟩, hst3⟩
  have hf3 := hf2.step hst2.rd hst3
  have hst := hst2.trans hst3
  have hq3 := hst.hi
  clear hst2 hst3 hf2
  by_cases h0 : x = 0
  · subst h0
    go_wp2_with fail
    refine (files_any hst.rd (by omega)).mono ?_
    rintro e w4 ⟨a4, c4, gs, q4, rfl, hf4, hs4, hl4, hst4⟩
    have hf3' := hf3.step hst.rd hst4
    go_wp2_with fail
    go_ret2
    exact ⟨_, _, fs, _, _, gs, rfl, hf3', hf4, hs2.more (by omega), hs4.more (by omega), by omega, by omega, hB.trans ((hst.trans hst4).toBelow hle hB.size)⟩
  · have hx : ((x : Int) == 0) = false := by rw [beq_eq_false_iff_ne]; omega
    go_wp2_with fail
    refine (mutate_any a2 c2 5 fs hst.rd (by omega) hf3 (hs2.more (by omega)) hl2 (by omega)).mono ?_
    rintro e w4 ⟨a4, c4, gs, q4, rfl, hf4, hs4, hl4, hst4⟩
    have hf3' := hf3.step hst.rd hst4
    have hq4 := hst4.hi
    go_wp2_with fail
    refine (mutate_any a4 c4 6 gs hst4.rd (by omega) hf4 hs4 hl4 (by omega)).mono ?_
    rintro e w5 ⟨a5, c5, hs, q5, rfl, hf5, hs5, hl5, hst5⟩
    have hf3'' := hf3'.step hst4.rd hst5
    have hq5 := hst5.hi
    go_wp2_with fail
    refine (mutate_any a5 c5 7 hs hst5.rd (by omega) hf5 hs5 hl5 (by omega)).mono ?_
    rintro e w6 ⟨a6, c6, ks, q6, rfl, hf6, hs6, hl6, hst6⟩
    have hf3''' := hf3''.step hst5.rd hst6
    go_wp2_with fail
    go_ret2
    exact ⟨_, _, fs, _, _, ks, rfl, hf3''', hf6, hs2.more (by omega), hs6, by omega, by omega, hB.trans ((((hst.trans hst4).trans hst5).trans hst6).toBelow hle hB.size)⟩

set_option maxHeartbeats 1000000 in
theorem walkFnFilesSame (a : Option Addr) (len cap : Nat) (zs : List Int) (w : World) (h : IsRow .u8 w a len cap zs) :
    Calls Try.prog 4 #[.slice a len cap] w fun e w' => e = .returned (.bool true) ∧ Below w.heap.size w w' := by
  obtain ⟨hb, hn, hc⟩ := row_bytes h
  have hc' := hc
  unfold maxLen at hc
  by_cases hlong : 1048576 < len
  · go_enter Try.func4, Try.ntmps4
    go_wp2_with fail
    go_ret
    exact ⟨rfl, Below.refl _ _⟩
  go_enter Try.func4, Try.ntmps4
  go_wp2_with fail
  refine (drawSame_any a len cap w hb hn hc').mono ?_
  rintro e w1 ⟨a1, c1, fs, b1, d1, gs, rfl, hf, hg, hs1, hs2, hl1, hl2, hB⟩
  have hm1 : fs.length ≤ maxLen := by unfold maxLen; omega
  have hm2 : gs.length ≤ maxLen := by unfold maxLen; omega
  go_wp2_with fail
  refine (sameI_any a1 b1 _ c1 _ d1 fs gs w1 hf hg hm1 hm2).mono ?_
  rintro e w2 ⟨rfl, hB2⟩
  have hf := (hf.below hB2).more hB2.size
  have hg := (hg.below hB2).more hB2.size
  have B2 := hB.trans (hB2.mono hB.size)
  go_wp2_with fail
  refine (sameS_any a1 b1 _ c1 _ d1 fs gs w2 hf hg hm1 hm2).mono ?_
  rintro e w3 ⟨rfl, hB3⟩
  have hf := (hf.below hB3).more hB3.size
  have hg := (hg.below hB3).more hB3.size
  have B3 := B2.trans (hB3.mono B2.size)
  have hsym : decide (gs = fs) = decide (fs = gs) := by congr 1; exact propext ⟨Eq.symm, Eq.symm⟩
  have Hsym := Lib.hid hsym
  clear hsym
  go_wp2_with fail
  refine (sameI_any b1 a1 _ d1 _ c1 gs fs w3 hg hf hm2 hm1).mono ?_
  rintro e w4 ⟨rfl, hB4⟩
  rw [Hsym.out]
  have hf := (hf.below hB4).more hB4.size
  have B4 := B3.trans (hB4.mono B3.size)
  go_wp2_with fail
  refine (sameI_any a1 a1 _ c1 _ c1 fs fs w4 hf hf hm1 hm1).mono ?_
  rintro e w5 ⟨rfl, hB5⟩
  have B5 := B4.trans (hB5.mono B4.size)
  go_wp2_with fail
  go_ret
  exact ⟨rfl, B5⟩
end Go.Proofs.Ytopienihfkljoaa
