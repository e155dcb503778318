/-
  DrawChangedFiles: what it leaves.
-/
import Derived.Test.YtollcckdfehdeaaMutF
import Derived.RegionTactic
namespace Go.Proofs.Ytollcckdfehdeaa
set_option linter.unusedVariables false
open Go.RowKit

/-- what DrawChangedFiles leaves: two rows of its own -/
def ChgDraw (w : World) (e : Ending) (w' : World) : Prop :=
  ∃ a c fs b d gs, e = .returned (.tuple #[.slice a (List.length fs) c, .slice b (List.length gs) d]) ∧ OwnsF w' w.heap.size (.slice a (List.length fs) c) fs ∧ OwnsF w' w.heap.size (.slice b (List.length gs) d) gs ∧ Short 100 fs ∧ Short 100 gs ∧ List.length fs ≤ 10 ∧ List.length gs ≤ 10 ∧ Below w.heap.size w w'

set_option maxHeartbeats 4000000 in
theorem drawChg_any (a : Option Addr) (n c : Nat) (w : World) (hb : BytesAt w w.heap.size a n) (hn : n ≤ c) (hc : c ≤ maxLen) :
    Calls Try.prog 5 #[.slice a n c] w (ChgDraw w) := by
  obtain ⟨i0, hi, hz0, hzz1, hzz2⟩ := info_parts fput_info
  go_enter Try.func5, Try.ntmps5
  go_wp2_with fail
  refine (open_any a n c w hb hn hc).mono ?_
  rintro e w1 ⟨R, n', c', rfl, hle, hr, hB⟩
  have hR := hr.lt
  go_wp2_with fail
  refine (files_any hr (by omega)).mono ?_
  rintro e w2 ⟨a2, c2, fs, q2, rfl, hf2, hs2, hl2, hst2⟩
  have hq2 := hst2.hi
  have hg2 := hst2.grown.size
  have hmade := World.ownsRow_made (w := w2) (base := w2.heap.size) (e := 49) (size := 2) #[] 0 (Nat.le_refl _) (by unfold maxLen; omega) rfl
  cases a2 with
  | none =>
    have h0 : fs.length = 0 := by
      rcases Nat.eq_zero_or_pos fs.length with h0 | h0
      · exact h0
      · obtain ⟨_, _, e, _⟩ := hf2.2 h0; cases e
    obtain rfl : fs = [] := List.eq_nil_of_length_eq_zero h0
    have hst3 := hst2.alloc (.cells #[] 49)
    have hfn : ∀ (w : World) (B : Nat) (b : Option Addr), FilesAt w B b 0 [] := fun w B b => ⟨rfl, fun hn => absurd hn (by simp)⟩
    have hf3 := hfn (w2.alloc (.cells #[] 49)) (w2.alloc (.cells #[] 49)).heap.size none
    have hfo := hfn (w2.alloc (.cells #[] 49)) (w2.alloc (.cells #[] 49)).heap.size (some ⟨w2.heap.size, 0, none⟩)
    clear hmade hst2 hf2 hg2
    go_wp2_with fail
    refine (pick_step (m := 3) hst3.rd (by have := hst3.hi; omega) (by omega)).mono ?_
    rintro e w4 ⟨⟨x, rfl, hx, _⟩, hst4⟩
    have hx3 := hx (by omega)
    have hf4 := hf3.step hst3.rd hst4
    have hg4 := hfo.step hst3.rd hst4
    have hst04 := hst3.trans hst4
    clear hst3 hst4 hx hf3 hfo
    go_wp2_with fail
    go_loopw [6, 7] (fun o i wr => ∃ (j : Nat) (b : Option Addr) (d : Nat) (gs : List Fl) (q : Nat), i = .int .i64 j ∧ o = .slice b gs.length d ∧ FilesAt wr wr.heap.size b gs.length gs ∧ FilesAt wr wr.heap.size none (List.length ([] : List Fl)) [] ∧ Short 10 gs ∧ gs.length + j ≤ 7 ∧ j ≤ 2 ∧ Step w1 wr w.heap.size R a n' c' 0 q (21 + 2 * (2 - j))) (fun _ i _ => (intOf i).toNat)
    case atStart => exact ⟨x, _, _, [], _, rfl, rfl, hg4, hf4, hs2, by simp; omega, by omega, hst04.more (by omega)⟩
    case round =>
      obtain ⟨j, b, d, gs, q, rfl, rfl, hg, hf, hsh, hlj, hj2, hst⟩ := hrel
      have hq := hst.hi
      by_cases hj : 0 < j
      · go_wp2_with fail
        refine (path_any hst.rd (by omega)).mono ?_
        rintro e w5 ⟨s1, q5, rfl, hs1, hst5⟩
        have hq5 := hst5.hi
        have hf5 := hf.step hst.rd hst5
        have hg5 := hg.step hst.rd hst5
        go_wp2_with fail
        refine (text_any hst5.rd (by omega)).mono ?_
        rintro e w6 ⟨s2, q6, rfl, hs2', hst6⟩
        have hf6 := hf5.step hst5.rd hst6
        have hg6 := hg5.step hst5.rd hst6
        go_wp2_with fail
        refine (put_any b gs.length d gs s1 s2 w6 hg6 (by omega)).mono ?_
        rintro e w7 ⟨v, rfl, hown, hB7⟩
        obtain ⟨b7, d7, rfl, hg7⟩ := hown.form
        have hf7 := (hf6.below hB7).more hB7.size
        have hst7 := ((hst.trans hst5).trans hst6).below hB7
        have hln := putF_length (s1, s2) gs
        have hsh7 := hsh.put (f := (s1, s2)) ⟨hs1, hs2'⟩
        clear hown hf hf5 hf6 hg hg5 hg6
        obtain ⟨j, rfl⟩ : ∃ i, j = i + 1 := ⟨j - 1, by omega⟩
        go_wp2_with fail
        go_roundw
        case rel =>
          have hlj' : (putF (s1, s2) gs).length + j ≤ 7 := by omega
          have hj' : j ≤ 2 := by omega
          have hst' := hst7.more (l := 21 + 2 * (2 - j)) (by omega)
          refine ⟨j, b7, d7, putF (s1, s2) gs, q6, by go_num, rfl, hg7, hf7, hsh7, hlj', hj', hst'⟩
        case measure => simp [intOf]
      · go_wp2_with fail
        refine (mutate_own none c2 5 [] hst.rd (by omega) hf (hs2.more (by omega)) (by simp) (by omega)).mono ?_
        rintro e w8 ⟨a8, c8, fs8, q8, rfl, hown8, hs8, hl8, hst8⟩
        have hg8 := hg.step hst.rd hst8
        have hst08 := hst.trans hst8
        have hq8 := hst8.hi
        go_wp2_with fail
        refine (mutate_own b d 7 gs hst8.rd (by omega) hg8 (hsh.more (by omega)) (by omega) (by omega)).mono ?_
        rintro e w9 ⟨a9, c9, gs9, q9, rfl, hown9, hs9, hl9, hst9⟩
        have hw1 := hst.grown.size
        have hw8 := hst8.grown.size
        have hRl := hst.lt
        have hown8' := row_step hown8 (by omega) hst9
        have hB9 := (hst08.trans hst9).toBelow hle hB.size
        have hwB := hB.size
        go_wp2_with fail
        go_ret2
        exact ⟨a8, c8, fs8, a9, c9, gs9, rfl, own_lower hown8' (by omega), own_lower hown9 (by omega), hs8, hs9, by omega, by omega, hB.trans hB9⟩
  | some ad =>
    have hnews : ∀ (o : Obj) (j : Nat) (u : Value), (fcells fs)[j]? = some u → (w2.alloc o).cell? (ad.add j) = some u := by
      intro o j u hu
      have h0 : 0 < fs.length := by
        have := (List.getElem?_eq_some_iff.1 hu).1
        rw [fcells_length] at this
        omega
      obtain ⟨g, off, e, hg, hc⟩ := hf2.2 h0
      cases e
      rw [add_none]
      exact (World.cell?_alloc_lt w2 o ⟨g, off + j, none⟩ hg).trans (hc j u hu)
    have Hlc := Lib.hid (fcells_length fs)
    go_wp2_with (at_builtin; refine wpList_append_own _ rfl _ _ 23 rfl w2.heap.size 49 i0 _ 2 32 Try.underlying23 hi hz0 hzz1 hzz2 rfl (by decide) _ _ _ rfl hmade ad fs.length c2 (fcells fs) rfl Hlc.out (hnews _) (fcells_oneCell fs) (by simp only [maxLen]; omega) (by omega) (by simp) ?_; intro v3 w3 hown3 hgrow3 _; rw [Nat.zero_add, List.nil_append] at hown3; obtain ⟨b3, d3, rfl, hfo⟩ := OwnsF.form (fs := fs) hown3; have hB3 := ((Below.refl w2.heap.size w2).alloc (Nat.le_refl _) _).grown hgrow3 (by simp) (fun k hk => own_at hmade k hk); clear hgrow3 hnews)
    have hst3 := hst2.below hB3
    have hf3 := (hf2.below hB3).more hB3.size
    clear hmade hst2 hf2
    refine (pick_step (m := 3) hst3.rd (by have := hst3.hi; omega) (by omega)).mono ?_
    rintro e w4 ⟨⟨x, rfl, hx, _⟩, hst4⟩
    have hx3 := hx (by omega)
    have hf4 := hf3.step hst3.rd hst4
    have hg4 := hfo.step hst3.rd hst4
    have hst04 := hst3.trans hst4
    clear hst3 hst4 hx hf3 hfo
    go_wp2_with fail
    go_loopw [6, 7] (fun o i wr => ∃ (j : Nat) (b : Option Addr) (d : Nat) (gs : List Fl) (q : Nat), i = .int .i64 j ∧ o = .slice b gs.length d ∧ FilesAt wr wr.heap.size b gs.length gs ∧ FilesAt wr wr.heap.size (some ad) (List.length fs) fs ∧ Short 10 gs ∧ gs.length + j ≤ 7 ∧ j ≤ 2 ∧ Step w1 wr w.heap.size R a n' c' 0 q (21 + 2 * (2 - j))) (fun _ i _ => (intOf i).toNat)
    case atStart => exact ⟨x, _, _, fs, _, rfl, rfl, hg4, hf4, hs2, by omega, by omega, hst04.more (by omega)⟩
    case round =>
      obtain ⟨j, b, d, gs, q, rfl, rfl, hg, hf, hsh, hlj, hj2, hst⟩ := hrel
      have hq := hst.hi
      by_cases hj : 0 < j
      · go_wp2_with fail
        refine (path_any hst.rd (by omega)).mono ?_
        rintro e w5 ⟨s1, q5, rfl, hs1, hst5⟩
        have hq5 := hst5.hi
        have hf5 := hf.step hst.rd hst5
        have hg5 := hg.step hst.rd hst5
        go_wp2_with fail
        refine (text_any hst5.rd (by omega)).mono ?_
        rintro e w6 ⟨s2, q6, rfl, hs2', hst6⟩
        have hf6 := hf5.step hst5.rd hst6
        have hg6 := hg5.step hst5.rd hst6
        go_wp2_with fail
        refine (put_any b gs.length d gs s1 s2 w6 hg6 (by omega)).mono ?_
        rintro e w7 ⟨v, rfl, hown, hB7⟩
        obtain ⟨b7, d7, rfl, hg7⟩ := hown.form
        have hf7 := (hf6.below hB7).more hB7.size
        have hst7 := ((hst.trans hst5).trans hst6).below hB7
        have hln := putF_length (s1, s2) gs
        have hsh7 := hsh.put (f := (s1, s2)) ⟨hs1, hs2'⟩
        clear hown hf hf5 hf6 hg hg5 hg6
        obtain ⟨j, rfl⟩ : ∃ i, j = i + 1 := ⟨j - 1, by omega⟩
        go_wp2_with fail
        go_roundw
        case rel =>
          have hlj' : (putF (s1, s2) gs).length + j ≤ 7 := by omega
          have hj' : j ≤ 2 := by omega
          have hst' := hst7.more (l := 21 + 2 * (2 - j)) (by omega)
          refine ⟨j, b7, d7, putF (s1, s2) gs, q6, by go_num, rfl, hg7, hf7, hsh7, hlj', hj', hst'⟩
        case measure => simp [intOf]
      · go_wp2_with fail
        refine (mutate_own (some ad) c2 5 fs hst.rd (by omega) hf (hs2.more (by omega)) (by omega) (by omega)).mono ?_
        rintro e w8 ⟨a8, c8, fs8, q8, rfl, hown8, hs8, hl8, hst8⟩
        have hg8 := hg.step hst.rd hst8
        have hst08 := hst.trans hst8
        have hq8 := hst8.hi
        go_wp2_with fail
        refine (mutate_own b d 7 gs hst8.rd (by omega) hg8 (hsh.more (by omega)) (by omega) (by omega)).mono ?_
        rintro e w9 ⟨a9, c9, gs9, q9, rfl, hown9, hs9, hl9, hst9⟩
        have hw1 := hst.grown.size
        have hw8 := hst8.grown.size
        have hRl := hst.lt
        have hown8' := row_step hown8 (by omega) hst9
        have hB9 := (hst08.trans hst9).toBelow hle hB.size
        have hwB := hB.size
        go_wp2_with fail
        go_ret2
        exact ⟨a8, c8, fs8, a9, c9, gs9, rfl, own_lower hown8' (by omega), own_lower hown9 (by omega), hs8, hs9, by omega, by omega, hB.trans hB9⟩
end Go.Proofs.Ytollcckdfehdeaa
