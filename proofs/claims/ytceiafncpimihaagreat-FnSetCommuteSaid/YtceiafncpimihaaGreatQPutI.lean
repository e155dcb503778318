/-
  What PutFile and RemoveFile answer, of the program and of the model.
-/
import Derived.Test.YtceiafncpimihaaGreatGtwo
import Derived.Test.YtceiafncpimihaaGreatQFValid
import Derived.Test.YtceiafncpimihaaGreatGone
namespace Go.Proofs.YtceiafncpimihaaGreat
set_option linter.unusedVariables false
open Go.RowKit Go.Maps

def putR (f : Fl) (fs : List Fl) : List Fl × Bool := if validB fs = true ∧ validB (putF f fs) = true then (putF f fs, true) else ([], false)
def delR (x : ByteArray) (fs : List Fl) : List Fl × Bool := if validB fs = true ∧ hasF fs x = true then (delU x fs, true) else ([], false)
theorem putR_bad {f : Fl} {fs : List Fl} (h : validB fs = false) : putR f fs = ([], false) := by unfold putR; rw [if_neg (by simp [h])]
theorem putR_not {f : Fl} {fs : List Fl} (h : validB (putF f fs) = false) : putR f fs = ([], false) := by unfold putR; rw [if_neg (by simp [h])]
theorem putR_fine {f : Fl} {fs : List Fl} (h : validB fs = true) (h2 : validB (putF f fs) = true) : putR f fs = (putF f fs, true) := by unfold putR; rw [if_pos ⟨h, h2⟩]
theorem delR_bad {x : ByteArray} {fs : List Fl} (h : validB fs = false) : delR x fs = ([], false) := by unfold delR; rw [if_neg (by simp [h])]
theorem delR_not {x : ByteArray} {fs : List Fl} (h : hasF fs x = false) : delR x fs = ([], false) := by unfold delR; rw [if_neg (by simp [h])]
theorem delR_fine {x : ByteArray} {fs : List Fl} (h : validB fs = true) (h2 : hasF fs x = true) : delR x fs = (delU x fs, true) := by unfold delR; rw [if_pos ⟨h, h2⟩]
theorem hasF_find (fs : List Fl) (x : ByteArray) : (findF fs x).2 = hasF fs x := by
  rcases findF_cases fs x with ⟨t, hm, hf⟩ | ⟨hn, hf⟩
  · rw [hf]; symm; unfold hasF; rw [List.any_eq_true]; exact ⟨_, hm, by simp⟩
  · rw [hf]; symm; unfold hasF; rw [List.any_eq_false]; exact fun g hg => by simpa using hn g hg

theorem fits_put {p t : ByteArray} {fs : List Fl} (h : Fits fs) (hp : p.size ≤ maxLen) (ht : t.size ≤ maxLen) : Fits (putF (p, t) fs) := fun y hy => by
  rcases putF_mem hy with rfl | hy
  · exact ⟨hp, ht⟩
  · exact h y hy
set_option maxHeartbeats 1000000 in
theorem putI_any (a : Option Addr) (n c : Nat) (fs : List Fl) (p t : ByteArray) (w : World) (hf : FilesAt w w.heap.size a n fs) (hs : Fits fs) (hn : n ≤ maxLen) (hp : p.size ≤ maxLen) (ht : t.size ≤ maxLen) :
    Calls Tryz.prog 33 #[.slice a n c, .agg #[.string p, .string t]] w (ListB (putR (p, t) fs) w) := by
  have Hn := Lib.hid hn
  have Hp := Lib.hid hp
  have Ht := Lib.hid ht
  clear hn hp ht
  have hb0 : Below w.heap.size w (w.alloc (.cells #[.string p, .string t] 28)) := (Below.refl _ _).alloc (Nat.le_refl _) _
  cases hv : validB fs with
  | false =>
    have Hv := Lib.hid hv; clear hv
    go_enter Tryz.func33, Tryz.ntmps33
    go_wp2_with (go_at_call 40; refine (validI_any a n c fs _ (hf.in1 _) hs Hn.out).mono ?_; rintro e w1 ⟨rfl, hB1⟩; rw [Hv.out])
    go_ret2
    exact ListB.none (putR_bad Hv.out) (hb0.trans (hB1.mono (by simp)))
  | true =>
    have Hv := Lib.hid hv; clear hv
    have hl12 := valid_length Hv.out
    have hlen := Lib.hid hf.1
    have hn12 : n ≤ 12 := by have := hlen.out; omega
    have hasc := valid_asc Hv.out
    go_enter Tryz.func33, Tryz.ntmps33
    go_wp2_with (go_at_call 40; refine (validI_any a n c fs _ (hf.in1 _) hs Hn.out).mono ?_; rintro e w1 ⟨rfl, hB1⟩; rw [Hv.out])
    have B1 := hb0.trans (hB1.mono (by simp))
    have hs1 : w.heap.size < w1.heap.size := by have := hB1.size; simp at this; omega
    refine (mnew_any a n c fs _ ((hf.below B1).more B1.size) hs (by omega) hasc.once).mono ?_
    rintro e w2 ⟨b, rfl, hb1, hM2, hB2⟩
    have B2 := B1.trans (hB2.mono B1.size)
    have hF : ∀ i, w2.cell? ⟨w.heap.size, i, none⟩ = (#[Value.string p, .string t] : Array Value)[i]? := fun i =>
      (hB2.cell (p := ⟨w.heap.size, i, none⟩) hs1).trans ((hB1.cell (p := ⟨w.heap.size, i, none⟩) (by simp)).trans (cell_of_row _ _ _ _ _ _ (heap_alloc_new w _)))
    have hF0 : w2.cell? ⟨w.heap.size, 0, none⟩ = some (.string p) := hF 0
    have hF1 : w2.cell? ⟨w.heap.size, 1, none⟩ = some (.string t) := hF 1
    clear hF
    go_wp2_with fail
    refine (mput_any b n fs p t _ hM2 (by omega) Hp.out Ht.out).mono ?_
    rintro e w3 ⟨rfl, hM3, hg3⟩
    have B3 := B2.grown hg3 B2.size (fun j hj => by cases hj; omega)
    clear hF0 hF1 hg3
    go_wp2_with fail
    refine (mfiles_any b (n + 1) (putU (p, t) fs) _ hM3 (by omega)).mono ?_
    rintro e w4 ⟨v, rfl, hO4, hB4⟩
    have B4 := B3.trans (hB4.mono B3.size)
    rw [srtF_put hasc (List.Perm.refl _)] at hO4
    obtain ⟨a4, c4, rfl, hf4⟩ := hO4.form
    have hO4' := own_lower hO4 B3.size
    go_wp2_with fail
    refine (validI_any a4 _ c4 (putF (p, t) fs) _ hf4 (fits_put hs Hp.out Ht.out) (by have := (putF_len (f := (p, t)) hasc).2; simp only [maxLen]; omega)).mono ?_
    rintro e w5 ⟨rfl, hB5⟩
    have B5 := B4.trans (hB5.mono B4.size)
    have hO5 := own_raise hO4' hB5
    clear hf4 hO4 hO4'
    cases hv2 : validB (putF (p, t) fs) with
    | false =>
      have Hv2 := Lib.hid hv2; clear hv2
      go_wp2_with fail
      go_ret2
      exact ListB.none (putR_not Hv2.out) B5
    | true =>
      have Hv2 := Lib.hid hv2; clear hv2
      have Hr := Lib.hid (putR_fine Hv.out Hv2.out)
      go_wp2_with fail
      go_ret2
      exact ListB.some Hr.out hO5 B5

set_option maxHeartbeats 1000000 in
theorem delI_any (a : Option Addr) (n c : Nat) (fs : List Fl) (x : ByteArray) (w : World) (hf : FilesAt w w.heap.size a n fs) (hs : Fits fs) (hn : n ≤ maxLen) (hx : x.size ≤ maxLen) :
    Calls Tryz.prog 44 #[.slice a n c, .string x] w (ListB (delR x fs) w) := by
  have Hn := Lib.hid hn
  have Hx := Lib.hid hx
  clear hn hx
  cases hv : validB fs with
  | false =>
    have Hv := Lib.hid hv; clear hv
    go_enter Tryz.func44, Tryz.ntmps44
    go_wp2_with (go_at_call 40; refine (validI_any a n c fs _ hf hs Hn.out).mono ?_; rintro e w1 ⟨rfl, hB1⟩; rw [Hv.out])
    go_ret2
    exact ListB.none (delR_bad Hv.out) hB1
  | true =>
    have Hv := Lib.hid hv; clear hv
    have hl12 := valid_length Hv.out
    have hlen := Lib.hid hf.1
    have hn12 : n ≤ 12 := by have := hlen.out; omega
    have hasc := valid_asc Hv.out
    go_enter Tryz.func44, Tryz.ntmps44
    go_wp2_with (go_at_call 40; refine (validI_any a n c fs _ hf hs Hn.out).mono ?_; rintro e w1 ⟨rfl, hB1⟩; rw [Hv.out])
    refine (mnew_any a n c fs _ ((hf.below hB1).more hB1.size) hs (by omega) hasc.once).mono ?_
    rintro e w2 ⟨b, rfl, hb1, hM2, hB2⟩
    have hs1 := hB1.size
    have B2 := hB1.trans (hB2.mono hB1.size)
    go_wp2_with fail
    refine (mremove_any b n fs x _ hM2 Hx.out).mono ?_
    rintro e w3 ⟨rfl, hM3, hg3⟩
    have B3 := B2.grown hg3 B2.size (fun j hj => by cases hj; omega)
    clear hg3
    cases hh : hasF fs x with
    | false =>
      have Hh := Lib.hid hh; clear hh
      go_wp2_with fail
      go_ret2
      exact ListB.none (delR_not Hh.out) B3
    | true =>
      have Hh := Lib.hid hh; clear hh
      go_wp2_with fail
      refine (mfiles_any b n (delU x fs) _ hM3 (by omega)).mono ?_
      rintro e w4 ⟨v, rfl, hO4, hB4⟩
      have B4 := B3.trans (hB4.mono B3.size)
      rw [srtF_del hasc (List.Perm.refl _)] at hO4
      have hO4' := own_lower hO4 B3.size
      go_wp2_with fail
      go_ret2
      exact ListB.some (delR_fine Hv.out Hh.out) hO4' B4

theorem delU_take {x p t : ByteArray} {fs : List Fl} {k : Nat} (h : fs[k]? = some (p, t)) : delU x (fs.take (k + 1)) = delU x (fs.take k) ++ if p = x then [] else [(p, t)] := by
  rw [List.take_add_one, h]
  unfold delU
  rw [List.filter_append]
  by_cases hp : p = x <;> simp [hp]
theorem delU_len (x : ByteArray) (fs : List Fl) (k : Nat) : (delU x (fs.take k)).length ≤ k := Nat.le_trans (List.length_filter_le _ _) (List.length_take_le _ _)

set_option maxHeartbeats 1000000 in
theorem delS_any (a : Option Addr) (n c : Nat) (fs : List Fl) (x : ByteArray) (w : World) (hf : FilesAt w w.heap.size a n fs) (hs : Fits fs) (hn : n ≤ 1048576) :
    Calls Tryz.prog 45 #[.slice a n c, .string x] w (ListB (delR x fs) w) := by
  have Hn := Lib.hid (show n ≤ maxLen by simp only [maxLen]; omega)
  have hlen := Lib.hid hf.1
  have hfx := Lib.hid (hasF_find fs x)
  obtain ⟨i0, hi, hz0, hz1, hz2⟩ := info_parts fput_info
  cases hv : validB fs with
  | false =>
    have Hv := Lib.hid hv; clear hv
    go_enter Tryz.func45, Tryz.ntmps45
    go_wp2_with (first
      | (go_at_call 60; refine (findS0_any a n c fs x _ hf Hn.out).mono ?_; rintro e w1 ⟨rfl, hB1⟩; rw [hfx.out])
      | (go_at_call 65; refine (validS_any a n c fs _ ((hf.below hB1).more hB1.size) hs Hn.out).mono ?_; rintro e w2 ⟨rfl, hB2⟩; rw [Hv.out]))
    go_ret2
    have B2 := hB1.trans (hB2.mono hB1.size)
    exact ListB.empty (delR_bad Hv.out) (World.ownsRow_made _ _ _ B2.size (by simp [maxLen]) rfl) (B2.alloc B2.size _)
  | true =>
    have Hv := Lib.hid hv; clear hv
    cases hh : hasF fs x with
    | false =>
      have Hh := Lib.hid hh; clear hh
      go_enter Tryz.func45, Tryz.ntmps45
      go_wp2_with (first
        | (go_at_call 60; refine (findS0_any a n c fs x _ hf Hn.out).mono ?_; rintro e w1 ⟨rfl, hB1⟩; rw [hfx.out, Hh.out])
        | (go_at_call 65; refine (validS_any a n c fs _ ((hf.below hB1).more hB1.size) hs Hn.out).mono ?_; rintro e w2 ⟨rfl, hB2⟩; rw [Hv.out]))
      go_ret2
      have B2 := hB1.trans (hB2.mono hB1.size)
      exact ListB.empty (delR_not Hh.out) (World.ownsRow_made _ _ _ B2.size (by simp [maxLen]) rfl) (B2.alloc B2.size _)
    | true =>
      have Hh := Lib.hid hh; clear hh
      go_enter Tryz.func45, Tryz.ntmps45
      go_wp2_with (first
        | (go_at_call 60; refine (findS0_any a n c fs x _ hf Hn.out).mono ?_; rintro e w1 ⟨rfl, hB1⟩; rw [hfx.out, Hh.out])
        | (go_at_call 65; refine (validS_any a n c fs _ ((hf.below hB1).more hB1.size) hs Hn.out).mono ?_; rintro e w2 ⟨rfl, hB2⟩; rw [Hv.out]))
      have B2 := hB1.trans (hB2.mono hB1.size)
      go_loopw [8, 9] (fun v i wr => ∃ k : Nat, k ≤ n ∧ i = .int .i64 k ∧ OwnsF wr w.heap.size v (delU x (fs.take k)) ∧ Below w.heap.size w wr) (fun _ i _ => n - (intOf i).toNat)
      case atStart => exact ⟨0, Nat.zero_le _, rfl, World.ownsRow_made _ _ _ B2.size (by simp [maxLen]) rfl, B2.alloc B2.size _⟩
      case round =>
        obtain ⟨k, hk, rfl, hown, hB⟩ := hrel
        have Hown := Lib.hid hown; clear hown
        by_cases hlt : k < n
        · obtain ⟨b, off, p, t, rfl, hb, hg, hc1, hc2⟩ := (hf.below hB).get hlt
          have hst := Lib.hid (delU_take (x := x) hg)
          have hln := delU_len x fs k
          have hbs := hB.size
          clear hg
          by_cases hpx : p = x
          · subst hpx
            have hd : (p.toList == p.toList) = true := by simp
            go_wp2_with fail
            exact ⟨⟨k + 1, by omega, by go_num, by rw [hst.out]; simpa using Hown.out, hB⟩, by simp [intOf]; omega⟩
          · have hd : (p.toList == x.toList) = false := by rw [sEq]; simpa using hpx
            have Hpx := Lib.hid hpx; clear hpx
            go_wp2_with (at_builtin; refine wpList_append_own _ rfl _ _ 23 rfl w.heap.size 28 i0 _ 2 32 Tryz.underlying23 hi hz0 hz1 hz2 rfl (by decide) _ _ _ rfl (World.ownsRow.alloc Hown.out _) ⟨wr.heap.size, 0, none⟩ 1 1 [.string p, .string t] rfl rfl (two_new _ _ _ _) (by simp [Value.oneCell']) (by simp only [maxLen]; omega) (by omega) (by simp; omega) ?_; intro v2 w2 hown2 hgrow _)
            exact ⟨⟨k + 1, by omega, by go_num, by rw [hst.out, if_neg Hpx.out]; exact OwnsF.grew hown2, (hB.alloc hbs _).grown hgrow (by simp; omega) (own_at Hown.out)⟩, by simp [intOf]; omega⟩
        · have e : k = n := by omega
          have Hl : Hid (delU x (fs.take k) = delU x fs) := Lib.hid (by rw [List.take_of_length_le (by have := hlen.out; omega)])
          clear e
          go_wp2_with fail
          go_ret2
          exact ListB.some (delR_fine Hv.out Hh.out) (by rw [← Hl.out]; exact Hown.out) hB
end Go.Proofs.YtceiafncpimihaaGreat
