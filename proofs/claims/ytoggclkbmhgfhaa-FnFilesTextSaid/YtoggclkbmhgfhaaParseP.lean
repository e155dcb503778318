/-
  What the model's ParseFiles answers.
-/
import Derived.Test.YtoggclkbmhgfhaaParseS
namespace Go.Proofs.Ytoggclkbmhgfhaa
set_option linter.unusedVariables false
open Go.RowKit

theorem flat_len {l : List UInt8} : ∀ {ls : List (List UInt8)}, l ∈ ls → l.length ≤ (flat ls).length
  | k :: ls, h => by
    rw [flat_cons]
    rcases List.mem_cons.1 h with rfl | h
    · simp
    · have := flat_len h
      simp only [List.length_append, List.length_cons]
      omega
theorem line_size {s : ByteArray} {ls : List (List UInt8)} {z l : List UInt8} (h : flat ls ++ z = s.data.toList) (hl : l ∈ ls) : l.length ≤ s.size := by
  have h1 := flat_len hl
  have h2 := congrArg List.length h
  rw [List.length_append, size_list] at h2
  omega
theorem partB_len (l : List UInt8) : (partB l).1.length ≤ l.length ∧ (partB l).2.length ≤ l.length := by
  unfold partB
  split
  · refine ⟨List.Sublist.length_le (List.takeWhile_sublist _), ?_⟩
    have := List.Sublist.length_le (List.dropWhile_sublist (l := l) (fun b => b != 32))
    simp only [List.length_drop]
    omega
  · simp
theorem files_fit {s : ByteArray} {ls : List (List UInt8)} {z : List UInt8} (h : flat ls ++ z = s.data.toList) (hs : s.size ≤ 1048576) : Fits (ls.map fileOf) := fun f hf => by
  obtain ⟨l, hl, rfl⟩ := List.mem_map.1 hf
  have h1 := line_size h hl
  have h2 := partB_len l
  simp only [maxLen, fileOf, ByteArray.size, List.size_toArray]
  omega
theorem take_file {ls : List (List UInt8)} {k : Nat} {l : List UInt8} (h : ls[k]? = some l) : (ls.map fileOf).take (k + 1) = (ls.map fileOf).take k ++ [fileOf l] := by
  rw [List.take_add_one, List.getElem?_map, h]
  rfl

set_option maxRecDepth 100000 in
set_option maxHeartbeats 2000000 in
theorem parseS_any (s : ByteArray) (w : World) (hs : s.size ≤ 1048576) :
    Calls Try.prog 13 #[.string s] w (ListB (parseR s.data.toList) w) := by
  obtain ⟨i0, hi, hz0, hz1, hz2⟩ := info_parts fput_info
  go_enter Try.func13, Try.ntmps13
  go_wp2_with fail
  refine (lines_any s _ hs).mono ?_
  rintro e w1 ⟨v, ls, z, rfl, hown, hcl, hzc, hfl, hll, hB1⟩
  obtain ⟨g, cap, rfl, hg1, hg2⟩ := World.ownsRow.form hown (by simp)
  have hln : (ls ++ [z]).length = ls.length + 1 := by simp
  have hcells : ∀ k l, ls[k]? = some l → w1.cell? ⟨g, k, none⟩ = some (.string ⟨l.toArray⟩) := fun k l hk => by
    have hkl : k < ls.length := (List.getElem?_eq_some_iff.1 hk).1
    refine (World.ownsRow.cellAt hown k (by rw [hln]; omega)).trans ?_
    rw [List.getElem?_map, List.getElem?_append_left hkl, hk]
    rfl
  have Hcells := Lib.hid hcells
  have Hcl := Lib.hid hcl
  have Hzc := Lib.hid hzc
  have Hfl := Lib.hid hfl
  have hlen : ((ls ++ [z]).length : Int) = (ls.length : Int) + 1 := by rw [hln]; omega
  rw [hln]
  clear hcells hcl hzc hfl hown hln hlen
  by_cases h13 : 12 < ls.length
  · have Hbad := Lib.hid (spec_long Hfl.out Hcl.out Hzc.out h13)
    go_wp2_with fail
    go_ret2
    exact ListB.empty Hbad.out (World.ownsRow_made _ _ _ hB1.size (by simp [maxLen]) rfl) (hB1.alloc hB1.size _)
  · go_wp2_with fail
    go_loopw [5, 6] (fun v2 i wr => ∃ k : Nat, k ≤ ls.length ∧ i = .int .i64 k ∧ OwnsF wr w1.heap.size v2 ((ls.map fileOf).take k) ∧ Below w1.heap.size w1 wr) (fun _ i _ => ls.length - (intOf i).toNat)
    case atStart => exact ⟨0, Nat.zero_le _, rfl, World.ownsRow_made _ _ _ (Nat.le_refl _) (by simp [maxLen]) rfl, (Below.refl _ _).alloc (Nat.le_refl _) _⟩
    case round =>
      obtain ⟨k, hk, rfl, hown, hB⟩ := hrel
      have Hown := Lib.hid hown
      have hbs := hB.size
      clear hown
      by_cases hlt : k < ls.length
      · have hgt : ls[k]? = some ls[k] := List.getElem?_eq_getElem hlt
        have hsz : ls[k].length ≤ s.size := line_size Hfl.out (List.getElem_mem _)
        have Htk := Lib.hid (take_file hgt)
        have hc : wr.cell? ⟨g, k, none⟩ = some (.string ⟨ls[k].toArray⟩) := (hB.cell (p := ⟨g, k, none⟩) hg2).trans (Hcells.out k _ hgt)
        generalize ls[k] = l at *
        clear hgt
        have hlt2 : (k : Int) + 1 < (ls.length : Int) + 1 := by omega
        go_wp2_with fail
        refine (split_any ⟨l.toArray⟩ _ (by show l.length ≤ _; simp only [maxLen]; omega)).mono ?_
        rintro e w2 ⟨b, rfl, hB2⟩
        have Hown2 := Lib.hid (own_raise Hown.out hB2)
        have B2 := hB.trans (hB2.mono hB.size)
        have hbs2 := B2.size
        have hln2 : (List.take k (List.map fileOf ls)).length ≤ k := List.length_take_le _ _
        go_wp2_with (at_builtin; refine wpList_append_own _ rfl _ _ 23 rfl w1.heap.size 38 i0 _ 2 32 Try.underlying23 hi hz0 hz1 hz2 rfl (by decide) _ _ _ rfl (World.ownsRow.alloc Hown2.out _) ⟨w2.heap.size, 0, none⟩ 1 1 [.string ⟨(partB l).1.toArray⟩, .string ⟨(partB l).2.toArray⟩] rfl rfl (two_new _ _ _ _) (by simp [Value.oneCell']) (by simp only [maxLen]; omega) (by omega) (by simp; omega) ?_; intro v3 w3 hown3 hgrow _)
        have hown4 := OwnsF.grew hown3
        exact ⟨⟨k + 1, by omega, by go_num, by rw [Htk.out]; exact hown4, (B2.alloc hbs2 _).grown hgrow (by simp; omega) (own_at Hown2.out)⟩, by simp [intOf]; omega⟩
      · have e : k = ls.length := by omega
        have hown2 := Hown.out
        rw [e, List.take_of_length_le (by simp)] at hown2
        obtain ⟨av, cv, rfl, hfv⟩ := hown2.form
        have Hown2 := Lib.hid (own_lower hown2 hB1.size)
        have hgl : (ls.map fileOf).length ≤ 12 := by rw [List.length_map]; omega
        have hfit := files_fit Hfl.out hs
        have HW := Lib.hid (hB1.trans (hB.mono hB1.size))
        have Hbad := Lib.hid (spec_bad Hfl.out Hcl.out Hzc.out)
        clear e hown2
        clear Hown
        generalize ls.map fileOf = gs at *
        go_wp2_with fail
        refine (formatS_any av _ cv gs _ hfv hfit (by simp only [maxLen]; omega)).mono ?_
        rintro e w2 ⟨rfl, hB2⟩
        have B2 := HW.out.trans (hB2.mono HW.out.size)
        have Hown3 := Lib.hid (own_raise Hown2.out hB2)
        by_cases ht : fmtS gs = s
        · have hd : ((fmtS gs).toList == s.toList) = true := by rw [sEq]; simpa using ht
          have Ht := Lib.hid (show (fmtS gs).data.toList = s.data.toList by rw [ht])
          clear ht
          go_wp2_with fail
          refine (validS_any av _ cv gs _ ((hfv.below hB2).more hB2.size) hfit (by simp only [maxLen]; omega)).mono ?_
          rintro e w3 ⟨rfl, hB3⟩
          have B3 := B2.trans (hB3.mono B2.size)
          have Hown4 := Lib.hid (own_raise Hown3.out hB3)
          cases hv : validB gs with
          | false =>
            have Hv := Lib.hid hv; clear hv
            go_wp2_with fail
            go_ret2
            exact ListB.empty (Hbad.out (fun h => by rw [Hv.out] at h; exact nomatch h.2)) (World.ownsRow_made _ _ _ B3.size (by simp [maxLen]) rfl) (B3.alloc B3.size _)
          | true =>
            have Hv := Lib.hid hv; clear hv
            go_wp2_with fail
            go_ret2
            exact ListB.some (spec_fine Ht.out Hv.out) Hown4.out B3
        · have hd : ((fmtS gs).toList == s.toList) = false := by rw [sEq]; simpa using ht
          have Ht := Lib.hid (show ¬ (fmtS gs).data.toList = s.data.toList from fun h => ht (bytes_ext h))
          clear ht
          go_wp2_with fail
          go_ret2
          exact ListB.empty (Hbad.out (fun h => Ht.out h.1)) (World.ownsRow_made _ _ _ B2.size (by simp [maxLen]) rfl) (B2.alloc B2.size _)
end Go.Proofs.Ytoggclkbmhgfhaa
