/-
  The program's ProjectPaths.
-/
import Derived.Test.YtahdpocaldhamaaGreatQPpM
import Derived.Test.YtahdpocaldhamaaGreatQOwnS
import Derived.Test.YtahdpocaldhamaaGreatQPrI
import Derived.Test.YtahdpocaldhamaaGreatGone
import Derived.Test.YtahdpocaldhamaaGreatQIter
import Derived.Sort.OwnSorted
namespace Go.Proofs.YtahdpocaldhamaaGreat
set_option linter.unusedVariables false
set_option linter.unusedSimpArgs false
open Go.RowKit Go.Sort

theorem enc_map (ss : List ByteArray) : (ss.map fun s => s.data.toList).map encStr = ss.map .string := by
  rw [List.map_map]
  refine List.map_congr_left fun s _ => ?_
  show encStr s.data.toList = .string s
  simp [encStr]
/-- slices.Sort on a list of strings of one's own -/
theorem sort_any (v : Value) (base : Nat) (ss ts : List ByteArray) (w : World) (ho : OwnsS w base v ss) (hs : ss.length ≤ 1000) (ht : (ss.map fun s => s.data.toList).mergeSort (fun x y => decide (x ≤ y)) = ts.map fun s => s.data.toList) :
    Calls Tryz.prog 35 #[v] w fun e w' => e = .returned (.tuple #[]) ∧ OwnsS w' base v ts ∧ w.grownBy w' v.ownBlock := by
  have hlen : ts.length = ss.length := by
    have := congrArg List.length ht
    simpa using this.symm
  rcases ho.2 with ⟨rfl, h0⟩ | ⟨g, cap, cur, rfl, hb, hg, h1, h2, h3, h4⟩
  · have hss : ss = [] := List.eq_nil_of_length_eq_zero h0
    have hts : ts = [] := List.eq_nil_of_length_eq_zero (by omega)
    subst hss
    subst hts
    refine (AnyM.slices_Sort_string_none lySort none 0 w).mono ?_
    rintro e w' ⟨rfl, rfl⟩
    exact ⟨rfl, ho, World.grownBy.refl _ _⟩
  · rw [← enc_map] at h4
    have hH : Holds encStr w g 0 (ss.map fun s => s.data.toList).toArray := holds_of_block hg (by simpa using h4)
    have hc := AnyM.slices_Sort_string lySort g 0 cap (ss.map fun s => s.data.toList) w hH (blk_lt hg) (by simp; omega)
    rw [List.length_map, ht] at hc
    refine hc.mono ?_
    rintro e w' ⟨rfl, n, os, rfl⟩
    refine ⟨rfl, ?_, grownBy_sorted _⟩
    have hr := ownsRow_sorted (n := n) (os := os) (base := base) (ss := ss.map fun s => s.data.toList) (ts := ts.map fun s => s.data.toList) (by simp [hlen]) hb hg (by simpa using h1) h2 h3
    rw [enc_map] at hr
    unfold OwnsS
    rw [hlen]
    simpa using hr
set_option maxRecDepth 100000 in
set_option maxHeartbeats 1000000 in
theorem pathsI_any (a1 a2 : Option Addr) (n1 n2 c1 c2 : Nat) (fs : List Fl) (rs : List Ru) (w : World) (hf : FilesAt w w.heap.size a1 n1 fs) (hr : RuAt w 0 w.heap.size rs a2 n2) (hs : Fits fs) (hrf : RuFits rs) (hn1 : n1 ≤ maxLen) (hn2 : n2 ≤ maxLen) :
    Calls Tryz.prog 11 #[.agg #[.slice a1 n1 c1, .slice a2 n2 c2]] w fun e w' => ∃ v, e = .returned v ∧ OwnsS w' w.heap.size v (pathsP fs rs) ∧ Below w.heap.size w w' := by
  obtain ⟨i0, hi, hz0, hz1, hz2⟩ := info_parts infoStr
  have hB0 := (Below.refl w.heap.size w).alloc (Nat.le_refl _) (.cells #[.slice a1 n1 c1, .slice a2 n2 c2] 26)
  have hP0 := BxP.new w (.slice a1 n1 c1) (.slice a2 n2 c2) 26
  go_enter Tryz.func11, Tryz.ntmps11
  go_wp2_with fail
  refine (projI_any a1 a2 n1 n2 c1 c2 fs rs _ ((hf.below hB0).more hB0.size) (hr.next hB0) hs hrf hn1 hn2).mono ?_
  rintro e w1 ⟨rfl, hB1⟩
  have B1 := hB0.trans (hB1.mono hB0.size)
  have hP1 := hP0.next hB1
  have hs1 := hB1.size
  simp only [World.size_alloc] at hs1
  obtain ⟨p0, p1, pf0, pf1, hpl⟩ := hP1.facts
  rcases Bool.eq_false_or_eq_true (projB fs rs) with hv | hv
  case inr =>
    rw [hv]
    go_wp2_with fail
    go_ret
    exact ⟨_, rfl, by rw [show pathsP fs rs = [] from by unfold pathsP; rw [hv]; rfl]; exact World.ownsRow_nil _ _ _ _, B1⟩
  rw [hv]
  obtain ⟨hfl, hrl, _, _⟩ := proj_sizes hv
  have hfn := hf.1
  have hrn := hr.1
  have Hv := Lib.hid hv
  clear hv hP0
  go_wp2_with fail
  go_loopw [3, 14] (fun v i wr => ∃ j : Nat, j ≤ n1 ∧ i = .int .i64 j ∧ OwnsS wr w1.heap.size v ((fs.take j).map (·.1)) ∧ Below w1.heap.size w1 wr) (fun _ i _ => n1 - (intOf i).toNat)
  case atStart => exact ⟨0, Nat.zero_le _, rfl, World.ownsRow_nil _ _ _ _, Below.refl _ _⟩
  case round =>
    obtain ⟨j, hj, rfl, hown, hB⟩ := hrel
    have Bw := B1.trans (hB.mono B1.size)
    have hsw := hB.size
    have hlen : ((fs.take j).map (·.1)).length = j := by simp; omega
    by_cases hlt : j < n1
    · obtain ⟨b, off, p, t, rfl, hb, hg, hc1, hc2⟩ := (hf.below Bw).get hlt
      have hjj : (j : Int) < (n1 : Int) := by omega
      have hj0 : (0 : Int) ≤ (j : Int) := by omega
      have Hst := Lib.hid (show (fs.take (j + 1)).map (·.1) = (fs.take j).map (·.1) ++ [p] from by rw [List.take_add_one, hg]; simp)
      have Hown := Lib.hid hown
      clear hown hg p0 p1 pf0 pf1 hpl
      go_wp2_with (at_builtin; refine wpList_append_own _ rfl _ _ 33 rfl w1.heap.size 9 i0 _ 1 16 underStrs hi hz0 hz1 hz2 rfl (by decide) _ _ _ rfl ((World.ownsRow.alloc (World.ownsRow.alloc Hown.out _)) _) ⟨wr.heap.size + 1, 0, none⟩ 1 1 [.string p] rfl rfl ?_ (by simp [Value.oneCell']) (by simp only [maxLen]; omega) (by omega) (by simp; omega) ?_; rotate_left; intro v2 w2 hown2 hgrow _)
      have hB3 := ((hB.alloc hsw (.cells #[.string p, .string t] 64)).alloc (by simp; omega) (.cells #[.string p] 9)).grown hgrow (by simp; omega) (strs_at Hown.out)
      exact ⟨⟨j + 1, by omega, by go_num, by rw [Hst.out]; exact OwnsS.grew hown2, hB3⟩, by simp [intOf]; omega⟩
    · have hjn : ¬ (j : Int) < (n1 : Int) := by omega
      have hall : (fs.take j).map (·.1) = fs.map (·.1) := by rw [List.take_of_length_le (by omega)]
      rw [hall] at hown
      have hP2 : BxP wr w.heap.size (.slice a1 n1 c1) (.slice a2 n2 c2) 26 := (hB.block w.heap.size (by omega)).trans hP1
      obtain ⟨q0, q1, qf0, qf1, hql⟩ := hP2.facts
      have Hown := Lib.hid hown
      clear hown hall hlen p0 p1 pf0 pf1 hpl
      go_wp2_with fail
      go_loopw [3, 27] (fun v i wr => ∃ j : Nat, j ≤ n2 ∧ i = .int .i64 j ∧ OwnsS wr w1.heap.size v (fs.map (·.1) ++ (rs.take j).map (·.1)) ∧ Below w1.heap.size w1 wr) (fun _ i _ => n2 - (intOf i).toNat)
      case atStart => exact ⟨0, Nat.zero_le _, rfl, by simpa using Hown.out, hB⟩
      case round =>
        obtain ⟨i, hi2, rfl, hown, hB⟩ := hrel
        have Bw := B1.trans (hB.mono B1.size)
        have hsw := hB.size
        have hlen : (fs.map (·.1) ++ (rs.take i).map (·.1)).length = n1 + i := by simp; omega
        clear q0 q1 qf0 qf1 hql Hown
        by_cases hlt : i < n2
        · obtain ⟨b, off, t, k, s, ks, a', n', c', rfl, _, hb, hg, hc0, hc1, hc2, hc3, hcap, hks⟩ := (hr.next Bw).get hlt
          have hii : (i : Int) < (n2 : Int) := by omega
          have hi0 : (0 : Int) ≤ (i : Int) := by omega
          have Hst := Lib.hid (show (rs.take (i + 1)).map (·.1) = (rs.take i).map (·.1) ++ [t] from by rw [List.take_add_one, hg]; simp)
          have Hown := Lib.hid hown
          clear hown hg
          go_wp2_with (at_builtin; refine wpList_append_own _ rfl _ _ 33 rfl w1.heap.size 9 i0 _ 1 16 underStrs hi hz0 hz1 hz2 rfl (by decide) _ _ _ rfl ((World.ownsRow.alloc (World.ownsRow.alloc Hown.out _)) _) ⟨wr.heap.size + 1, 0, none⟩ 1 1 [.string t] rfl rfl ?_ (by simp [Value.oneCell']) (by simp only [maxLen]; omega) (by omega) (by simp; omega) ?_; rotate_left; intro v2 w2 hown2 hgrow _)
          have hB3 := ((hB.alloc hsw (.cells #[.string t, .int .i64 k, .string s, .slice a' n' c'] 57)).alloc (by simp; omega) (.cells #[.string t] 9)).grown hgrow (by simp; omega) (strs_at Hown.out)
          exact ⟨⟨i + 1, by omega, by go_num, by rw [Hst.out, ← List.append_assoc]; exact OwnsS.grew hown2, hB3⟩, by simp [intOf]; omega⟩
        · have hin : ¬ (i : Int) < (n2 : Int) := by omega
          have hall : (rs.take i).map (·.1) = rs.map (·.1) := by rw [List.take_of_length_le (by omega)]
          rw [hall] at hown hlen
          have Hown := Lib.hid hown
          clear hown hall
          go_wp2_with fail
          refine (sort_any _ w1.heap.size _ (pathsP fs rs) wr Hown.out (by omega) (by unfold pathsP; rw [if_pos Hv.out]; exact mg_sort (proj_leF Hv.out) (proj_leR Hv.out))).mono ?_
          rintro e w3 ⟨rfl, hown3, hg3⟩
          have hB3 := hB.grown hg3 hsw (strs_at Hown.out)
          have B3 := B1.trans (hB3.mono B1.size)
          have Hown3 := Lib.hid hown3
          clear hown3 hg3
          go_wp2_with fail
          go_ret
          exact ⟨_, rfl, World.ownsRow.mono Hown3.out (by omega), B3⟩
end Go.Proofs.YtahdpocaldhamaaGreat
