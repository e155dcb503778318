/-
  RemoveRule, of the program and of the reference.
-/
import Derived.Test.YtmmjeokmoffdpaaGreatQEdV
import Derived.Test.YtmmjeokmoffdpaaGreatQEdU
import Derived.Test.YtmmjeokmoffdpaaGreatQFrS
namespace Go.Proofs.YtmmjeokmoffdpaaGreat
set_option linter.unusedVariables false
set_option linter.unusedSimpArgs false
open Go.RowKit

/-- what RemoveRule answers -/
def delRuleR (x : ByteArray) (fs : List Fl) (rs : List Ru) : List Fl × List Ru × Bool := if projB fs rs = true ∧ (findB rs x).isSome = true ∧ projB fs (delRu x rs) = true then (fs, delRu x rs, true) else ([], [], false)
theorem delRuleR_bad {x : ByteArray} {fs : List Fl} {rs : List Ru} (h : projB fs rs = false) : delRuleR x fs rs = ([], [], false) := if_neg (fun h2 => by rw [h] at h2; cases h2.1)
theorem delRuleR_not {x : ByteArray} {fs : List Fl} {rs : List Ru} (h : (findB rs x).isSome = false) : delRuleR x fs rs = ([], [], false) := if_neg (fun h2 => by rw [h] at h2; cases h2.2.1)
theorem delRuleR_chk {x : ByteArray} {fs : List Fl} {rs : List Ru} (h : projB fs rs = true) (h2 : (findB rs x).isSome = true) : delRuleR x fs rs = chkR fs (delRu x rs) := by
  unfold delRuleR chkR
  by_cases h3 : projB fs (delRu x rs) = true
  · rw [if_pos ⟨h, h2, h3⟩, if_pos h3]
  · rw [if_neg (fun h => h3 h.2.2), if_neg h3]
theorem delr_res {x : ByteArray} {fs fs' : List Fl} {rs rs' : List Ru} {b : Bool} (h : delRuleR x fs rs = (fs', rs', b)) (hrf : RuFits rs) (hz : rs.length + ruTot rs ≤ 1048576) (hl : fs.length ≤ 1048576) : RuFits rs' ∧ fs'.length ≤ 1048576 ∧ rs'.length + ruTot rs' ≤ 1048576 := by
  unfold delRuleR at h
  split at h
  · cases h
    exact ⟨delRu_fit hrf, hl, by have := delRu_tot x rs; omega⟩
  · cases h
    exact ⟨(fun y hy => by cases hy), by simp, by simp [ruTot]⟩
theorem delRuleR_of {x : ByteArray} {fs : List Fl} {rs : List Ru} {w w' : World} {e : Ending} (hp : projB fs rs = true) (h : (if (findB rs x).isSome = true ∧ projB fs (delRu x rs) = true then EdP fs (delRu x rs) true w else EdP [] [] false w) e w') : EdR (delRuleR x fs rs) w e w' := by
  unfold EdR delRuleR
  by_cases h2 : (findB rs x).isSome = true ∧ projB fs (delRu x rs) = true
  · rw [if_pos ⟨hp, h2⟩]; rwa [if_pos h2] at h
  · rw [if_neg (fun h => h2 h.2)]; rwa [if_neg h2] at h

theorem delRu_take {x t s : ByteArray} {k : Int} {ks : Fo} {rs : List Ru} {j : Nat} (h : rs[j]? = some (t, k, s, ks)) : delRu x (rs.take (j + 1)) = delRu x (rs.take j) ++ if t = x then [] else [(t, k, s, ks)] := by
  unfold delRu
  rw [List.take_add_one, h, List.filter_append]
  by_cases e : t = x <;> simp [e]
theorem ownK_made (w : World) : OwnK (w.alloc (.cells #[] 44)) w.heap.size w.heap.size (.slice (some ⟨w.heap.size, 0, none⟩) 0 0) [] := ⟨Nat.le_refl _, by simp, [], World.ownsRow_made w _ _ (Nat.le_refl _) (by simp [maxLen]) rfl, rfl⟩

set_option maxRecDepth 100000 in
set_option maxHeartbeats 2000000 in
theorem l3Without_any (a : Option Addr) (n c : Nat) (rs : List Ru) (x : ByteArray) (w : World) (hr : RuAt w 0 w.heap.size rs a n) (hn : n ≤ 1048576) :
    Calls Tryz.prog 21 #[.slice a n c, .string x] w fun e w' => ∃ v, e = .returned v ∧ OwnK w' w.heap.size w.heap.size v (delRu x rs) ∧ Below w.heap.size w w' := by
  have hlen := Lib.hid hr.1
  go_enter Tryz.func21, Tryz.ntmps21
  go_wp2_with fail
  go_loopw [5, 6] (fun v i wr => ∃ j : Nat, j ≤ n ∧ i = .int .i64 j ∧ OwnK wr w.heap.size w.heap.size v (delRu x (rs.take j)) ∧ Below w.heap.size w wr) (fun _ i _ => n - (intOf i).toNat)
  case atStart => exact ⟨0, Nat.zero_le _, rfl, by simpa [delRu] using ownK_made w, (Below.refl _ _).alloc (Nat.le_refl _) _⟩
  case round =>
    obtain ⟨j, hj, rfl, hown, hB⟩ := hrel
    have Hown := Lib.hid hown
    clear hown
    by_cases hlt : j < n
    · obtain ⟨b, off, t3, k3, s3, ks3, a3, n3, c3, rfl, _, hb3, hg3, hc0, hc1, hc2, hc3, hcap3, hk3⟩ := (hr.below hB).get hlt
      have hjj : (j : Int) < (n : Int) := by omega
      have hj0 : (0 : Int) ≤ (j : Int) := by omega
      have hst := Lib.hid (delRu_take (x := x) hg3)
      have hdl : (delRu x (rs.take j)).length ≤ 1048576 := by have := List.length_filter_le (fun r : Ru => decide (r.1 ≠ x)) (rs.take j); have := List.length_take_le j rs; unfold delRu; omega
      have hbs := hB.size
      obtain rfl := hk3.1
      have Hk3 := Lib.hid hk3
      clear hg3 hk3
      by_cases hpx : t3 = x
      · subst hpx
        have hd : (t3.toList == t3.toList) = true := by simp
        go_wp2_with fail
        exact ⟨⟨j + 1, by omega, by go_num, by rw [hst.out]; simpa using Hown.out, hB⟩, by simp [intOf]; omega⟩
      · have hd : (t3.toList == x.toList) = false := by rw [sEq]; simpa using hpx
        have Hpx := Lib.hid hpx
        clear hpx
        go_wp2_with (at_builtin; refine wpList_append_rk rfl _ _ rfl w.heap.size w.heap.size _ (delRu x (rs.take j)) rfl (Hown.out.below ((Below.refl _ _).alloc (Nat.le_refl _) _)) wr.heap.size 1 rfl t3 k3 s3 ks3 a3 c3 (heap_alloc_new wr _) hcap3 (Hk3.out.alloc (by omega) _) (by omega) ?_; intro g6 cap6 w6 hown6 hgrow6 hlt6 hbg6)
        have hlo := Hown.out.lt
        exact ⟨⟨j + 1, by omega, by go_num, by rw [hst.out, if_neg Hpx.out]; exact hown6, (hB.alloc hbs _).grown hgrow6 (by simp; omega) (fun g' e => (hlo _ e).1)⟩, by simp [intOf]; omega⟩
    · have hall : rs.take j = rs := List.take_of_length_le (by have := hlen.out; omega)
      have hjj : ¬ (j : Int) < (n : Int) := by omega
      rw [hall] at Hown
      clear hall
      go_wp2_with fail
      go_ret
      exact ⟨_, rfl, Hown.out, hB⟩

end Go.Proofs.YtmmjeokmoffdpaaGreat
