/-
  Copies of lists of entries: the program's copyList, the reference's l5Drop.
-/
import Derived.Test.YtaiijnepeccllaaGreatQOnD
import Derived.Test.YtaiijnepeccllaaGreatQFeM
import Derived.Test.YtaiijnepeccllaaGreatQFeS
namespace Go.Proofs.YtaiijnepeccllaaGreat
set_option linter.unusedVariables false
set_option linter.unusedSimpArgs false
open Go.RowKit

/-- what a copy leaves -/
def CopD (es : List En) (w : World) (e : Ending) (w' : World) : Prop := ∃ v bs, e = .returned v ∧ OwnD w' w.heap.size v es bs ∧ Below w.heap.size w w'
/-- the entries of other targets -/
def delE (x : ByteArray) (es : List En) : List En := es.filter fun r => decide (r.1 ≠ x)
theorem delE_take {x t s y : ByteArray} {fs : List Fl} {es : List En} {j : Nat} (h : es[j]? = some (t, s, fs, y)) : delE x (es.take (j + 1)) = delE x (es.take j) ++ if t = x then [] else [(t, s, fs, y)] := by
  unfold delE
  rw [List.take_add_one, h, List.filter_append]
  by_cases e : t = x <;> simp [e]

set_option maxRecDepth 100000 in
set_option maxHeartbeats 4000000 in
theorem copyEntries_any (a : Option Addr) (n c : Nat) (es : List En) (w : World) (hf : EnAt w 0 w.heap.size es a n) (hz : es.length + enTot es ≤ 1048577) :
    Calls Tryz.prog 47 #[.slice a n c, .func (.func 26) #[] #[]] w (CopD es w) := by
  have hlen := hf.1
  go_enter Tryz.func47, Tryz.ntmps47
  go_wp2_with fail
  go_loopw [5, 10] (fun v i wr => ∃ (j : Nat) (bs : List Nat), j ≤ n ∧ i = .int .i64 j ∧ OwnD wr w.heap.size v (es.take j) bs ∧ Below w.heap.size w wr) (fun _ i _ => n - (intOf i).toNat)
  case atStart => exact ⟨0, [], Nat.zero_le _, rfl, OwnD.nil w (Nat.le_refl _), Below.refl _ _⟩
  case round =>
    obtain ⟨j, bs, hj, rfl, hown, hB⟩ := hrel
    have hsw := hB.size
    have htl : (es.take j).length = j := by simp; omega
    have Hown := Lib.hid hown
    clear hown
    by_cases hlt : j < n
    · obtain ⟨b, off, t, s, fs, x, a', n', c', rfl, _, hb, hg, hc0, hc1, hc2, hc3, hcap, hks⟩ := (hf.below hB).get hlt
      have hjj : (j : Int) < (n : Int) := by omega
      have hj0 : (0 : Int) ≤ (j : Int) := by omega
      have hsm := enTot_get hg
      simp only [enSz] at hsm
      have Hst := Lib.hid (show es.take (j + 1) = es.take j ++ [(t, s, fs, x)] from by rw [List.take_add_one, hg]; simp)
      obtain rfl := hks.1
      have hBx := (Below.refl wr.heap.size wr).alloc (Nat.le_refl _) (.cells #[.string t, .string s, .slice a' fs.length c', .string x] 26)
      have Hks := Lib.hid ((((hks.more (Nat.le_refl 0) hsw).files).below hBx).more hBx.size)
      clear hg hks
      go_wp2_with fail
      refine (copyEntry_any t s fs x a' fs.length c' _ Hks.out (by omega)).mono ?_
      rintro e w4 ⟨a4, c4, rfl, hown4, hB4⟩
      have B4 := hBx.trans (hB4.mono hBx.size)
      have hs4 := B4.size
      have hO4 := Lib.hid (Hown.out.below B4)
      have hbl : wr.heap.size + 1 ≤ w4.heap.size := by have := hB4.size; simpa using this
      have Hu := Lib.hid (show OwnsF (w4.alloc (.cells #[.string t, .string s, .slice a4 fs.length c4, .string x] 26)) w.heap.size (.slice a4 fs.length c4) fs from World.ownsRow.mono (ownsF_alloc hown4 _) (by simp; omega))
      have Hne := Lib.hid (show ∀ k, (Value.slice a4 fs.length c4).ownBlock = some k → k ∉ (show Value from _).ownBlock.toList ++ bs from fun k hk hm => by
        have h1 := (World.ownsRow.lt hown4 k hk).1
        have h2 := (Hown.out.in_ k hm).2
        simp at h1
        omega)
      clear hc0 hc1 hc2 hc3 hown4 hB4
      go_wp2_with (at_builtin; refine wpList_append_en rfl _ _ rfl w.heap.size _ (es.take j) bs rfl (hO4.out.alloc _) w4.heap.size 1 rfl t s x fs (.slice a4 fs.length c4) (heap_alloc_new w4 _) rfl Hu.out Hne.out (by omega) ?_; intro g6 cap6 w6 hown6 hgrow6 hlt6 hbg6)
      have hin := hO4.out.in_
      have hB6 := ((hB.trans (B4.mono hsw)).alloc (by omega) (.cells #[.string t, .string s, .slice a4 fs.length c4, .string x] 26)).grown hgrow6 (by simp; omega) (fun k e => (hin k (List.mem_append_left _ (Option.mem_toList.2 e))).1)
      exact ⟨⟨j + 1, _, by omega, by go_num, by rw [Hst.out]; rw [htl] at hown6; exact hown6, hB6⟩, by simp [intOf]; omega⟩
    · have hjn : ¬ (j : Int) < (n : Int) := by omega
      have hall : es.take j = es := List.take_of_length_le (by omega)
      rw [hall] at Hown
      clear hall htl
      go_wp2_with fail
      go_ret
      exact ⟨_, _, rfl, Hown.out, hB⟩

set_option maxRecDepth 100000 in
set_option maxHeartbeats 4000000 in
theorem l5Drop_any (a : Option Addr) (n c : Nat) (es : List En) (y : ByteArray) (w : World) (hf : EnAt w 0 w.heap.size es a n) (hnl : NilOk w a n) (hz : es.length + enTot es ≤ 1048577) :
    Calls Tryz.prog 36 #[.slice a n c, .string y] w (CopD (delE y es) w) := by
  have hlen := hf.1
  have Hnl := Lib.hid hnl
  clear hnl
  go_enter Tryz.func36, Tryz.ntmps36
  go_wp2_with fail
  go_loopw [5, 6] (fun v i wr => ∃ (j : Nat) (bs : List Nat), j ≤ n ∧ i = .int .i64 j ∧ OwnD wr w.heap.size v (delE y (es.take j)) bs ∧ Below w.heap.size w wr) (fun _ i _ => n - (intOf i).toNat)
  case atStart => exact ⟨0, [], Nat.zero_le _, rfl, by simpa [delE] using OwnD.made w, (Below.refl _ _).alloc (Nat.le_refl _) _⟩
  case round =>
    obtain ⟨j, bs, hj, rfl, hown, hB⟩ := hrel
    have hsw := hB.size
    have hdl : (delE y (es.take j)).length ≤ 1048577 := by have := List.length_filter_le (fun r : En => decide (r.1 ≠ y)) (es.take j); have := List.length_take_le j es; unfold delE; omega
    have Hown := Lib.hid hown
    clear hown
    by_cases hlt : j < n
    · obtain ⟨b, off, t, s, fs, x, a', n', c', rfl, _, hb, hg, hc0, hc1, hc2, hc3, hcap, hks⟩ := (hf.below hB).get hlt
      have hjj : (j : Int) < (n : Int) := by omega
      have hj0 : (0 : Int) ≤ (j : Int) := by omega
      have hsm := enTot_get hg
      simp only [enSz] at hsm
      have Hst := Lib.hid (delE_take (x := y) hg)
      have hnil := (Hnl.out.keep hf fun p hp => hB.cell hp) b off j a' n' c' rfl hlt hc2
      obtain rfl := hks.1
      have Hks := Lib.hid ((hks.more (Nat.le_refl 0) hsw).files)
      clear hg hks
      by_cases hpx : t = y
      · subst hpx
        have hd : (t.toList == t.toList) = true := by simp
        go_wp2_with fail
        exact ⟨⟨j + 1, bs, by omega, by go_num, by rw [Hst.out]; simpa using Hown.out, hB⟩, by simp [intOf]; omega⟩
      · have hd : (t.toList == y.toList) = false := by rw [sEq]; simpa using hpx
        have Hpx := Lib.hid hpx
        clear hpx
        go_wp2_with fail
        refine (l5Copy_any t s fs x a' fs.length c' _ Hks.out hnil (by omega)).mono ?_
        rintro e w4 ⟨a4, c4, rfl, hown4, B4⟩
        have hs4 := B4.size
        have hO4 := Lib.hid (Hown.out.below B4)
        have Hu := Lib.hid (show OwnsF (w4.alloc (.cells #[.string t, .string s, .slice a4 fs.length c4, .string x] 26)) w.heap.size (.slice a4 fs.length c4) fs from World.ownsRow.mono (ownsF_alloc hown4 _) hsw)
        have Hne := Lib.hid (show ∀ k, (Value.slice a4 fs.length c4).ownBlock = some k → k ∉ (show Value from _).ownBlock.toList ++ bs from fun k hk hm => by
          have h1 := (World.ownsRow.lt hown4 k hk).1
          have h2 := (Hown.out.in_ k hm).2
          omega)
        clear hc0 hc1 hc2 hc3 hown4 hnil
        go_wp2_with (at_builtin; refine wpList_append_en rfl _ _ rfl w.heap.size _ (delE y (es.take j)) bs rfl (hO4.out.alloc _) w4.heap.size 1 rfl t s x fs (.slice a4 fs.length c4) (heap_alloc_new w4 _) rfl Hu.out Hne.out (by omega) ?_; intro g6 cap6 w6 hown6 hgrow6 hlt6 hbg6)
        have hin := hO4.out.in_
        have hB6 := ((hB.trans (B4.mono hsw)).alloc (by omega) (.cells #[.string t, .string s, .slice a4 fs.length c4, .string x] 26)).grown hgrow6 (by simp; omega) (fun k e => (hin k (List.mem_append_left _ (Option.mem_toList.2 e))).1)
        exact ⟨⟨j + 1, _, by omega, by go_num, by rw [Hst.out, if_neg Hpx.out]; exact hown6, hB6⟩, by simp [intOf]; omega⟩
    · have hjn : ¬ (j : Int) < (n : Int) := by omega
      have hall : es.take j = es := List.take_of_length_le (by omega)
      rw [hall] at Hown
      clear hall
      go_wp2_with fail
      go_ret
      exact ⟨_, _, rfl, Hown.out, hB⟩
end Go.Proofs.YtaiijnepeccllaaGreat
