/-
  What EntrySame and StoreSame answer, of the program and of the model; copies of lists of entries.
-/
import Derived.Test.YtfegnjmekmmmpaaEnW
import Derived.Test.YtfegnjmekmmmpaaWalkSame
namespace Go.Proofs.Ytfegnjmekmmmpaa
set_option linter.unusedVariables false
set_option linter.unusedSimpArgs false
open Go.RowKit

theorem enSet_size (w : World) (p : Addr) (u : Value) : (w.setCell p u).heap.size = w.heap.size := by simp [World.setCell]
theorem sBeq {a b : ByteArray} (h : a = b) : (a.toList == b.toList) = true := by rw [sEq]; simp [h]
theorem sBne {a b : ByteArray} (h : ¬ a = b) : (a.toList == b.toList) = false := by rw [sEq]; simp [h]
theorem enTake_succ {es gs : List En} {k : Nat} {x y : En} (h : es.take k = gs.take k) (h1 : es[k]? = some x) (h2 : gs[k]? = some y) (he : x = y) : es.take (k + 1) = gs.take (k + 1) := by
  rw [List.take_add_one, List.take_add_one, h1, h2, h, he]
theorem enNe_of_get {es gs : List En} {k : Nat} {x y : En} (h1 : es[k]? = some x) (h2 : gs[k]? = some y) (he : ¬ x = y) : ¬ es = gs := by
  rintro rfl
  rw [h1] at h2
  exact he (Option.some.inj h2)

set_option maxHeartbeats 1000000 in
theorem enSameS_any (t s : ByteArray) (fs : List Fl) (x : ByteArray) (a : Option Addr) (n c : Nat) (t' s' : ByteArray) (gs : List Fl) (x' : ByteArray) (b : Option Addr) (m d : Nat) (w : World) (hk : FilesAt w w.heap.size a n fs) (hk2 : FilesAt w w.heap.size b m gs) (hn : n ≤ maxLen) (hm : m ≤ maxLen) :
    Calls Try.prog 6 #[.agg #[.string t, .string s, .slice a n c, .string x], .agg #[.string t', .string s', .slice b m d, .string x']] w fun e w' => e = .returned (.bool (decide (((t, s, fs, x) : En) = (t', s', gs, x')))) ∧ Below w.heap.size w w' := by
  have hB := ((Below.refl w.heap.size w).alloc (Nat.le_refl _) (.cells #[.string t, .string s, .slice a n c, .string x] 29)).alloc (by simp) (.cells #[.string t', .string s', .slice b m d, .string x'] 29)
  have hb1 := (BxN.new w t s (.slice a n c) x 29).alloc (.cells #[.string t', .string s', .slice b m d, .string x'] 29)
  have hb2 := BxN.new (w.alloc (.cells #[.string t, .string s, .slice a n c, .string x] 29)) t' s' (.slice b m d) x' 29
  rw [World.size_alloc] at hb2
  by_cases ht : t = t'
  · have et := sBeq ht
    have Ht := Lib.hid ht
    clear ht
    by_cases hs : s = s'
    · have es := sBeq hs
      have Hs := Lib.hid hs
      clear hs
      by_cases hx : x = x'
      · have ex := sBeq hx
        have Hx := Lib.hid hx
        clear hx
        go_enter Try.func6, Try.ntmps6
        go_wp2_with fail
        refine (sameS_any a b n c m d fs gs _ ((hk.below hB).more hB.size) ((hk2.below hB).more hB.size) hn hm).mono ?_
        rintro e w1 ⟨rfl, hB1⟩
        have hBB := hB.trans (hB1.mono hB.size)
        obtain ⟨c0, c1, c2, c3, f0, f1, f2, f3, hl⟩ := (hb1.next hB1).facts
        obtain ⟨d0, d1, d2, d3, g0, g1, g2, g3, hdl⟩ := (hb2.next hB1).facts
        clear hb1 hb2
        by_cases hfs : fs = gs
        · have Hfs := Lib.hid hfs
          rw [decide_eq_true hfs]
          clear hfs
          go_wp2_with fail
          go_ret
          exact ⟨ret_bool (by rw [decide_eq_true]; rw [Ht.out, Hs.out, Hx.out, Hfs.out]), hBB⟩
        · have Hfs := Lib.hid hfs
          rw [decide_eq_false hfs]
          clear hfs
          go_wp2_with fail
          go_ret
          exact ⟨ret_bool (by rw [decide_eq_false]; simp [Hfs.out]), hBB⟩
      · have ex := sBne hx
        have Hx := Lib.hid hx
        clear hx
        clear hb1 hb2
        go_enter Try.func6, Try.ntmps6
        go_wp2_with fail
        go_ret
        exact ⟨ret_bool (by rw [decide_eq_false]; simp [Hx.out]), hB⟩
    · have es := sBne hs
      have Hs := Lib.hid hs
      clear hs
      clear hb1 hb2
      go_enter Try.func6, Try.ntmps6
      go_wp2_with fail
      go_ret
      exact ⟨ret_bool (by rw [decide_eq_false]; simp [Hs.out]), hB⟩
  · have et := sBne ht
    have Ht := Lib.hid ht
    clear ht
    clear hb1 hb2
    go_enter Try.func6, Try.ntmps6
    go_wp2_with fail
    go_ret
    exact ⟨ret_bool (by rw [decide_eq_false]; simp [Ht.out]), hB⟩

set_option maxHeartbeats 1000000 in
theorem enSameI_any (t s : ByteArray) (fs : List Fl) (x : ByteArray) (a : Option Addr) (n c : Nat) (t' s' : ByteArray) (gs : List Fl) (x' : ByteArray) (b : Option Addr) (m d : Nat) (w : World) (hk : FilesAt w w.heap.size a n fs) (hk2 : FilesAt w w.heap.size b m gs) (hn : n ≤ maxLen) (hm : m ≤ maxLen) :
    Calls Try.prog 8 #[.agg #[.string t, .string s, .slice a n c, .string x], .agg #[.string t', .string s', .slice b m d, .string x']] w fun e w' => e = .returned (.bool (decide (((t, s, fs, x) : En) = (t', s', gs, x')))) ∧ Below w.heap.size w w' := by
  have hB := ((Below.refl w.heap.size w).alloc (Nat.le_refl _) (.cells #[.string t, .string s, .slice a n c, .string x] 29)).alloc (by simp) (.cells #[.string t', .string s', .slice b m d, .string x'] 29)
  have hb1 := (BxN.new w t s (.slice a n c) x 29).alloc (.cells #[.string t', .string s', .slice b m d, .string x'] 29)
  have hb2 := BxN.new (w.alloc (.cells #[.string t, .string s, .slice a n c, .string x] 29)) t' s' (.slice b m d) x' 29
  rw [World.size_alloc] at hb2
  by_cases ht : t = t'
  · have et := sBeq ht
    have Ht := Lib.hid ht
    clear ht
    by_cases hs : s = s'
    · have es := sBeq hs
      have Hs := Lib.hid hs
      clear hs
      go_enter Try.func8, Try.ntmps8
      go_wp2_with fail
      refine (sameI_any a b n c m d fs gs _ ((hk.below hB).more hB.size) ((hk2.below hB).more hB.size) hn hm).mono ?_
      rintro e w1 ⟨rfl, hB1⟩
      have hBB := hB.trans (hB1.mono hB.size)
      obtain ⟨c0, c1, c2, c3, f0, f1, f2, f3, hl⟩ := (hb1.next hB1).facts
      obtain ⟨d0, d1, d2, d3, g0, g1, g2, g3, hdl⟩ := (hb2.next hB1).facts
      clear hb1 hb2
      by_cases hfs : fs = gs
      · have Hfs := Lib.hid hfs
        rw [decide_eq_true hfs]
        clear hfs
        by_cases hx : x = x'
        · have ex := sBeq hx
          have Hx := Lib.hid hx
          clear hx
          go_wp2_with fail
          go_ret
          exact ⟨ret_bool (by rw [decide_eq_true]; rw [Ht.out, Hs.out, Hx.out, Hfs.out]), hBB⟩
        · have ex := sBne hx
          have Hx := Lib.hid hx
          clear hx
          go_wp2_with fail
          go_ret
          exact ⟨ret_bool (by rw [decide_eq_false]; simp [Hx.out]), hBB⟩
      · have Hfs := Lib.hid hfs
        rw [decide_eq_false hfs]
        clear hfs
        go_wp2_with fail
        go_ret
        exact ⟨ret_bool (by rw [decide_eq_false]; simp [Hfs.out]), hBB⟩
    · have es := sBne hs
      have Hs := Lib.hid hs
      clear hs
      clear hb1 hb2
      go_enter Try.func8, Try.ntmps8
      go_wp2_with fail
      go_ret
      exact ⟨ret_bool (by rw [decide_eq_false]; simp [Hs.out]), hB⟩
  · have et := sBne ht
    have Ht := Lib.hid ht
    clear ht
    clear hb1 hb2
    go_enter Try.func8, Try.ntmps8
    go_wp2_with fail
    go_ret
    exact ⟨ret_bool (by rw [decide_eq_false]; simp [Ht.out]), hB⟩

set_option maxHeartbeats 1000000 in
set_option maxRecDepth 100000 in
theorem storeSameS_any (es gs : List En) (a b : Option Addr) (n c m d : Nat) (w : World) (hf : EnAt w 0 w.heap.size es a n) (hg : EnAt w 0 w.heap.size gs b m) (hfit : EnFits es) (hfit2 : EnFits gs) (hn : n ≤ maxLen) (hm : m ≤ maxLen) :
    Calls Try.prog 11 #[.slice a n c, .slice b m d] w fun e w' => e = .returned (.bool (decide (es = gs))) ∧ Below w.heap.size w w' := by
  unfold maxLen at hn hm
  have hl1 := Lib.hid hf.1
  have hl2 := Lib.hid hg.1
  by_cases hne : n = m
  · subst hne
    go_enter Try.func11, Try.ntmps11
    go_wp2_with fail
    go_loopw [5] (fun i wr => ∃ j : Nat, j ≤ n ∧ i = .int .i64 j ∧ es.take j = gs.take j ∧ Below w.heap.size w wr) (fun i _ => n - (intOf i).toNat)
    case atStart => exact ⟨0, Nat.zero_le _, rfl, rfl, Below.refl _ _⟩
    case round =>
      obtain ⟨j, hj, rfl, heq, hB⟩ := hrel
      have Heq := Lib.hid heq; clear heq
      by_cases hlt : j < n
      · obtain ⟨b1, o1, t, s, fs, x, a', n', c', rfl, _, hb1, hg1, hc0, hc1, hc2, hc3, hcap, hks⟩ := (hf.below hB).get hlt
        obtain ⟨b2, o2, t2, s2, fs2, x2, a2, n2, c2, rfl, _, hb2, hg2, hd0, hd1, hd2, hd3, hcap2, hks2⟩ := (hg.below hB).get hlt
        obtain ⟨_, _, hfl, _, _⟩ := hfit.get hg1
        obtain ⟨_, _, hfl2, _, _⟩ := hfit2.get hg2
        simp only at hfl hfl2
        have hkl := hks.1
        have hkl2 := hks2.1
        subst hkl
        subst hkl2
        have hBd : Below w.heap.size w wr.drew := hB.drew
        have hks' : FilesAt wr.drew wr.drew.heap.size a' fs.length fs := (hks.keep (Nat.le_refl 0) hBd.size fun _ _ _ => rfl).files
        have hks2' : FilesAt wr.drew wr.drew.heap.size a2 fs2.length fs2 := (hks2.keep (Nat.le_refl 0) hBd.size fun _ _ _ => rfl).files
        have Hg1 := Lib.hid hg1
        have Hg2 := Lib.hid hg2
        clear hg1 hg2
        go_wp2_with fail
        go_still_tail 8, (by kernel_rfl)
        change wpList _ _ _ _ _ wr.drew
        go_wp2_with fail
        refine (enSameS_any t s fs x a' fs.length c' t2 s2 fs2 x2 a2 fs2.length c2 _ hks' hks2' hfl hfl2).mono ?_
        rintro e w1 ⟨rfl, hB1⟩
        have hBB := hBd.trans (hB1.mono hBd.size)
        by_cases he : ((t, s, fs, x) : En) = (t2, s2, fs2, x2)
        · rw [decide_eq_true he]
          have He := Lib.hid he
          clear he
          go_wp2_with fail
          go_roundw
          case rel => exact ⟨j + 1, by omega, by go_num, enTake_succ Heq.out Hg1.out Hg2.out He.out, hBB⟩
          case measure => simp [intOf]; omega
        · rw [decide_eq_false he]
          have He := Lib.hid he
          clear he
          go_wp2_with fail
          go_ret
          exact ⟨ret_bool (by rw [decide_eq_false (enNe_of_get Hg1.out Hg2.out He.out)]), hBB⟩
      · go_wp2_with fail
        go_ret
        have h1 := hl1.out
        have h2 := hl2.out
        have h3 := Heq.out
        rw [List.take_of_length_le (by omega), List.take_of_length_le (by omega)] at h3
        exact ⟨ret_bool (by rw [decide_eq_true h3]), hB⟩
  · have hne' : ((n : Int) != (m : Int)) = true := by simp; omega
    go_enter Try.func11, Try.ntmps11
    go_wp2_with fail
    go_ret
    exact ⟨ret_bool (by rw [decide_eq_false]; rintro rfl; exact hne (hl1.out.symm.trans hl2.out)), Below.refl _ _⟩

set_option maxHeartbeats 1000000 in
set_option maxRecDepth 100000 in
theorem equalFunc_any (es gs : List En) (a b : Option Addr) (n c m d : Nat) (w : World) (hf : EnAt w 0 w.heap.size es a n) (hg : EnAt w 0 w.heap.size gs b m) (hfit : EnFits es) (hfit2 : EnFits gs) (hn : n ≤ maxLen) (hm : m ≤ maxLen) (fv : Value) (hfv : fv = .func (.func 8) #[] #[]) :
    Calls Try.prog 20 #[.slice a n c, .slice b m d, fv] w fun e w' => e = .returned (.bool (decide (es = gs))) ∧ Below w.heap.size w w' := by
  subst hfv
  unfold maxLen at hn hm
  have hl1 := Lib.hid hf.1
  have hl2 := Lib.hid hg.1
  by_cases hne : n = m
  · subst hne
    go_enter Try.func20, Try.ntmps20
    go_wp2_with fail
    go_loopw [17] (fun i wr => ∃ j : Nat, j ≤ n ∧ i = .int .i64 j ∧ es.take j = gs.take j ∧ Below w.heap.size w wr) (fun i _ => n - (intOf i).toNat)
    case atStart => exact ⟨0, Nat.zero_le _, rfl, rfl, Below.refl _ _⟩
    case round =>
      obtain ⟨j, hj, rfl, heq, hB⟩ := hrel
      have Heq := Lib.hid heq; clear heq
      by_cases hlt : j < n
      · obtain ⟨b1, o1, t, s, fs, x, a', n', c', rfl, _, hb1, hg1, hc0, hc1, hc2, hc3, hcap, hks⟩ := (hf.below hB).get hlt
        obtain ⟨b2, o2, t2, s2, fs2, x2, a2, n2, c2, rfl, _, hb2, hg2, hd0, hd1, hd2, hd3, hcap2, hks2⟩ := (hg.below hB).get hlt
        obtain ⟨_, _, hfl, _, _⟩ := hfit.get hg1
        obtain ⟨_, _, hfl2, _, _⟩ := hfit2.get hg2
        simp only at hfl hfl2
        have hkl := hks.1
        have hkl2 := hks2.1
        subst hkl
        subst hkl2
        have Hg1 := Lib.hid hg1
        have Hg2 := Lib.hid hg2
        have hwr := hB.size
        clear hg1 hg2
        have HK := Lib.hid hks
        have HK2 := Lib.hid hks2
        clear hks hks2
        have hb1w : b1 < wr.heap.size := Nat.lt_of_lt_of_le hb1 hwr
        have hb2w : b2 < wr.heap.size := Nat.lt_of_lt_of_le hb2 hwr
        have hB0 := ((Below.refl wr.heap.size wr).alloc (Nat.le_refl _) (.cells #[.string t, .string s, .slice a' fs.length c', .string x] 29)).alloc (by simp) (.cells #[.string t2, .string s2, .slice a2 fs2.length c2, .string x2] 29)
        go_wp2_with fail
        refine (enSameI_any t s fs x a' fs.length c' t2 s2 fs2 x2 a2 fs2.length c2 _ ((HK.out.more (Nat.le_refl _) hwr).next hB0).files ((HK2.out.more (Nat.le_refl _) hwr).next hB0).files hfl hfl2).mono ?_
        rintro e w1 ⟨rfl, hB1⟩
        have hBB := hB.trans ((hB0.trans (hB1.mono hB0.size)).mono hwr)
        by_cases he : ((t, s, fs, x) : En) = (t2, s2, fs2, x2)
        · rw [decide_eq_true he]
          have He := Lib.hid he
          clear he
          go_wp2_with fail
          go_roundw
          case rel => exact ⟨j + 1, by omega, by go_num, enTake_succ Heq.out Hg1.out Hg2.out He.out, hBB⟩
          case measure => simp [intOf]; omega
        · rw [decide_eq_false he]
          have He := Lib.hid he
          clear he
          go_wp2_with fail
          go_ret
          exact ⟨ret_bool (by rw [decide_eq_false (enNe_of_get Hg1.out Hg2.out He.out)]), hBB⟩
      · go_wp2_with fail
        go_ret
        have h1 := hl1.out
        have h2 := hl2.out
        have h3 := Heq.out
        rw [List.take_of_length_le (by omega), List.take_of_length_le (by omega)] at h3
        exact ⟨ret_bool (by rw [decide_eq_true h3]), hB⟩
  · have hne' : ((n : Int) != (m : Int)) = true := by simp; omega
    go_enter Try.func20, Try.ntmps20
    go_wp2_with fail
    go_ret
    exact ⟨ret_bool (by rw [decide_eq_false]; rintro rfl; exact hne (hl1.out.symm.trans hl2.out)), Below.refl _ _⟩

theorem storeSameI_any (es gs : List En) (a b : Option Addr) (n c m d : Nat) (w : World) (hf : EnAt w 0 w.heap.size es a n) (hg : EnAt w 0 w.heap.size gs b m) (hfit : EnFits es) (hfit2 : EnFits gs) (hn : n ≤ maxLen) (hm : m ≤ maxLen) :
    Calls Try.prog 13 #[.slice a n c, .slice b m d] w fun e w' => e = .returned (.bool (decide (es = gs))) ∧ Below w.heap.size w w' := by
  go_enter Try.func13, Try.ntmps13
  go_wp2_with fail
  refine (equalFunc_any es gs a b n c m d w hf hg hfit hfit2 hn hm _ rfl).mono ?_
  rintro e w1 ⟨rfl, hB1⟩
  go_wp2_with fail
  go_ret
  exact ⟨rfl, hB1⟩

theorem entry_info : (Try.prog.info? 29).map (fun i => (i.zero, i.size, i.bytes)) = some (some (.agg #[.string .empty, .string .empty, .slice none 0 0, .string .empty]), 4, 72) := by kernel_rfl

set_option maxHeartbeats 1000000 in
theorem toEntryS_any (es : List En) (a : Option Addr) (n c : Nat) (w : World) (hf : EnAt w 0 w.heap.size es a n) (ht : es.length + enTot es ≤ 1048576) :
    Calls Try.prog 12 #[.slice a n c] w fun e w' => ∃ g, e = .returned (.slice (some ⟨g, 0, none⟩) n n) ∧ EnAt w' w.heap.size w'.heap.size es (some ⟨g, 0, none⟩) n ∧ Below w.heap.size w w' := by
  have hlen := Lib.hid hf.1
  have hn : n ≤ 1048576 := by have := hf.1; omega
  have hL := Nat.le_refl w.heap.size
  obtain ⟨i0, hi, hz0, hz1, hz2⟩ := info_parts entry_info
  have hmk := fun W => make_row (P := Try.prog) 35 29 i0 _ Try.underlying35 hi hz0 .i64 .i64 n n (Nat.le_refl _) (by rw [hz2]; omega) (by omega) W
  go_enter Try.func12, Try.ntmps12
  go_wp2_with fail
  go_loopw [4] (fun i wr => ∃ (j : Nat) (cur : Array Value), j ≤ n ∧ i = .int .i64 j ∧ wr.heap[w.heap.size]? = some (.cells cur 29 (0, 0)) ∧ cur.size = n * 4 ∧ DoneEn wr (w.heap.size + 1) wr.heap.size es cur j ∧ Below w.heap.size w wr) (fun i _ => n - (intOf i).toNat)
  case atStart => exact ⟨0, _, Nat.zero_le _, rfl, heap_alloc_new w _, by simp [madeCells], DoneEn.zero, (Below.refl _ _).alloc (Nat.le_refl _) _⟩
  case round =>
    obtain ⟨j, cur, hj, rfl, hblk, hsz, hdone, hB⟩ := hrel
    by_cases hlt : j < n
    · obtain ⟨b, off, t, s, fs, x, a', n', c', rfl, _, hb, hg, hc0, hc1, hc2, hc3, hcap, hks⟩ := (hf.below hB).get hlt
      have Hg := Lib.hid hg
      have htk := enTot_get hg
      simp only [enSz] at htk
      have hks' := (hks.more (Nat.le_refl 0) hB.size).files
      have hkl := hks.1
      have Hsz := Lib.hid hsz
      have Hblk := Lib.hid hblk
      have Hdone := Lib.hid hdone
      have hgl : w.heap.size < wr.heap.size := blk_lt hblk
      have hx0 : wr.cell? ⟨w.heap.size, j * 4, none⟩ = some (cur[j * 4]'(by omega)) := by rw [cell_of_row wr _ _ _ _ _ hblk]; simp
      have hx1 : wr.cell? ⟨w.heap.size, j * 4 + 1, none⟩ = some (cur[j * 4 + 1]'(by omega)) := by rw [cell_of_row wr _ _ _ _ _ hblk]; simp
      have hx2 : wr.cell? ⟨w.heap.size, j * 4 + 2, none⟩ = some (cur[j * 4 + 2]'(by omega)) := by rw [cell_of_row wr _ _ _ _ _ hblk]; simp
      have hx3 : wr.cell? ⟨w.heap.size, j * 4 + 3, none⟩ = some (cur[j * 4 + 3]'(by omega)) := by rw [cell_of_row wr _ _ _ _ _ hblk]; simp
      generalize cur[j * 4]'(by omega) = v0 at hx0
      generalize cur[j * 4 + 1]'(by omega) = v1 at hx1
      generalize cur[j * 4 + 2]'(by omega) = v2 at hx2
      generalize cur[j * 4 + 3]'(by omega) = v3 at hx3
      have hz0a := blk_frozen hblk (j * 4)
      have hz1a := blk_frozen hblk (j * 4 + 1)
      have hz2a := blk_frozen hblk (j * 4 + 2)
      have hz3a := blk_frozen hblk (j * 4 + 3)
      subst hkl
      clear hblk hsz hg hdone
      go_wp2_with fail
      refine (toEntry_any t s fs x a' fs.length c' _ hks' (by omega)).mono ?_
      rintro e w1 ⟨g1, rfl, hg1, hk1, hB1⟩
      have hy0 := (hB1.cell (p := ⟨w.heap.size, j * 4, none⟩) hgl).trans hx0
      have hy1 := (hB1.cell (p := ⟨w.heap.size, j * 4 + 1, none⟩) hgl).trans hx1
      have hy2 := (hB1.cell (p := ⟨w.heap.size, j * 4 + 2, none⟩) hgl).trans hx2
      have hy3 := (hB1.cell (p := ⟨w.heap.size, j * 4 + 3, none⟩) hgl).trans hx3
      have hf0 := (hB1.frozen (p := ⟨w.heap.size, j * 4, none⟩) hgl).trans hz0a
      have hf1 := (hB1.frozen (p := ⟨w.heap.size, j * 4 + 1, none⟩) hgl).trans hz1a
      have hf2 := (hB1.frozen (p := ⟨w.heap.size, j * 4 + 2, none⟩) hgl).trans hz2a
      have hf3 := (hB1.frozen (p := ⟨w.heap.size, j * 4 + 3, none⟩) hgl).trans hz3a
      have hb1 := Lib.hid ((hB1.block w.heap.size hgl).trans Hblk.out)
      have hdn := Lib.hid ((Hdone.out.keep (Nat.le_refl _) hB1.size (fun p _ hp => hB1.cell hp)).step (g := w.heap.size) Hg.out (Nat.le_refl _) ((FlIn.own hk1 rfl).more (by omega) hk1.lt) (by have := Hsz.out; omega) (by omega) (.string t) (.string s) (.slice (some ⟨g1, 0, none⟩) fs.length fs.length) (.string x))
      have hBB := hB.trans (hB1.mono hB.size)
      clear hx0 hx1 hx2 hx3 hz0a hz1a hz2a hz3a
      go_wp2_with fail
      exact ⟨⟨j + 1, _, by omega, by go_num, blk_set (blk_set (blk_set (blk_set hb1.out _ _) _ _) _ _) _ _, by simp [Hsz.out], by rw [enSet_size, enSet_size, enSet_size, enSet_size]; exact hdn.out, (((hBB.setCell (Nat.le_refl _) _).setCell (Nat.le_refl _) _).setCell (Nat.le_refl _) _).setCell (Nat.le_refl _) _⟩, by simp [intOf]; omega⟩
    · have e : j = n := by omega
      have Hblk := Lib.hid hblk
      have Hdone := Lib.hid hdone
      clear hsz hblk hdone
      subst e
      go_wp2_with fail
      go_ret
      obtain rfl := hlen.out
      exact ⟨_, rfl, (Hdone.out.keep (Nat.le_succ _) (Nat.le_refl _) fun _ _ _ => rfl).all Hblk.out (Nat.le_refl _) (blk_lt Hblk.out), hB⟩
end Go.Proofs.Ytfegnjmekmmmpaa
