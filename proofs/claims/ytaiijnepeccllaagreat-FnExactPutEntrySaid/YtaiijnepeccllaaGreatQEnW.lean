/-
  The laws' words on entries: sizes, copies into the program's type, equality.
-/
import Derived.Test.YtaiijnepeccllaaGreatGone
import Derived.Test.YtaiijnepeccllaaGreatQFWalk
import Derived.StillTailTactics
namespace Go.Proofs.YtaiijnepeccllaaGreat
set_option linter.unusedVariables false
set_option linter.unusedSimpArgs false
open Go.RowKit

/-- what szEntry answers -/
def szN (left : Int) (x : En) : Int := if (enSz x : Int) ≤ left then left - enSz x else -1
/-- what szEntryS answers -/
def szNs (left : Int) (es : List En) : Int := if (es.length + enTot es : Int) ≤ left then left - (es.length + enTot es) else -1
theorem szN_pos {left : Int} {x : En} (h : (enSz x : Int) ≤ left) : szN left x = left - enSz x := by unfold szN; rw [if_pos h]
theorem szN_neg {left : Int} {x : En} (h : ¬ (enSz x : Int) ≤ left) : szN left x = -1 := by unfold szN; rw [if_neg h]
theorem szNs_pos {left : Int} {es : List En} (h : (es.length + enTot es : Int) ≤ left) : szNs left es = left - (es.length + enTot es) := by unfold szNs; rw [if_pos h]
theorem szNs_neg {left : Int} {es : List En} (h : ¬ (es.length + enTot es : Int) ≤ left) : szNs left es = -1 := by unfold szNs; rw [if_neg h]

set_option maxHeartbeats 1000000 in
theorem szEntry_any (t s : ByteArray) (fs : List Fl) (x : ByteArray) (a : Option Addr) (n c : Nat) (left : Int) (w : World) (hf : FilesAt w w.heap.size a n fs) (hfit : EnFit (t, s, fs, x)) (h0 : 0 ≤ left) (h1 : left ≤ 1048576) :
    Calls Tryz.prog 15 #[.agg #[.string t, .string s, .slice a n c, .string x], .int .i64 left] w fun e w' => e = .returned (.int .i64 (szN left (t, s, fs, x))) ∧ Below w.heap.size w w' := by
  obtain ⟨ht, hs, hn, hff, hx⟩ := hfit
  have hl := hf.1
  have Hn := Lib.hid (hl ▸ hn)
  have Hff := Lib.hid hff
  simp only at ht hs hn hx
  have hsz : enSz (t, s, fs, x) = t.size + s.size + (fs.length + tot fs) + x.size := rfl
  have Hsz := Lib.hid hsz
  clear hsz hff
  unfold maxLen at ht hs hn hx
  subst hl
  have hB0 := (Below.refl w.heap.size w).alloc (Nat.le_refl _) (.cells #[.string t, .string s, .slice a fs.length c, .string x] 38)
  have hbx := heap_alloc_new w (.cells #[.string t, .string s, .slice a fs.length c, .string x] 38)
  by_cases h2 : (t.size : Int) ≤ left
  · by_cases h3 : (s.size : Int) ≤ left - t.size
    · go_enter Tryz.func15, Tryz.ntmps15
      go_wp2_with fail
      refine (szFileS_any a fs.length c fs _ _ ((hf.below hB0).more hB0.size) Hff.out Hn.out (by omega) (by omega)).mono ?_
      rintro e w1 ⟨rfl, hB1⟩
      have B1 := hB0.trans (hB1.mono hB0.size)
      have hb1 := (hB1.block w.heap.size (by simp)).trans hbx
      have p1 : w1.cell? ⟨w.heap.size, 3, none⟩ = some (.string x) := by rw [cell_of_row _ _ _ _ _ _ hb1]; rfl
      by_cases hfs : (fs.length + tot fs : Int) ≤ left - t.size - s.size
      · rw [szAll_pos hfs]
        have hpos : ¬ left - t.size - s.size - (fs.length + tot fs : Int) < 0 := by omega
        by_cases h4 : (x.size : Int) ≤ left - t.size - s.size - (fs.length + tot fs : Int)
        · go_wp2_with fail
          go_ret
          exact ⟨ret_int (by unfold szN; rw [if_pos (by rw [Hsz.out]; omega), Hsz.out]; omega), B1⟩
        · go_wp2_with fail
          go_ret
          exact ⟨ret_int (by unfold szN; rw [if_neg (by rw [Hsz.out]; omega)]), B1⟩
      · rw [szAll_neg hfs]
        go_wp2_with fail
        go_ret
        exact ⟨ret_int (by unfold szN; rw [if_neg (by rw [Hsz.out]; omega)]), B1⟩
    · go_enter Tryz.func15, Tryz.ntmps15
      go_wp2_with fail
      go_ret
      exact ⟨ret_int (by unfold szN; rw [if_neg (by rw [Hsz.out]; omega)]), hB0⟩
  · go_enter Tryz.func15, Tryz.ntmps15
    go_wp2_with fail
    go_ret
    exact ⟨ret_int (by unfold szN; rw [if_neg (by rw [Hsz.out]; omega)]), hB0⟩

set_option maxHeartbeats 800000 in
theorem szEntryS_any (es : List En) (a : Option Addr) (n c : Nat) (left : Int) (w : World) (hf : EnAt w 0 w.heap.size es a n) (hfit : EnFits es) (hn : n ≤ maxLen) (h0 : 0 ≤ left) (h1 : left ≤ 1048576) :
    Calls Tryz.prog 6 #[.slice a n c, .int .i64 left] w fun e w' => e = .returned (.int .i64 (szNs left es)) ∧ Below w.heap.size w w' := by
  unfold maxLen at hn
  have hlen := Lib.hid hf.1
  by_cases hneg : left < n
  · go_enter Tryz.func6, Tryz.ntmps6
    go_wp2_with fail
    go_ret
    exact ⟨ret_int (by unfold szNs; have := hlen.out; rw [if_neg (by omega)]), Below.refl _ _⟩
  · go_enter Tryz.func6, Tryz.ntmps6
    go_wp2_with fail
    go_loopw [1, 5] (fun l i wr => ∃ j : Nat, j ≤ n ∧ i = .int .i64 j ∧ l = .int .i64 (left - n - (enTot es - enTot (es.drop j))) ∧ 0 ≤ left - n - (enTot es - enTot (es.drop j)) ∧ Below w.heap.size w wr) (fun _ i _ => n - (intOf i).toNat)
    case atStart => exact ⟨0, Nat.zero_le _, rfl, by simp, by simp; omega, Below.refl _ _⟩
    case round =>
      obtain ⟨j, hj, rfl, rfl, hpos, hB⟩ := hrel
      have hd := enTot_le es j
      by_cases hlt : j < n
      · obtain ⟨b, off, t, s, fs, x, a', n', c', rfl, _, hb, hg, hc0, hc1, hc2, hc3, hcap, hks⟩ := (hf.below hB).get hlt
        have hfitk := hfit.get hg
        have hdt : enTot (es.drop j) = enSz (t, s, fs, x) + enTot (es.drop (j + 1)) := enTot_drop hg
        have Hdt := Lib.hid hdt
        have Hfk := Lib.hid hfitk
        have hks' := (hks.more (Nat.le_refl 0) hB.size).files
        clear hg hfitk hdt
        go_wp2_with fail
        refine (szEntry_any t s fs x a' n' c' _ _ hks' Hfk.out hpos (by omega)).mono ?_
        rintro e w1 ⟨rfl, hB1⟩
        by_cases hok : (enSz (t, s, fs, x) : Int) ≤ left - n - (enTot es - enTot (es.drop j))
        · rw [show szN (left - n - (enTot es - enTot (es.drop j))) (t, s, fs, x) = left - n - (enTot es - enTot (es.drop (j + 1))) from by unfold szN; rw [if_pos hok, Hdt.out]; omega]
          have hpos' : 0 ≤ left - n - (enTot es - enTot (es.drop (j + 1))) := by have := Hdt.out; omega
          go_wp2_with fail
          go_roundw
          case rel => exact ⟨j + 1, by omega, by go_num, rfl, hpos', hB.trans (hB1.mono hB.size)⟩
          case measure => simp [intOf]; omega
        · rw [show szN (left - n - (enTot es - enTot (es.drop j))) (t, s, fs, x) = -1 from by unfold szN; rw [if_neg hok]]
          go_wp2_with fail
          go_ret
          exact ⟨ret_int (by unfold szNs; have h1 := hlen.out; have h2 := Hdt.out; rw [if_neg (by omega)]), hB.trans (hB1.mono hB.size)⟩
      · have e : j = n := by omega
        subst e
        have hd0 : enTot (es.drop j) = 0 := by rw [List.drop_of_length_le (by have := hlen.out; omega)]; rfl
        rw [hd0] at hpos ⊢
        go_wp2_with fail
        go_ret
        exact ⟨ret_int (by unfold szNs; have h1 := hlen.out; rw [if_pos (by omega)]; omega), hB⟩

set_option maxHeartbeats 400000 in
theorem eqEntry_any (t s : ByteArray) (fs : List Fl) (x : ByteArray) (a b : Option Addr) (n c d : Nat) (w : World) (hk : FilesAt w w.heap.size a n fs) (hk2 : FilesAt w w.heap.size b n fs) (hn : n ≤ maxLen) :
    Calls Tryz.prog 10 #[.agg #[.string t, .string s, .slice a n c, .string x], .agg #[.string t, .string s, .slice b n d, .string x]] w fun e w' => e = .returned (.bool true) ∧ Below w.heap.size w w' := by
  have hB := ((Below.refl w.heap.size w).alloc (Nat.le_refl _) (.cells #[.string t, .string s, .slice a n c, .string x] 26)).alloc (by simp) (.cells #[.string t, .string s, .slice b n d, .string x] 26)
  have hb1 := (Below.heap_alloc (w.alloc (.cells #[.string t, .string s, .slice a n c, .string x] 26)) (.cells #[.string t, .string s, .slice b n d, .string x] 26) w.heap.size (by simp)).trans (heap_alloc_new w _)
  have hb2 := heap_alloc_new (w.alloc (.cells #[.string t, .string s, .slice a n c, .string x] 26)) (.cells #[.string t, .string s, .slice b n d, .string x] 26)
  rw [World.size_alloc] at hb2
  have hd : (t.toList == t.toList) = true := by simp
  have hd2 : (s.toList == s.toList) = true := by simp
  have hd3 : (x.toList == x.toList) = true := by simp
  go_enter Tryz.func10, Tryz.ntmps10
  go_wp2_with fail
  refine (eqFileS_any a b n c n d fs fs _ ((hk.below hB).more hB.size) ((hk2.below hB).more hB.size) hn hn).mono ?_
  rintro e w1 ⟨rfl, hB1⟩
  have hBB := hB.trans (hB1.mono hB.size)
  have hc1 := (hB1.block w.heap.size (by simp; omega)).trans hb1
  have hc2 := (hB1.block (w.heap.size + 1) (by simp)).trans hb2
  have p1 : w1.cell? ⟨w.heap.size, 3, none⟩ = some (.string x) := by rw [cell_of_row _ _ _ _ _ _ hc1]; rfl
  have p2 : w1.cell? ⟨w.heap.size + 1, 3, none⟩ = some (.string x) := by rw [cell_of_row _ _ _ _ _ _ hc2]; rfl
  rw [decide_eq_true (rfl : fs = fs)]
  clear hb1 hb2 hc1 hc2
  go_wp2_with fail
  go_ret
  exact ⟨rfl, hBB⟩

set_option maxHeartbeats 800000 in
set_option maxRecDepth 100000 in
theorem eqEntryS_any (es : List En) (a b : Option Addr) (n c d : Nat) (w : World) (hf : EnAt w 0 w.heap.size es a n) (hg : EnAt w 0 w.heap.size es b n) (hfit : EnFits es) (hn : n ≤ maxLen) :
    Calls Tryz.prog 11 #[.slice a n c, .slice b n d] w fun e w' => e = .returned (.bool true) ∧ Below w.heap.size w w' := by
  unfold maxLen at hn
  go_enter Tryz.func11, Tryz.ntmps11
  go_wp2_with fail
  go_loopw [5] (fun i wr => ∃ j : Nat, j ≤ n ∧ i = .int .i64 j ∧ Below w.heap.size w wr) (fun i _ => n - (intOf i).toNat)
  case atStart => exact ⟨0, Nat.zero_le _, rfl, Below.refl _ _⟩
  case round =>
    obtain ⟨j, hj, rfl, hB⟩ := hrel
    by_cases hlt : j < n
    · obtain ⟨b1, o1, t, s, fs, x, a', n', c', rfl, _, hb1, hg1, hc0, hc1, hc2, hc3, hcap, hks⟩ := (hf.below hB).get hlt
      obtain ⟨b2, o2, t2, s2, fs2, x2, a2, n2, c2, rfl, _, hb2, hg2, hd0, hd1, hd2, hd3, hcap2, hks2⟩ := (hg.below hB).get hlt
      rw [hg1] at hg2
      simp only [Option.some.injEq, Prod.mk.injEq] at hg2
      obtain ⟨rfl, rfl, rfl, rfl⟩ := hg2
      obtain ⟨_, _, hfl, _, _⟩ := hfit.get hg1
      simp only at hfl
      have hkl := hks.1
      have hkl2 := hks2.1
      subst hkl
      subst hkl2
      have hBd : Below w.heap.size w wr.drew := hB.drew
      have hks' : FilesAt wr.drew wr.drew.heap.size a' fs.length fs := (hks.keep (Nat.le_refl 0) hBd.size fun _ _ _ => rfl).files
      have hks2' : FilesAt wr.drew wr.drew.heap.size a2 fs.length fs := (hks2.keep (Nat.le_refl 0) hBd.size fun _ _ _ => rfl).files
      clear hg1
      go_wp2_with fail
      go_still_tail 8, (by kernel_rfl)
      change wpList _ _ _ _ _ wr.drew
      go_wp2_with fail
      refine (eqEntry_any t s fs x a' a2 fs.length c' c2 _ hks' hks2' hfl).mono ?_
      rintro e w1 ⟨rfl, hB1⟩
      have hBB := hBd.trans (hB1.mono hBd.size)
      go_wp2_with fail
      go_roundw
      case rel => exact ⟨j + 1, by omega, by go_num, hBB⟩
      case measure => simp [intOf]; omega
    · go_wp2_with fail
      go_ret
      exact ⟨rfl, hB⟩

/-- block g is a box with an entry -/
def BxN (w : World) (g : Nat) (t s : ByteArray) (v : Value) (x : ByteArray) (T : TypeId) : Prop := w.heap[g]? = some (.cells #[.string t, .string s, v, .string x] T (0, 0))
section
variable {w w' : World} {g : Nat} {s t x : ByteArray} {v : Value} {T : TypeId}
theorem BxN.new (w : World) (t s : ByteArray) (v : Value) (x : ByteArray) (T : TypeId) : BxN (w.alloc (.cells #[.string t, .string s, v, .string x] T)) w.heap.size t s v x T := heap_alloc_new w _
theorem BxN.next (h : BxN w g t s v x T) (hB : Below w.heap.size w w') : BxN w' g t s v x T := (hB.block g (blk_lt h)).trans h
theorem BxN.below {D : Nat} (h : BxN w g t s v x T) (hg : g < D) (hB : Below D w w') : BxN w' g t s v x T := (hB.block g hg).trans h
theorem BxN.alloc (h : BxN w g t s v x T) (o : Obj) : BxN (w.alloc o) g t s v x T := (Below.heap_alloc w o g (blk_lt h)).trans h
theorem BxN.facts (h : BxN w g t s v x T) : w.cell? ⟨g, 0, none⟩ = some (.string t) ∧ w.cell? ⟨g, 1, none⟩ = some (.string s) ∧ w.cell? ⟨g, 2, none⟩ = some v ∧ w.cell? ⟨g, 3, none⟩ = some (.string x) ∧ w.frozen? ⟨g, 0, none⟩ = false ∧ w.frozen? ⟨g, 1, none⟩ = false ∧ w.frozen? ⟨g, 2, none⟩ = false ∧ w.frozen? ⟨g, 3, none⟩ = false ∧ g < w.heap.size :=
  ⟨by rw [cell_of_row _ _ _ _ _ _ h]; rfl, by rw [cell_of_row _ _ _ _ _ _ h]; rfl, by rw [cell_of_row _ _ _ _ _ _ h]; rfl, by rw [cell_of_row _ _ _ _ _ _ h]; rfl, blk_frozen h 0, blk_frozen h 1, blk_frozen h 2, blk_frozen h 3, blk_lt h⟩
end
/-- what toEntry leaves -/
def ToEnP (t s : ByteArray) (fs : List Fl) (x : ByteArray) (w : World) (e : Ending) (w' : World) : Prop :=
  ∃ g, e = .returned (.agg #[.string t, .string s, .slice (some ⟨g, 0, none⟩) fs.length fs.length, .string x]) ∧ w.heap.size ≤ g ∧ OwnF w' 62 g fs ∧ Below w.heap.size w w'

set_option maxHeartbeats 1000000 in
theorem toEntry_any (t s : ByteArray) (fs : List Fl) (x : ByteArray) (a : Option Addr) (n c : Nat) (w : World) (hk : FilesAt w w.heap.size a n fs) (hn : n ≤ 1048576) :
    Calls Tryz.prog 17 #[.agg #[.string t, .string s, .slice a n c, .string x]] w (ToEnP t s fs x w) := by
  obtain rfl : fs.length = n := hk.1
  have B3 := (((Below.refl w.heap.size w).alloc (Nat.le_refl _) (.cells #[.string t, .string s, .slice a fs.length c, .string x] 38)).alloc (by simp) (.cells #[.string .empty, .string .empty, .slice none 0 0, .string .empty] 26)).alloc (by simp; omega) (.cells #[.string t, .string s, .slice none 0 0, .string .empty] 26)
  have hz : (((w.alloc (.cells #[.string t, .string s, .slice a fs.length c, .string x] 38)).alloc (.cells #[.string .empty, .string .empty, .slice none 0 0, .string .empty] 26)).alloc (.cells #[.string t, .string s, .slice none 0 0, .string .empty] 26)).heap.size = w.heap.size + 3 := by simp
  have hp3 := ((BxN.new w t s (.slice a fs.length c) x 38).alloc (.cells #[.string .empty, .string .empty, .slice none 0 0, .string .empty] 26)).alloc (.cells #[.string t, .string s, .slice none 0 0, .string .empty] 26)
  have hr3 := (BxN.new (w.alloc (.cells #[.string t, .string s, .slice a fs.length c, .string x] 38)) .empty .empty (.slice none 0 0) .empty 26).alloc (.cells #[.string t, .string s, .slice none 0 0, .string .empty] 26)
  have hb3 := BxN.new ((w.alloc (.cells #[.string t, .string s, .slice a fs.length c, .string x] 38)).alloc (.cells #[.string .empty, .string .empty, .slice none 0 0, .string .empty] 26)) t s (.slice none 0 0) .empty 26
  simp only [World.size_alloc] at hb3 hr3
  have hk3 := (hk.below B3).more B3.size
  go_enter Tryz.func17, Tryz.ntmps17
  go_wp2_with fail
  refine (toFileS_any a fs.length c fs _ hk3 hn).mono ?_
  rintro e w1 ⟨g, rfl, hg, hown, hB1⟩
  obtain ⟨a0, a1, a2, a3, g0, g1, g2, g3, hgl⟩ := (hp3.next hB1).facts
  obtain ⟨c0, c1, c2, c3, f0, f1, f2, f3, hl⟩ := (hb3.next hB1).facts
  obtain ⟨d0, d1, d2, d3, e0, e1, e2, e3, hdl⟩ := (hr3.next hB1).facts
  rw [hz] at hg hB1
  have Bx := B3.trans (hB1.mono (by omega))
  clear hb3 hr3 hk3 hp3
  go_wp2_with fail
  refine bodyPost_ret (v := .agg #[.string t, .string s, .slice (some ⟨g, 0, none⟩) fs.length fs.length, .string x]) (by simp [results, Tryz.results17, go_sem, *]) rfl ?_
  refine ⟨g, rfl, by omega, ?_, ?_⟩
  · repeat (refine OwnF.far ?_ (by simp; omega) _)
    exact hown
  · exact (((((Bx.setCell (by simp; omega) _).setCell (by simp; omega) _).setCell (by simp) _).setCell (by simp) _).setCell (by simp) _).setCell (by simp) _
end Go.Proofs.YtaiijnepeccllaaGreat
