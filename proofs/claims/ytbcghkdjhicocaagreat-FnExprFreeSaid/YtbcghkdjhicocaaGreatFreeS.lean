/-
  The model's l2Free.
-/
import Derived.Test.YtbcghkdjhicocaaGreatFreeI
import Derived.Test.YtbcghkdjhicocaaGreatFreeD
import Derived.Test.YtbcghkdjhicocaaGreatBoxE
import Derived.StillTailTactics
namespace Go.Proofs.YtbcghkdjhicocaaGreat
set_option linter.unusedVariables false
open Go.RowKit

/-- what l2Free leaves -/
def LrP (r : Option ByteArray) (w : World) (e : Ending) (w' : World) : Prop :=
  (∀ x, r = some x → e = .returned (.tuple #[.string x, .bool true])) ∧ (r = none → ∃ y, e = .returned (.tuple #[.string y, .bool false])) ∧ Below w.heap.size w w'
theorem LrP.yes {r : Option ByteArray} {x : ByteArray} {w w' : World} (h : r = some x) (hB : Below w.heap.size w w') : LrP r w (.returned (.tuple #[.string x, .bool true])) w' :=
  ⟨fun y hy => (by rw [h] at hy; cases hy; rfl), fun hn => (by rw [h] at hn; cases hn), hB⟩
theorem LrP.no {r : Option ByteArray} {y : ByteArray} {w w' : World} (h : r = none) (hB : Below w.heap.size w w') : LrP r w (.returned (.tuple #[.string y, .bool false])) w' :=
  ⟨fun y hy => (by rw [h] at hy; cases hy), fun _ => ⟨y, rfl⟩, hB⟩
/-- the contract of l2Free at one node -/
def LrC (k : Int) (s : ByteArray) (ks : Fo) : Prop := ∀ (a : Option Addr) (n c : Nat) (w : World), KA w 0 w.heap.size ks a n → nodeB k s ks.len = true → good ks = true → ks.size ≤ 1000 →
  Calls Tryz.prog 19 #[.agg #[.int .i64 k, .string s, .slice a n c]] w (LrP (fr1 k s ks) w)
/-- strings one after the other, the rest of them -/
theorem cat_drop {xs : List ByteArray} {j : Nat} {x : ByteArray} (h : xs[j]? = some x) : catS (xs.drop j) = x ++ catS (xs.drop (j + 1)) := by
  obtain ⟨hl, he⟩ := List.getElem?_eq_some_iff.1 h
  rw [List.drop_eq_getElem_cons hl, he]
  rfl

set_option maxRecDepth 100000 in
set_option maxHeartbeats 4000000 in
theorem lr_of (k : Int) (s : ByteArray) (ks : Fo) (ih : ∀ k' s' ks', Fo.size ks' < ks.size → LrC k' s' ks') : LrC k s ks := by
  intro a n c w hk hn hg hz
  have hkl : ks.len = n := hk.1
  have hB0 := (Below.refl w.heap.size w).alloc (Nat.le_refl _) (.cells #[.int .i64 k, .string s, .slice a n c] 25)
  obtain ⟨i0, hi, hz0, hzz1, hzz2⟩ := info_parts str_info
  have hn1000 : n ≤ 1000 := by have := ks.len_size; omega
  by_cases hk1 : k = 1
  · subst hk1
    have hfr : fr1 1 s ks = some s := rfl
    rw [hfr]
    clear hfr hkl hn
    go_enter Tryz.func19, Tryz.ntmps19
    go_wp2_with fail
    go_ret2
    exact LrP.yes rfl hB0
  by_cases hk2 : k = 2
  · subst hk2
    have hfr : fr1 2 s ks = none := by
      unfold fr1
      rw [if_neg (by decide)]
      cases frS ks with
      | none => rfl
      | some xs => rfl
    rw [hfr]
    clear hfr hkl hn
    go_enter Tryz.func19, Tryz.ntmps19
    go_wp2_with fail
    go_ret2
    exact LrP.no rfl hB0
  have e1 : (k == 1) = false := beq_eq_false_iff_ne.2 hk1
  have e2 : (k == 2) = false := beq_eq_false_iff_ne.2 hk2
  have hfr1 : fr1 k s ks = (frS ks).bind (comb k) := by unfold fr1; rw [if_neg hk1]
  have Hfr1 := Lib.hid hfr1
  have Hg := Lib.hid hg
  have Hkinds := Lib.hid (node_kinds hn)
  have Hkl := Lib.hid hkl
  clear hfr1 hg hn hkl
  go_enter Tryz.func19, Tryz.ntmps19
  go_wp2_with fail
  go_loopw [4, 5] (fun rv i wr => ∃ (j : Nat) (xs : List ByteArray), j ≤ n ∧ xs.length = j ∧ i = .int .i64 j ∧ wr.ownsRow (w.heap.size + 1) 9 1 rv j (xs.map Value.string) ∧ frS ks = (frS (ks.drop j)).map (xs ++ ·) ∧ (∀ y ∈ xs, y.size ≤ 60) ∧ BxE wr w.heap.size k s (.slice a n c) 25 ∧ Below w.heap.size w wr) (fun _ i _ => n - (intOf i).toNat)
  case atStart => exact ⟨0, [], Nat.zero_le _, rfl, rfl, by have := World.ownsRow_made (w := (w.alloc (.cells #[.int .i64 k, .string s, .slice a n c] 25))) (base := w.heap.size + 1) (e := 9) (size := 1) #[] 0 (by simp) (by simp [maxLen]) rfl; simpa using this, (by rw [Fo.drop_zero]; cases frS ks <;> rfl), by simp, (BxE.new w k s (.slice a n c) 25).next ((Below.refl _ _).alloc (Nat.le_refl _) _), hB0.alloc (by simp) _⟩
  case round =>
    obtain ⟨j, xs, hj, hxl, rfl, hown, hfr, hys, hbx, hBB⟩ := hrel
    subst hxl
    obtain ⟨ra, rc, rfl, hst, hrc⟩ := own_st hown
    have q0 := BxE.c0 hbx
    have q1 := BxE.c1 hbx
    have q2 := BxE.c2 hbx
    have hwr := blk_lt hbx
    have Hbx := Lib.hid hbx
    have Hown := Lib.hid hown
    have Hfr := Lib.hid hfr
    have Hys := Lib.hid hys
    have Hst := Lib.hid hst
    by_cases hlt : xs.length < n
    · obtain ⟨b, off, k', s', ks', a', n', c', rfl, _, hb, hgt, hc1, hc2, hc3, hcap, hks⟩ := (hk.below hBB).get hlt
      obtain ⟨hn', hg'⟩ := good_get Hg.out hgt
      have hsz := Fo.get_size hgt
      have Hih := Lib.hid (ih k' s' ks' (by omega) a' n' c' wr (hks.more (Nat.le_refl 0) hBB.size) hn' hg' (by omega))
      have hfd : frS (ks.drop xs.length) = (fr1 k' s' ks').bind fun x => (frS (ks.drop (xs.length + 1))).map (x :: ·) := by rw [Fo.drop_get hgt, frS_node]
      have Hfd := Lib.hid hfd
      have Hsize := Lib.hid (fun x (hx : fr1 k' s' ks' = some x) => fr1_size hn' hg' hx)
      clear hown hfr hys hst hgt hn' hg' hks hfd hbx
      go_wp2_with fail
      refine Hih.out.mono ?_
      intro e w2 hpost
      obtain ⟨hyes, hno, hB2⟩ := hpost
      cases hfx : fr1 k' s' ks' with
      | none =>
        obtain ⟨y, rfl⟩ := hno hfx
        have hnn : fr1 k s ks = none := by rw [Hfr1.out, Hfr.out, Hfd.out, hfx]; rfl
        have Hnn := Lib.hid hnn
        have HB3 := Lib.hid (hBB.trans (hB2.mono hBB.size))
        clear hfx hnn hB2 hyes hno
        go_wp2_with fail
        go_ret2
        exact LrP.no Hnn.out HB3.out
      | some x =>
        obtain rfl := hyes x hfx
        have hown2 : w2.ownsRow (w.heap.size + 1) 9 1 (.slice ra xs.length rc) xs.length (xs.map Value.string) := Hown.out.kept (⟨hB2.os, hB2.tape, hB2.output, hB2.size, fun k hk _ => hB2.block k hk⟩ : wr.grownBy w2 none) (by cases hq : (Value.slice ra xs.length rc).ownBlock <;> simp)
        have hfx2 : frS ks = (frS (ks.drop (xs.length + 1))).map ((xs ++ [x]) ++ ·) := by
          rw [Hfr.out, Hfd.out, hfx, Option.bind_some]
          cases frS (ks.drop (xs.length + 1)) <;> simp
        have hx60 := Hsize.out x hfx
        have hys2 : ∀ y ∈ xs ++ [x], y.size ≤ 60 := fun y hy => by
          rcases List.mem_append.1 hy with hy | hy
          · exact Hys.out y hy
          · obtain rfl : y = x := by simpa using hy
            exact hx60
        have hB4 := hBB.trans (hB2.mono hBB.size)
        have hB5 := hB4.alloc hB4.size (.cells #[.string x] 9)
        have hbx2 := BxE.next (BxE.next Hbx.out hB2) ((Below.refl w2.heap.size w2).alloc (Nat.le_refl _) (.cells #[.string x] 9))
        have Hall := Lib.hid (And.intro hown2 (And.intro hfx2 (And.intro hys2 (And.intro hbx2 hB5))))
        have hsz2 : w.heap.size + 1 ≤ w2.heap.size := by have := hB2.size; omega
        clear hfx hown2 hfx2 hys2 hB4 hB5 hB2 hx60 hyes hno hbx2
        go_wp2_with (at_builtin; refine wpList_append_own _ rfl _ _ 30 rfl (w.heap.size + 1) 9 i0 _ 1 16 Tryz.underlying30 hi hz0 hzz1 hzz2 rfl (by decide) _ _ _ rfl (Hall.out.1.alloc _) ⟨w2.heap.size, 0, none⟩ 1 1 [.string x] rfl rfl (cell_one _ _ _) (by simp [Value.oneCell']) (by simp only [maxLen]; omega) (by omega) (by simp; omega) ?_; intro v4 w4 hown4 hgrow4 _)
        have hB6 := Hall.out.2.2.2.2.grown hgrow4 (by simp; omega) (fun g e => by have := (Hall.out.1.lt g e); omega)
        have hbx4 : BxE w4 w.heap.size k s (.slice (some ⟨b, off, none⟩) n c) 25 := (hgrow4.block w.heap.size (by simp; omega) (fun e => by have := (Hall.out.1.lt _ e.symm); omega)).trans Hall.out.2.2.2.1
        have Hfin := Lib.hid (show ∃ (j : Nat) (ys : List ByteArray), j ≤ n ∧ ys.length = j ∧ Value.int .i64 ((xs.length : Int) + 1) = .int .i64 j ∧ w4.ownsRow (w.heap.size + 1) 9 1 v4 j (ys.map Value.string) ∧ frS ks = (frS (ks.drop j)).map (ys ++ ·) ∧ (∀ y ∈ ys, y.size ≤ 60) ∧ BxE w4 w.heap.size k s (.slice (some ⟨b, off, none⟩) n c) 25 ∧ Below w.heap.size w w4 from
          ⟨xs.length + 1, xs ++ [x], by omega, by simp, rfl, by rw [List.map_append]; exact hown4, Hall.out.2.1, Hall.out.2.2.1, hbx4, hB6⟩)
        clear hown4 hgrow4 hB6 hbx4
        go_wp2_with fail
        exact ⟨Hfin.out, by simp [intOf]; omega⟩
    · have e0 : xs.length = n := by omega
      have hall : fr1 k s ks = comb k xs := by
        rw [Hfr1.out, Hfr.out, Fo.drop_all (f := ks) (j := xs.length) (by have := Hkl.out; omega)]
        simp [frS]
      have Hcomb := Lib.hid hall
      have HBB := Lib.hid hBB
      have hge : ¬ ((xs.length : Int) < (n : Int)) := by omega
      clear hown hfr hall hbx
      rcases Hkinds.out with ⟨h0, _, _⟩ | ⟨rfl, h4, hse⟩ | ⟨rfl, h4, hse⟩ | ⟨hkk, h1, hse⟩
      · exact absurd h0 hk1
      · have hx4 : xs.length ≤ 4 := by have := Hkl.out; omega
        clear hst hys
        go_wp2_with fail
        go_loopw [8, 9] (fun o i wq => ∃ (j : Nat) (z : ByteArray), j ≤ xs.length ∧ i = .int .i64 j ∧ o = .string z ∧ z ++ catS (xs.drop j) = catS xs ∧ z.size ≤ 60 * j ∧ Below wr.heap.size wr wq) (fun _ i _ => xs.length - (intOf i).toNat)
        case atStart => exact ⟨0, .empty, Nat.zero_le _, rfl, rfl, by simp, Nat.zero_le _, Below.refl _ _⟩
        case round =>
          obtain ⟨j, z, hj2, rfl, rfl, hcat, hzs, hBq⟩ := hrel
          have Hcat := Lib.hid hcat
          clear hcat
          by_cases hlt2 : j < xs.length
          · obtain ⟨b, off, rfl, hbw, hcells⟩ := Hst.out (by omega)
            have hxj : xs[j]? = some (xs[j]'hlt2) := List.getElem?_eq_getElem hlt2
            have hx60 := Hys.out _ (List.mem_of_getElem? hxj)
            have hcj := (hBq.cell (p := ⟨b, off + j, none⟩) hbw).trans (hcells j _ hxj)
            have Hxj := Lib.hid hxj
            generalize xs[j]'hlt2 = y at *
            clear hxj hcells
            go_wp2_with fail
            go_roundw
            case rel => exact ⟨j + 1, z ++ y, by omega, by go_num, rfl, by rw [← Hcat.out, cat_drop Hxj.out, ByteArray.append_assoc], by rw [ByteArray.size_append]; omega, hBq⟩
            case measure => simp [intOf]; omega
          · have hz : z = catS xs := by rw [← Hcat.out, List.drop_eq_nil_of_le (by omega)]; simp [catS]
            have Hz := Lib.hid hz
            have hBf := Lib.hid (HBB.out.trans (hBq.mono HBB.out.size))
            have hge2 : ¬ ((j : Int) < (xs.length : Int)) := by omega
            have hz240 : z.size ≤ 240 := by omega
            clear hz
            by_cases h60 : z.size ≤ 60
            · have h60i : (z.size : Int) ≤ 60 := by omega
              have Hc3 := Lib.hid (show fr1 3 s ks = some z by rw [Hcomb.out, Hz.out]; unfold comb; rw [if_pos rfl, if_pos (by rw [← Hz.out]; exact h60)])
              clear h60
              go_wp2_with fail
              go_ret2
              exact LrP.yes Hc3.out hBf.out
            · have h60i : ¬ (z.size : Int) ≤ 60 := by omega
              have Hc3 := Lib.hid (show fr1 3 s ks = none by rw [Hcomb.out]; unfold comb; rw [if_pos rfl, if_neg (by rw [← Hz.out]; exact h60)])
              clear h60
              go_wp2_with fail
              go_ret2
              exact LrP.no Hc3.out hBf.out
      · obtain ⟨y0, y1, y2, y3, rfl⟩ : ∃ y0 y1 y2 y3, xs = [y0, y1, y2, y3] := by
          match xs, (show xs.length = 4 by have := Hkl.out; omega) with
          | [y0, y1, y2, y3], _ => exact ⟨y0, y1, y2, y3, rfl⟩
        obtain ⟨b, off, rfl, hbw, hcells⟩ := Hst.out (by simp)
        have d0 : wr.cell? ⟨b, off, none⟩ = some (.string y0) := hcells 0 y0 rfl
        have d1 := hcells 1 y1 rfl
        have d2 := hcells 2 y2 rfl
        have d3 := hcells 3 y3 rfl
        simp only [List.length_cons, List.length_nil] at hge hj hrc e0 hlt ⊢
        obtain rfl : n = 4 := by omega
        clear hst hys hcells e0 hge hlt hj
        by_cases he : y0 = y1
        · subst he
          have hd : (y0.toList == y0.toList) = true := by simp
          have Hc4 := Lib.hid (show fr1 4 s ks = some y2 by rw [Hcomb.out]; unfold comb; simp)
          go_wp2_with fail
          go_quiet (fail)
          go_wp2_with fail
          go_ret2
          exact LrP.yes Hc4.out (below_drewN HBB.out _)
        · have hd : (y0.toList == y1.toList) = false := by rw [sEq]; exact decide_eq_false he
          have Hc4 := Lib.hid (show fr1 4 s ks = some y3 by rw [Hcomb.out]; unfold comb; simp [he])
          clear he
          go_wp2_with fail
          go_quiet (fail)
          go_wp2_with fail
          go_ret2
          exact LrP.yes Hc4.out (below_drewN HBB.out _)
      · have e3 : (k == 3) = false := beq_eq_false_iff_ne.2 (by omega)
        have e4 : (k == 4) = false := beq_eq_false_iff_ne.2 (by omega)
        obtain ⟨y, rfl⟩ : ∃ y, xs = [y] := by
          match xs, (show xs.length = 1 by have := Hkl.out; omega) with
          | [y], _ => exact ⟨y, rfl⟩
        obtain ⟨b, off, rfl, hbw, hcells⟩ := Hst.out (by simp)
        have d0 : wr.cell? ⟨b, off, none⟩ = some (.string y) := hcells 0 y rfl
        have hy60 := Hys.out y (by simp)
        simp only [List.length_cons, List.length_nil] at hge hj hrc e0 hlt ⊢
        obtain rfl : n = 1 := by omega
        clear e0 hge hlt hj
        have hgl := World.block_lt_of_cell? wr _ q0
        have Hk567 := Lib.hid (show k = 5 ∨ k = 6 ∨ k = 7 by omega)
        have Hc5 := Lib.hid (show fr1 k s ks = some ((comb k [y]).getD .empty) by
          rw [Hcomb.out]
          rcases Hk567.out with rfl | rfl | rfl <;> (unfold comb; simp))
        clear hst hys hcells hkk
        go_wp2_with fail
        go_still_tail 5, (by kernel_rfl)
        change wpList _ _ _ _ _ wr.drew
        go_wp2_with fail
        refine (apply_any k y _ Hk567.out hy60).mono ?_
        rintro e w6 ⟨rfl, hB6⟩
        have HB7 := Lib.hid (HBB.out.drew.trans (hB6.mono HBB.out.drew.size))
        clear hB6
        generalize (comb k [y]).getD ByteArray.empty = z at *
        go_wp2_with fail
        go_ret2
        exact LrP.yes Hc5.out HB7.out
theorem lr_all (N : Nat) : ∀ k s ks, Fo.size ks ≤ N → LrC k s ks := by
  induction N with
  | zero => exact fun k s ks hN => lr_of k s ks fun k' s' ks' h => absurd h (by omega)
  | succ N ih => exact fun k s ks hN => lr_of k s ks fun k' s' ks' h => ih k' s' ks' (by omega)
theorem fr_all (N : Nat) : ∀ k s ks, Fo.size ks ≤ N → FrC k s ks := by
  induction N with
  | zero => exact fun k s ks hN => fr_of k s ks fun k' s' ks' h => absurd h (by omega)
  | succ N ih => exact fun k s ks hN => fr_of k s ks fun k' s' ks' h => ih k' s' ks' (by omega)

set_option maxHeartbeats 400000 in
theorem freeS_expr (k : Int) (s : ByteArray) (ks : Fo) (a : Option Addr) (n c : Nat) (w : World) (hk : KA w 0 w.heap.size ks a n) (hs : s.size ≤ maxLen) (hfit : ks.Fits) (hn : n ≤ maxLen) (hz : ks.size ≤ 1048576) :
    Calls Tryz.prog 6 #[.agg #[.int .i64 k, .string s, .slice a n c]] w fun e w' => e = .returned (resV (freeE k s ks)) ∧ Below w.heap.size w w' := by
  have hB0 := (Below.refl w.heap.size w).alloc (Nat.le_refl _) (.cells #[.int .i64 k, .string s, .slice a n c] 25)
  have Hv := Lib.hid (validSE_any k s ks a n c _ (hk.next hB0) hs hfit hn hz)
  rcases Bool.eq_false_or_eq_true (validE k s ks) with hv | hv
  · obtain ⟨hn1, hg1, hs1⟩ := valid_good hv
    rw [show freeE k s ks = fr1 k s ks from by unfold freeE; rw [if_pos hv]]
    have Hvv := Lib.hid hv
    have Hng := Lib.hid (And.intro hn1 (And.intro hg1 hs1))
    clear hv hn1 hg1 hs1
    go_enter Tryz.func6, Tryz.ntmps6
    go_wp2_with fail
    refine Hv.out.mono ?_
    rintro e w1 ⟨rfl, hB1⟩
    rw [Hvv.out]
    obtain ⟨c0, c1, c2⟩ := box_cells hB1
    have hBB := hB0.trans (hB1.mono hB0.size)
    have hk1 := hk.next hBB
    go_wp2_with fail
    refine (lr_all ks.size k s ks (Nat.le_refl _) a n c _ hk1 Hng.out.1 Hng.out.2.1 (by have := Hng.out.2.2; omega)).mono ?_
    rintro e w2 ⟨hyes, hno, hB2⟩
    have hB3 := Lib.hid (hBB.trans (hB2.mono hBB.size))
    cases hfx : fr1 k s ks with
    | none =>
      obtain ⟨y, rfl⟩ := hno hfx
      have Hfx := Lib.hid hfx
      clear hfx hyes hno hB2
      go_wp2_with fail
      go_ret2
      exact ⟨by rw [Hfx.out]; rfl, hB3.out⟩
    | some x =>
      obtain rfl := hyes x hfx
      have Hfx := Lib.hid hfx
      clear hfx hyes hno hB2
      go_wp2_with fail
      go_ret2
      exact ⟨by rw [Hfx.out]; rfl, hB3.out⟩
  · rw [show freeE k s ks = none from by unfold freeE; rw [hv]; rfl]
    have Hvv := Lib.hid hv
    clear hv
    go_enter Tryz.func6, Tryz.ntmps6
    go_wp2_with fail
    refine Hv.out.mono ?_
    rintro e w1 ⟨rfl, hB1⟩
    rw [Hvv.out]
    have hBB := hB0.trans (hB1.mono hB0.size)
    go_wp2_with fail
    go_ret2
    exact ⟨rfl, hBB⟩

set_option maxRecDepth 100000 in
set_option maxHeartbeats 1000000 in
theorem freeI_expr (k : Int) (s : ByteArray) (ks : Fo) (a : Option Addr) (n c : Nat) (w : World) (hk : KA w 0 w.heap.size ks a n) (hs : s.size ≤ maxLen) (hfit : ks.Fits) (hn : n ≤ maxLen) :
    Calls Tryz.prog 5 #[.agg #[.int .i64 k, .string s, .slice a n c]] w fun e w' => e = .returned (resV (freeE k s ks)) ∧ Below w.heap.size w w' := by
  have hB0 := (Below.refl w.heap.size w).alloc (Nat.le_refl _) (.cells #[.int .i64 k, .string s, .slice a n c] 25)
  have Hno := Lib.hid (nodeOf_any k s ks a n c _ (hk.next hB0) hs hfit hn)
  have HB0 := Lib.hid hB0
  clear hk hs hfit hn hB0
  rcases Bool.eq_false_or_eq_true (validE k s ks) with hv | hv
  · rw [show freeE k s ks = fr1 k s ks from by unfold freeE; rw [if_pos hv]]
    obtain ⟨hn1, hg1, hs1⟩ := valid_good hv
    have Hv := Lib.hid (And.intro hv (And.intro hn1 (And.intro hg1 hs1)))
    clear hv hn1 hg1 hs1
    go_enter Tryz.func5, Tryz.ntmps5
    go_wp2_with fail
    refine Hno.out.mono ?_
    intro e w1 hpost
    unfold NodeP at hpost
    rw [if_pos Hv.out.1] at hpost
    obtain ⟨v, rfl, hnv, hB⟩ := hpost
    have HBB := Lib.hid (HB0.out.trans (hB.mono HB0.out.size))
    have Hfr := Lib.hid (fr_all ks.size k s ks (Nat.le_refl _) v _ w1.heap.size w1 hnv Hv.out.2.1 Hv.out.2.2.1 (by have := Hv.out.2.2.2; omega) (Nat.le_refl _))
    obtain ⟨t, x, rfl⟩ := hnv.iface
    clear hnv hB
    go_wp2_with fail
    refine Hfr.out.mono ?_
    rintro e w3 ⟨he, hB3⟩
    have HB4 := Lib.hid (HBB.out.trans (hB3.mono HBB.out.size))
    clear hB3
    cases hfx : fr1 k s ks with
    | none =>
      rw [hfx] at he
      subst he
      have Hfx := Lib.hid hfx
      clear hfx
      simp only [resV]
      go_wp2_with fail
      go_ret2
      exact ⟨by rw [Hfx.out]; rfl, HB4.out⟩
    | some x =>
      rw [hfx] at he
      subst he
      have Hfx := Lib.hid hfx
      clear hfx
      simp only [resV]
      go_wp2_with fail
      go_ret2
      exact ⟨by rw [Hfx.out]; rfl, HB4.out⟩
  · rw [show freeE k s ks = none from by unfold freeE; rw [hv]; rfl]
    have Hv := Lib.hid hv
    clear hv
    go_enter Tryz.func5, Tryz.ntmps5
    go_wp2_with fail
    refine Hno.out.mono ?_
    intro e w1 hpost
    unfold NodeP at hpost
    rw [if_neg (by rw [Hv.out]; simp)] at hpost
    obtain ⟨rfl, hB⟩ := hpost
    have hBB := HB0.out.trans (hB.mono HB0.out.size)
    clear hB
    go_wp2_with fail
    go_ret2
    exact ⟨rfl, hBB⟩
end Go.Proofs.YtbcghkdjhicocaaGreat
