/-
  The program's ExprReads.
-/
import Derived.Test.YtbcghkdjhicocaaGreatDyn
import Derived.Test.YtbcghkdjhicocaaGreatOwnS
namespace Go.Proofs.YtbcghkdjhicocaaGreat
set_option linter.unusedVariables false
set_option linter.unusedSimpArgs false
open Go.RowKit Go.Shelf
attribute [local go_sem] Oper.semAt_some

/-- one read more: its path, unless it is there or there is none -/
def addN (xs : List ByteArray) : Option ByteArray → List ByteArray
  | none => xs
  | some s => if hasB xs s then xs else xs ++ [s]
/-- the paths that these reads name, each once -/
def uniqN (xs : List ByteArray) (l : List (Option ByteArray)) : List ByteArray := l.foldl addN xs
/-- what ExprReads answers -/
def readsE (k : Int) (s : ByteArray) (ks : Fo) : List ByteArray := if validE k s ks then uniqN [] (rd1 k ks) else []
/-- the paths that these reads name, as the loop gathers them -/
def uq (pre : List RV) : List ByteArray := uniqN [] (pre.map RV.nm)
theorem addN_length (xs : List ByteArray) (o : Option ByteArray) : (addN xs o).length ≤ xs.length + 1 := by
  cases o with
  | none => simp [addN]
  | some s => unfold addN; dsimp only; split <;> simp
theorem uniqN_length : ∀ (l : List (Option ByteArray)) (xs : List ByteArray), (uniqN xs l).length ≤ xs.length + l.length
  | [], xs => Nat.le_refl _
  | o :: l, xs => by
    have h1 := uniqN_length l (addN xs o)
    have h2 := addN_length xs o
    show (uniqN (addN xs o) l).length ≤ _
    simp only [List.length_cons]
    omega
theorem uniqN_snoc (xs : List ByteArray) (l : List (Option ByteArray)) (o : Option ByteArray) : uniqN xs (l ++ [o]) = addN (uniqN xs l) o := by unfold uniqN; rw [List.foldl_append]; rfl
theorem uq_snoc (pre : List RV) (r : RV) : uq (pre ++ [r]) = addN (uq pre) r.nm := by unfold uq; rw [List.map_append]; exact uniqN_snoc _ _ _
theorem rdl_length : ∀ f : Fo, (rdl f).length ≤ f.size
  | .nil => Nat.le_refl _
  | .node k s ks r => by
    have h1 := rdl_length ks
    have h2 := rdl_length r
    rw [rdl_node]
    unfold rd1
    simp only [List.length_append, Fo.size]
    split <;> simp <;> omega
theorem rd1_length (k : Int) (f : Fo) : (rd1 k f).length ≤ f.size + 1 := by
  have := rdl_length f
  unfold rd1
  simp only [List.length_append]
  split <;> simp <;> omega

theorem nodes_appended {W w1 : World} {B n₀ k : Nat} {v v' : Value} {xs : List Value} {tmp : Obj} (hv : Boxed W B 30 v) (hrow : W.ownsRow n₀ 9 1 v k xs) (hgrow : (W.alloc tmp).grownBy w1 v.ownBlock) : NodesKept W (w1.setCell ⟨B, 0, none⟩ v') := by
  intro i cs fr hi
  have hlt : i < W.heap.size := (Array.getElem?_eq_some_iff.1 hi).1
  have h1 : (W.alloc tmp).heap[i]? = _ := (Below.heap_alloc W tmp i hlt).trans hi
  have hne : some i ≠ v.ownBlock := by
    rcases hrow.2 with ⟨rfl, _⟩ | ⟨g, cap, cur, rfl, _, hgb, _⟩
    · simp [Value.ownBlock]
    · intro e
      obtain rfl : i = g := by simpa [Value.ownBlock] using e
      rw [hi] at hgb
      cases hgb
  have hneB : i ≠ B := by
    rintro rfl
    have h3 := hi.symm.trans (show W.heap[i]? = _ from hv)
    cases h3
  exact (Below.heap_setCell w1 ⟨B, 0, none⟩ v' i hneB).trans ((hgrow.block i (by simp; omega) hne).trans h1)

set_option maxRecDepth 100000 in
set_option maxHeartbeats 4000000 in
theorem readsI_in (k : Int) (s : ByteArray) (ks : Fo) (a : Option Addr) (n c : Nat) (w : World) (hk : KA w 0 w.heap.size ks a n) (hs : s.size ≤ maxLen) (hfit : ks.Fits) (hn : n ≤ maxLen) :
    CallsIn Fence.wide 6 Tryz.prog 8 #[.agg #[.int .i64 k, .string s, .slice a n c]] w (StrsR (readsE k s ks) w) := by
  have hro : Fence.wide.round = none := rfl
  have hB0 := (Below.refl w.heap.size w).alloc (Nat.le_refl _) (.cells #[.int .i64 k, .string s, .slice a n c] 25)
  have Hno := Lib.hid (nodeOf_any k s ks a n c _ (hk.next hB0) hs hfit hn)
  have HB0 := Lib.hid hB0
  clear hk hs hfit hn hB0
  refine callsIn_of_wp_marks Tryz.func8 rfl trivial ?_ hro
  simp only [Tryz.ntmps8, List.size_toArray, List.length_cons, List.length_nil, Nat.reduceAdd, Nat.reduceSub, Array.replicate_succ, Array.replicate_zero, List.push_toArray, List.append_toArray, List.nil_append, List.cons_append]
  rcases Bool.eq_false_or_eq_true (validE k s ks) with hv | hv
  case inr =>
    have hdy : readsE k s ks = [] := by unfold readsE; rw [hv]; rfl
    have Hdy := Lib.hid hdy
    have Hv := Lib.hid hv
    clear hdy hv
    gi_wp2_with fail
    refine ⟨trivial, ?_⟩
    refine (callsIn_wide.2 Hno.out).mono ?_
    intro e w1 hpost
    unfold NodeP at hpost
    rw [if_neg (by rw [Hv.out]; simp)] at hpost
    obtain ⟨rfl, hB⟩ := hpost
    have HBB := Lib.hid (HB0.out.trans (hB.mono HB0.out.size))
    clear hB
    gi_wp2_with fail
    refine ⟨_, results_tmp rfl _ _ _, ?_⟩
    exact StrsR.none Hdy.out HBB.out
  case inl =>
    obtain ⟨hn1, hg1, hs1⟩ := valid_good hv
    have hre : readsE k s ks = uniqN [] (rd1 k ks) := by unfold readsE; rw [hv]; rfl
    have HR := Lib.hid hre
    have Hv := Lib.hid (And.intro hv (And.intro hn1 (And.intro hg1 hs1)))
    clear hv hn1 hg1 hs1 hre
    gi_wp2_with fail
    refine ⟨trivial, ?_⟩
    refine (callsIn_wide.2 Hno.out).mono ?_
    intro e w1 hpost
    unfold NodeP at hpost
    rw [if_pos Hv.out.1] at hpost
    obtain ⟨v, rfl, hnv, hB⟩ := hpost
    obtain ⟨t, x, rfl⟩ := hnv.iface
    have HBB := Lib.hid (HB0.out.trans (hB.mono HB0.out.size))
    have Hnv := Lib.hid hnv
    clear hB hnv
    gi_wp2_with fail
    refine ⟨trivial, ?_⟩
    refine (seq_make 5 t x _).mono ?_
    rintro e w3 ⟨rfl, rfl⟩
    gi_wp2_with fail
    obtain ⟨i0, hi, hz0, hz1, hz2⟩ := info_parts infoStr
    have hN0 : ((w1.alloc (.cells #[.slice none 0 0] 30)).alloc (.cells #[.iface t x] 42)).cell? ⟨w1.heap.size + 1, 0, none⟩ = some (.iface t x) := by rw [cell_of_row _ _ _ _ _ _ (box_last w1 _ _)]; rfl
    have bP := (Boxed.new w1 30 (.slice none 0 0)).alloc (.cells #[.iface t x] 42)
    have hB3 := Lib.hid (((Below.refl w1.heap.size w1).alloc (Nat.le_refl _) (.cells #[.slice none 0 0] 30)).alloc (by simp) (.cells #[.iface t x] 42))
    have Hn3 := Lib.hid (Hnv.out.keep (Nat.le_refl _) (Nat.le_refl _) fun p h1 h2 => hB3.out.cell h2)
    have hsz : ((w1.alloc (.cells #[.slice none 0 0] 30)).alloc (.cells #[.iface t x] 42)).heap.size = w1.heap.size + 2 := by simp
    have hww := HBB.out.size
    obtain ⟨W3, hW3⟩ : ∃ W3, (w1.alloc (.cells #[.slice none 0 0] 30)).alloc (.cells #[.iface t x] 42) = W3 := ⟨_, rfl⟩
    rw [hW3] at hN0 bP hB3 Hn3 hsz ⊢
    clear hW3
    refine wpIn_rangeFunc_ownH hro (by omega) (gf := 33) (lb := #[.pointer (some ⟨w1.heap.size + 1, 0, none⟩)]) rfl trivial (enters_of Tryz.func33 (by kernel_rfl) rfl)
      (seq_stops 5 (w1.heap.size + 1) w1.heap.size _ k s ks _ W3 Hv.out.2.1 Hv.out.2.2.1 (by have := Hv.out.2.2.2; omega) (by omega) (by omega) hN0 Hn3.out)
      KpN.trans (kpN_b (by omega)) (Below.refl _ _) (fun _ => rfl)
      (fun pre W => (∃ v, Boxed W w1.heap.size 30 v ∧ W.ownsRow w1.heap.size 9 1 v (uq pre).length ((uq pre).map Value.string) ∧ True) ∧ Below w1.heap.size w1 W)
      (fun _ _ _ => False)
      (OwnFrom.and (Own.from (holdsRow_own w1.heap.size w1.heap.size 30 9 1 (fun pre => (uq pre).length) (fun pre => (uq pre).map Value.string) (fun pre v => True)) _) (ownFrom_below (Nat.le_refl _) (by omega)))
      (fun _ _ _ _ _ hs _ _ => hs)
      ⟨⟨_, bP, World.ownsRow_nil _ _ _ _, trivial⟩, hB3.out⟩
      (fun r a' W => ∃ Bx, Boxed W Bx 52 r.val ∧ a' = { tmps := #[.agg #[.int .i64 k, .string s, .slice a n c], .pointer (some ⟨w.heap.size, 0, none⟩), .slice none 0 0, .iface t x, .bool true, .pointer (some ⟨w1.heap.size, 0, none⟩), .pointer (some ⟨Bx, 0, none⟩), undef, undef, .tuple #[.iface t x, .bool true], .agg #[.int .i64 k, .string s, .slice a n c], .tuple #[.iface t x, .bool true], .iface t x, .bool true, .bool true, .bool false, .iface t x, .func (.func 33) #[] #[.pointer (some ⟨w1.heap.size + 1, 0, none⟩)], .agg #[r.val], undef, undef, undef, undef, undef, undef, undef, undef, undef, undef, undef, undef, undef, undef, undef, undef, undef], defers := [] })
      (fun x a' _ X Y row hs hg hr => by
        obtain ⟨Bx, h2, h3⟩ := hs
        exact ⟨Bx, boxed_own Bx _ (fun (_ : Unit) => x.val) () X Y row h2 hg (fun r e => (hr r e).2), h3⟩)
      ?assign ?body ?done ?stop
    case assign =>
      rintro l pre r W K ⟨⟨v, hv, hrow, -⟩, hB1⟩ hK
      obtain ⟨t', x', hrv⟩ : ∃ t x, r.val = .iface t x := by cases r <;> exact ⟨_, _, rfl⟩
      simp only [encR, hrv] at hK ⊢
      gi_wp2_with fail
      exact hK _ _ ((KeepsOthers.alloc _ _).from _) (KpN.of ((Below.refl W.heap.size W).alloc (Nat.le_refl _) _) hB1.size)
        ⟨⟨v, hv.alloc _, hrow.alloc _, trivial⟩, hB1.alloc hB1.size _⟩ ⟨W.heap.size, Boxed.new W _ _, rfl⟩
    case body =>
      rintro l pre r a' W hl ⟨rr, hr⟩ ⟨⟨v, hv, hrow, -⟩, hB1⟩ ⟨Bx, hX, rfl⟩ hlt
      obtain ⟨t', x', hrv⟩ : ∃ t x, r.val = .iface t x := by cases r <;> exact ⟨_, _, rfl⟩
      have hnm := name_any r
      rw [hrv] at hX hnm
      simp only [hrv]
      have hXc := hX.cell
      have Hcall := Lib.hid (hnm W)
      have hul : (uq pre).length ≤ 20 := by
        have h1 := uniqN_length (pre.map RV.nm) []
        have h2 := rd1_length k ks
        have h3 := Hv.out.2.2.2
        simp only [List.length_nil, List.length_map] at h1
        unfold uq
        omega
      clear hnm
      gi_wp2_with fail
      refine ⟨trivial, ?_⟩
      refine ((callsIn_wide.2 Hcall.out).inRound l).mono ?_
      rintro e W7 ⟨rfl, hB7⟩
      have hv7 : Boxed W7 w1.heap.size 30 v := (hB7.block _ hv.lt).trans hv
      have hrow7 : OwnsS W7 w1.heap.size v (uq pre) := strs_below hrow hB7
      have Hkf := Lib.hid (keepsB hB7 W3.heap.size)
      have HK7 := Lib.hid (KpN.of hB7 hB1.size)
      have Hb17 := Lib.hid (hB1.trans (hB7.mono hB1.size))
      have hc7 := hv7.cell
      clear hB7
      obtain ⟨ra, rc, rfl, hsv⟩ := hrow7.form
      cases hq : r.nm with
      | none =>
        have hun : uq (pre ++ [r]) = uq pre := by rw [uq_snoc, hq]; rfl
        have Hun := Lib.hid hun
        clear hun
        simp only [Option.getD_none, Option.isSome_none]
        gi_wp2_with fail
        refine ⟨trivial, ?_⟩
        gi_wp2_with fail
        exact ⟨Hkf.out, HK7.out, ⟨_, hv7, by rw [Hun.out]; exact hrow7, trivial⟩, Hb17.out⟩
      | some p =>
        have hun : uq (pre ++ [r]) = addN (uq pre) (some p) := by rw [uq_snoc, hq]
        simp only [Option.getD_some, Option.isSome_some]
        have Hcon := Lib.hid (contains_any ra (uq pre).length rc (uq pre) p W7 hsv (by unfold maxLen; omega))
        cases hh : hasB (uq pre) p with
        | true =>
          have Hun := Lib.hid (hun.trans (by show (if hasB (uq pre) p then _ else _) = _; rw [hh]; rfl : addN (uq pre) (some p) = uq pre))
          clear hun
          rw [hh] at Hcon
          clear hh
          gi_wp2_with fail
          refine ⟨trivial, ?_⟩
          refine ((callsIn_wide.2 Hcon.out).inRound l).mono ?_
          rintro e W8 ⟨rfl, rfl⟩
          gi_wp2_with fail
          exact ⟨Hkf.out, HK7.out, ⟨_, hv7, by rw [Hun.out]; exact hrow7, trivial⟩, Hb17.out⟩
        | false =>
          have Hun := Lib.hid (hun.trans (by show (if hasB (uq pre) p then _ else _) = _; rw [hh]; rfl : addN (uq pre) (some p) = uq pre ++ [p]))
          clear hun
          rw [hh] at Hcon
          clear hh
          gi_wp2_with fail
          refine ⟨trivial, ?_⟩
          refine ((callsIn_wide.2 Hcon.out).inRound l).mono ?_
          rintro e W8 ⟨rfl, rfl⟩
          have Hv7 := Lib.hid (And.intro hv7 (And.intro hrow7 Hb17.out.size))
          clear hv7 hrow7 hsv hrow
          gi_wp2_with (gi_at_builtin; refine wpListIn_append_own _ rfl _ _ 30 rfl w1.heap.size 9 i0 (.string .empty) 1 16 underStrs hi hz0 hz1 hz2 rfl (by decide) _ _ _ rfl (World.ownsRow.alloc Hv7.out.2.1 _) ⟨W8.heap.size, 0, none⟩ 1 1 [.string p] rfl rfl (cell_one_new _ _ _) (by simp [Value.oneCell']) (by unfold maxLen; omega) (by omega) (by have := Hv7.out.2.2; simp; omega) ?_; intro v' w8 hown' hgrow _; obtain ⟨g', cap', rfl⟩ := ownsRow_succ hown'; obtain ⟨hv1, hv2, hr2, hk2, hb2⟩ := Hv7.out.1.appended (by decide) Hv7.out.2.1 Hv7.out.2.2 (Nat.le_refl _) hown' hgrow; have hc1 := hv1.cell; have hf1 := hv1.frozen)
          have hrow8 : (w8.setCell ⟨w1.heap.size, 0, none⟩ (.slice (some ⟨g', 0, none⟩) ((uq pre).length + 1) cap')).ownsRow w1.heap.size 9 1 (.slice (some ⟨g', 0, none⟩) ((uq pre).length + 1) cap') (uq (pre ++ [r])).length ((uq (pre ++ [r])).map Value.string) := by
            rw [Hun.out]
            simpa using hr2
          exact ⟨Hkf.out.trans (hk2.from _), HK7.out.trans ⟨hb2, nodes_appended Hv7.out.1 Hv7.out.2.1 hgrow⟩, ⟨_, hv2, hrow8, trivial⟩, Hb17.out.trans hb2⟩
    case done =>
      rintro D ys W hD hys ⟨⟨v, hv, hrow, -⟩, hB1⟩ hK
      have hc := hv.cell
      have hfin : uq ys = readsE k s ks := by rw [HR.out, ← hys]; rfl
      have Hfin := Lib.hid hfin
      clear hfin hys
      gi_wp2_with fail
      refine ⟨by simp, .inl ⟨_, _, rfl, run_takeDeferred hK, ?_⟩⟩
      refine ⟨_, results_tmp rfl _ _ _, ?_⟩
      refine ⟨v, rfl, ?_, (HBB.out.trans (hB1.mono hww)).trans ((belowK_b (w := W3) (n₀ := w.heap.size) (by omega) W D _ _ hD hK rfl rfl))⟩
      rw [← Hfin.out]
      exact World.ownsRow.mono (ownsRow_putObj hrow _ hK rfl) hww
    case stop =>
      rintro D c pre W _ _ h _
      exact h.elim
theorem readsI_expr (k : Int) (s : ByteArray) (ks : Fo) (a : Option Addr) (n c : Nat) (w : World) (hk : KA w 0 w.heap.size ks a n) (hs : s.size ≤ maxLen) (hfit : ks.Fits) (hn : n ≤ maxLen) :
    Calls Tryz.prog 8 #[.agg #[.int .i64 k, .string s, .slice a n c]] w (StrsR (readsE k s ks) w) :=
  callsIn_wide.1 (readsI_in k s ks a n c w hk hs hfit hn)
end Go.Proofs.YtbcghkdjhicocaaGreat
