/-
  The program's ExprDynamic.
-/
import Derived.Test.YtbcghkdjhicocaaGreatSeqR
namespace Go.Proofs.YtbcghkdjhicocaaGreat
set_option linter.unusedVariables false
open Go.RowKit Go.Shelf
attribute [local go_sem] Oper.semAt_some

theorem box_last (w : World) (o o' : Obj) : ((w.alloc o).alloc o').heap[w.heap.size + 1]? = some o' := by
  have h := heap_alloc_new (w.alloc o) o'
  rwa [World.size_alloc] at h
theorem keepsB {W W' : World} (h : Below W.heap.size W W') (B : Nat) : KeepsFrom B W W' := ⟨h.size, fun k o _ hk _ => (h.block k (Array.getElem?_eq_some_iff.1 hk).1).trans hk⟩
theorem kpN_b {n₀ : Nat} {w : World} (hn : n₀ ≤ w.heap.size) (W : World) (l : Nat) (o o' : Obj) (hl : w.heap.size ≤ l) (h : W.heap[l]? = some o) (h1 : o.isCells = false) (h2 : o.isWalk = false) : KpN n₀ W (W.putObj l o') :=
  ⟨belowK_b hn W l o o' hl h h1 h2, fun i cs fr hi => by
    by_cases he : i = l
    · subst he
      rw [h] at hi
      cases hi
      cases h1
    · exact (World.putObj_heap_other (by omega)).trans hi⟩
/-- a valid expression reads a path that it computes -/
def dynE (k : Int) (s : ByteArray) (ks : Fo) : Bool := validE k s ks && (rd1 k ks).any fun o => o.isNone

set_option maxRecDepth 100000 in
set_option maxHeartbeats 4000000 in
theorem dynI_in (k : Int) (s : ByteArray) (ks : Fo) (a : Option Addr) (n c : Nat) (w : World) (hk : KA w 0 w.heap.size ks a n) (hs : s.size ≤ maxLen) (hfit : ks.Fits) (hn : n ≤ maxLen) :
    CallsIn Fence.wide 6 Tryz.prog 9 #[.agg #[.int .i64 k, .string s, .slice a n c]] w fun e w' => e = .returned (.bool (dynE k s ks)) ∧ Below w.heap.size w w' := by
  have hro : Fence.wide.round = none := rfl
  have hB0 := ((Below.refl w.heap.size w).alloc (Nat.le_refl _) (.cells #[.int .i64 k, .string s, .slice a n c] 25)).alloc (by simp) (.cells #[.bool false] 4)
  have Hno := Lib.hid (nodeOf_any k s ks a n c _ (hk.next hB0) hs hfit hn)
  have HB0 := Lib.hid hB0
  clear hk hs hfit hn hB0
  refine callsIn_of_wp_marks Tryz.func9 rfl trivial ?_ hro
  simp only [Tryz.ntmps9, List.size_toArray, List.length_cons, List.length_nil, Nat.reduceAdd, Nat.reduceSub, Array.replicate_succ, Array.replicate_zero, List.push_toArray, List.append_toArray, List.nil_append, List.cons_append]
  rcases Bool.eq_false_or_eq_true (validE k s ks) with hv | hv
  case inr =>
    have hdy : dynE k s ks = false := by unfold dynE; rw [hv]; rfl
    have Hdy := Lib.hid hdy
    have Hv := Lib.hid hv
    clear hdy hv
    gi_wp2_with fail
    refine ⟨trivial, ?_⟩
    refine (callsIn_wide.2 Hno.out).mono ?_
    intro e w1 hpost
    unfold NodeP at hpost
    rw [if_neg (by rw [Hv.out]; simp)] at hpost
    obtain ⟨rfl, hB⟩ := hpost
    have hres : w1.heap[w.heap.size + 1]? = some (.cells #[.bool false] 4 (0, 0)) := (hB.block (w.heap.size + 1) (by simp)).trans (box_last w _ _)
    have hrc : w1.cell? ⟨w.heap.size + 1, 0, none⟩ = some (.bool false) := by rw [cell_of_row _ _ _ _ _ _ hres]; rfl
    have hrf := blk_frozen hres 0
    have HBB := Lib.hid (HB0.out.trans (hB.mono HB0.out.size))
    clear hB
    gi_wp2_with fail
    refine ⟨.bool false, ?_, by rw [Hdy.out], HBB.out.setCell (p := ⟨w.heap.size + 1, 0, none⟩) (by simp) _⟩
    simp [results, Tryz.f9, go_sem, hrc]
  case inl =>
    obtain ⟨hn1, hg1, hs1⟩ := valid_good hv
    have Hv := Lib.hid (And.intro hv (And.intro hn1 (And.intro hg1 hs1)))
    clear hv hn1 hg1 hs1
    gi_wp2_with fail
    refine ⟨trivial, ?_⟩
    refine (callsIn_wide.2 Hno.out).mono ?_
    intro e w1 hpost
    unfold NodeP at hpost
    rw [if_pos Hv.out.1] at hpost
    obtain ⟨v, rfl, hnv, hB⟩ := hpost
    obtain ⟨t, x, rfl⟩ := hnv.iface
    have hres : w1.heap[w.heap.size + 1]? = some (.cells #[.bool false] 4 (0, 0)) := (hB.block (w.heap.size + 1) (by simp)).trans (box_last w _ _)
    have HBB := Lib.hid (HB0.out.trans (hB.mono HB0.out.size))
    have Hnv := Lib.hid hnv
    have hW0 : w.heap.size + 2 ≤ w1.heap.size := by have := hB.size; simpa using this
    clear hB hnv
    gi_wp2_with fail
    refine ⟨trivial, ?_⟩
    refine (seq_make 5 t x _).mono ?_
    rintro e w3 ⟨rfl, rfl⟩
    have hN0 : (w1.alloc (.cells #[.iface t x] 42)).cell? ⟨w1.heap.size, 0, none⟩ = some (.iface t x) := by rw [World.cell?_alloc_new]; rfl
    have bR : Boxed (w1.alloc (.cells #[.iface t x] 42)) (w.heap.size + 1) 4 (.bool false) := Boxed.alloc (show Boxed w1 (w.heap.size + 1) 4 (.bool false) from hres) _
    have hB3 := Lib.hid (HBB.out.alloc (by omega) (.cells #[.iface t x] 42))
    have Hn3 := Lib.hid (Hnv.out.keep (Nat.le_refl _) (Nat.le_refl _) fun p h1 h2 => World.cell?_alloc_lt w1 (.cells #[.iface t x] 42) p h2)
    have hsz : (w1.alloc (.cells #[.iface t x] 42)).heap.size = w1.heap.size + 1 := World.size_alloc _ _
    gi_wp2_with fail
    obtain ⟨n₀, hn₀⟩ : ∃ n₀, w1.heap.size = n₀ := ⟨_, rfl⟩
    obtain ⟨W3, hW3⟩ : ∃ W3, w1.alloc (.cells #[.iface t x] 42) = W3 := ⟨_, rfl⟩
    rw [hW3] at hN0 bR hB3 Hn3 hsz ⊢
    rw [hn₀] at hN0 hsz hW0 Hn3 ⊢
    clear hW3 hres
    refine wpIn_rangeFunc_ownH hro (by omega) (gf := 33) (lb := #[.pointer (some ⟨n₀, 0, none⟩)]) rfl trivial (enters_of Tryz.func33 (by kernel_rfl) rfl)
      (seq_stops 5 n₀ n₀ _ k s ks _ W3 Hv.out.2.1 Hv.out.2.2.1 (by have := Hv.out.2.2.2; omega) (by omega) (by omega) hN0 Hn3.out)
      KpN.trans (kpN_b (by omega)) (Below.refl _ _) (fun _ => rfl)
      (fun pre W => (pre.map RV.nm).all (fun o => o.isSome) = true ∧ Boxed W (w.heap.size + 1) 4 (.bool false) ∧ Below w.heap.size W3 W)
      (fun c pre W => (c = .ret ∧ (pre.map RV.nm).any (fun o => o.isNone) = true) ∧ Boxed W (w.heap.size + 1) 4 (.bool true) ∧ Below w.heap.size W3 W)
      (OwnFrom.and (fun _ _ _ _ hs _ _ => hs) (OwnFrom.and (Own.from (boxed_own _ _ (fun _ => _)) _) (ownFrom_below hB3.out.size hB3.out.size)))
      (fun c => OwnFrom.and (fun _ _ _ _ hs _ _ => hs) (OwnFrom.and (Own.from (boxed_own _ _ (fun _ => _)) _) (ownFrom_below hB3.out.size hB3.out.size)))
      ⟨rfl, bR, Below.refl _ _⟩
      (fun r a' W => ∃ Bx, w.heap.size + 1 < Bx ∧ Boxed W Bx 52 r.val ∧ a' = { tmps := #[.agg #[.int .i64 k, .string s, .slice a n c], .pointer (some ⟨w.heap.size, 0, none⟩), .pointer (some ⟨w.heap.size + 1, 0, none⟩), .iface t x, .bool true, .pointer (some ⟨Bx, 0, none⟩), undef, undef, .tuple #[.iface t x, .bool true], .agg #[.int .i64 k, .string s, .slice a n c], .tuple #[.iface t x, .bool true], .iface t x, .bool true, .bool true, .bool false, .iface t x, .func (.func 33) #[] #[.pointer (some ⟨n₀, 0, none⟩)], .agg #[r.val], undef, undef, undef, undef, undef, undef, undef], defers := [] })
      (fun x a' _ X Y row hs hg hr => by
        obtain ⟨Bx, h1, h2, h3⟩ := hs
        exact ⟨Bx, h1, boxed_own Bx _ (fun (_ : Unit) => x.val) () X Y row h2 hg (fun r e => (hr r e).2), h3⟩)
      ?assign ?body ?done ?stop
    case assign =>
      rintro l pre r W K ⟨hall, hbR, hbB⟩ hK
      obtain ⟨t', x', hrv⟩ : ∃ t x, r.val = .iface t x := by cases r <;> exact ⟨_, _, rfl⟩
      simp only [encR, hrv] at hK ⊢
      gi_wp2_with fail
      exact hK _ _ ((KeepsOthers.alloc _ _).from _) (KpN.of ((Below.refl W.heap.size W).alloc (Nat.le_refl _) _) (by have := hbB.size; omega))
        ⟨hall, hbR.alloc _, hbB.alloc (Nat.le_trans hB3.out.size hbB.size) _⟩ ⟨W.heap.size, hbR.lt, Boxed.new W _ _, rfl⟩
    case body =>
      rintro l pre r a' W hl ⟨rr, hr⟩ ⟨hall, hbR, hbB⟩ ⟨Bx, hBx, hX, rfl⟩ hlt
      obtain ⟨t', x', hrv⟩ : ∃ t x, r.val = .iface t x := by cases r <;> exact ⟨_, _, rfl⟩
      have hnm := name_any r
      rw [hrv] at hX hnm
      simp only [hrv]
      have hXc := hX.cell
      have Hcall := Lib.hid (hnm W)
      have Hall := Lib.hid hall
      have hn₀W : n₀ ≤ W.heap.size := by have := hbB.size; omega
      have hwW : w.heap.size ≤ W.heap.size := by omega
      clear hnm hall
      gi_wp2_with fail
      refine ⟨trivial, ?_⟩
      refine ((callsIn_wide.2 Hcall.out).inRound l).mono ?_
      rintro e W7 ⟨rfl, hB7⟩
      have hbR7 : Boxed W7 (w.heap.size + 1) 4 (.bool false) := (hB7.block _ hbR.lt).trans hbR
      have hc7 := hbR7.cell
      have hf7 := hbR7.frozen
      have HB7 := Lib.hid hB7
      have Hkf := Lib.hid (keepsB hB7 W3.heap.size)
      clear hB7
      cases hq : r.nm.isSome with
      | true =>
        have Hq := Lib.hid hq
        gi_wp2_with fail
        exact ⟨Hkf.out, KpN.of HB7.out hn₀W, by rw [List.map_append, List.all_append, Hall.out]; simp [Hq.out], hbR7, hbB.trans (HB7.out.mono hwW)⟩
      | false =>
        have Hq := Lib.hid hq
        gi_wp2_with fail
        refine ⟨Hkf.out.trans ((KeepsOthers.setCell _ _ _).from _), ⟨rfl, ?_⟩, hbR7.set _, (hbB.trans (HB7.out.mono hwW)).setCell (p := ⟨w.heap.size + 1, 0, none⟩) (by simp) _⟩
        rw [List.map_append, List.any_append]
        have hz : r.nm = none := by cases h : r.nm with
          | none => rfl
          | some z => have := Hq.out; rw [h] at this; cases this
        simp [hz]
    case done =>
      rintro D ys W hD hys ⟨hall, hbR, hbB⟩ hK
      have hc := hbR.cell
      have hf := hbR.frozen
      have hlt := hbR.lt
      have hds : D ≠ w.heap.size + 1 := by have := bR.lt; omega
      have hval : dynE k s ks = false := by
        unfold dynE
        rw [Hv.out.1, ← hys]
        rw [List.all_eq_true] at hall
        rw [Bool.true_and, List.any_eq_false]
        intro o ho
        have := hall o ho
        cases o with
        | none => cases this
        | some z => simp
      have HV := Lib.hid hval
      have HS := Lib.hid (And.intro hds (And.intro hK hlt))
      clear hval hall hys hds hK hlt
      gi_wp2_with fail
      have hK4 : (W.setCell ⟨w.heap.size + 1, 0, none⟩ (.bool false)).heap[D]? = some (.deferred (some [])) := (Below.heap_setCell W ⟨w.heap.size + 1, 0, none⟩ _ _ HS.out.1).trans HS.out.2.1
      refine ⟨by simp, .inl ⟨_, _, rfl, run_takeDeferred hK4, ?_⟩⟩
      have hc5 : ((W.setCell ⟨w.heap.size + 1, 0, none⟩ (.bool false)).putObj D (.deferred none)).cell? ⟨w.heap.size + 1, 0, none⟩ = some (.bool false) :=
        (World.cell?_of_block (World.putObj_heap_other (k := w.heap.size + 1) (by have := HS.out.1; omega))).trans (hbR.set _).cell
      refine ⟨.bool false, ?_, by rw [HV.out], (hB3.out.trans (hbB.setCell (p := ⟨w.heap.size + 1, 0, none⟩) (by simp) _)).trans ((belowK_b (w := W3) (n₀ := w.heap.size) hB3.out.size _ D _ _ hD hK4 rfl rfl))⟩
      simp [results, Tryz.f9, go_sem, hc5]
    case stop =>
      rintro D c pre W hD ⟨q, hq⟩ ⟨⟨rfl, hany⟩, hbR, hbB⟩ hK
      have hc := hbR.cell
      have hds : D ≠ w.heap.size + 1 := by have := bR.lt; omega
      have hval : dynE k s ks = true := by
        unfold dynE
        rw [Hv.out.1, ← hq, List.any_append, hany]
        rfl
      have HV := Lib.hid hval
      clear hval hany hq
      gi_wp2_with fail
      refine ⟨by simp, .inl ⟨_, _, rfl, run_takeDeferred hK, ?_⟩⟩
      have hc5 : (W.putObj D (.deferred none)).cell? ⟨w.heap.size + 1, 0, none⟩ = some (.bool true) :=
        (World.cell?_of_block (World.putObj_heap_other (k := w.heap.size + 1) (by omega))).trans hc
      refine ⟨.bool true, ?_, by rw [HV.out], (hB3.out.trans hbB).trans ((belowK_b (w := W3) (n₀ := w.heap.size) hB3.out.size _ D _ _ hD hK rfl rfl))⟩
      simp [results, Tryz.f9, go_sem, hc5]
end Go.Proofs.YtbcghkdjhicocaaGreat
