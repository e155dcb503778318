/-
  The program's visitReads, walked.
-/
import Derived.Test.YtbcghkdjhicocaaGreatVis
namespace Go.Proofs.YtbcghkdjhicocaaGreat
set_option linter.unusedVariables false
open Go.RowKit Go.Shelf
attribute [local go_sem] Oper.semAt_some

theorem growB {w w' : World} (h : Below w.heap.size w w') : w.grownBy w' none := ⟨h.os, h.tape, h.output, h.size, fun k hk _ => h.block k hk⟩
/-- what visitReads leaves -/
def VisP (n₀ : Nat) (J Jx : List RV → World → Prop) (pre : List RV) (r : List (Option ByteArray)) (W : World) (e : Ending) (W' : World) : Prop :=
  (e = .returned (.bool true) ∧ ∃ ys, ys.map RV.nm = r ∧ J (pre ++ ys) W' ∧ KpN n₀ W W') ∨ (e = .returned (.bool false) ∧ ∃ ys, (∃ q, ys.map RV.nm ++ q = r) ∧ Jx (pre ++ ys) W')
/-- the contract of visitReads at one node -/
def VisS (l n₀ N : Nat) (J Jx : List RV → World → Prop) (k : Int) (s : ByteArray) (ks : Fo) : Prop := ∀ (n : Nat) (v : Value) (L : Nat) (pre : List RV) (W : World), NV1 W L n₀ k s ks v → nodeB k s ks.len = true → good ks = true → ks.size ≤ 1000 → n₀ ≤ W.heap.size → J pre W → pre.length + (rd1 k ks).length ≤ N →
  CallsIn Fence.wide n Tryz.prog 34 #[v, .func (.yield l) #[] #[]] W (VisP n₀ J Jx pre (rd1 k ks) W)

set_option maxRecDepth 100000 in
set_option maxHeartbeats 2000000 in
theorem vis_in (l n₀ N : Nat) (J Jx : List RV → World → Prop) (hJ : ∀ pre W W', J pre W → Below W.heap.size W W' → J pre W')
    (hY : ∀ m pre x W, n₀ ≤ W.heap.size → J pre W → pre.length < N → YieldAt Fence.wide m Tryz.prog l (encR x) W fun e W' => (e = .returned (.bool true) ∧ J (pre ++ [x]) W' ∧ KpN n₀ W W') ∨ (e = .returned (.bool false) ∧ Jx (pre ++ [x]) W'))
    (k : Int) (s : ByteArray) (ks : Fo) (ih : ∀ k' s' ks', Fo.size ks' < ks.size → VisS l n₀ N J Jx k' s' ks') : VisS l n₀ N J Jx k s ks := by
  intro n v L pre W hv hn hg hz hn0 hJp hN
  obtain ⟨os, hnv, T, X, FO, rfl, hmo, hco, hop, hcase⟩ := vis_of hv hn hg
  have hol := nvs_len hnv
  have Hnv := Lib.hid (And.intro hnv (And.intro (nvs_iface hnv) (And.intro hg hol)))
  have hos : os.length ≤ 1000 := by have := ks.len_size; omega
  have Hop := Lib.hid hop
  clear hv hnv hg hn hop hol
  rcases hcase with ⟨hk2, hT⟩ | ⟨rfl, rfl, r, rfl, hr⟩
  · have hrd : rd1 k ks = rdl ks := by unfold rd1; simp [hk2]
    have hal := (Below.refl W.heap.size W).alloc (Nat.le_refl _) (.cells #[.nilIface] 52)
    have HJp := Lib.hid (hJ pre W _ hJp hal)
    have Hal := Lib.hid hal
    have Hopc := Lib.hid (Hop.out _ (hal.mono hn0))
    rw [hrd] at hN ⊢
    clear hJp hal hrd hk2
    refine callsIn_of_wp Tryz.func34 rfl trivial ?_ rfl
    simp only [Tryz.ntmps34, List.size_toArray, List.length_cons, List.length_nil, Nat.reduceAdd, Nat.reduceSub, Array.replicate_succ, Array.replicate_zero, List.push_toArray, List.append_toArray, List.nil_append, List.cons_append]
    gi_wp2_with fail
    refine ⟨fun _ h => (by cases h), ?_⟩
    gi_wp2_with fail
    refine ⟨trivial, fun h => (by cases h), ?_⟩
    refine (callsIn_wide.2 Hopc.out).mono ?_
    rintro e w5 ⟨o, oc, rfl, hvs, hB5⟩
    have HK5 := Lib.hid (KpN.of (Hal.out.trans (hB5.mono Hal.out.size)) hn0)
    have HJ5 := Lib.hid (hJ _ _ _ HJp.out hB5)
    have Hvs := Lib.hid hvs
    have hn5 : n₀ ≤ w5.heap.size := Nat.le_trans hn0 HK5.out.1.size
    clear hvs hB5
    gi_wp2_with fail
    gi_loopw [24] (fun i wr => ∃ (j : Nat) (ys : List RV), j ≤ os.length ∧ i = .int .i64 j ∧ ys.map RV.nm ++ rdl (ks.drop j) = rdl ks ∧ J (pre ++ ys) wr ∧ KpN n₀ w5 wr) (fun i _ => os.length - (intOf i).toNat)
    case atStart => exact ⟨0, [], Nat.zero_le _, rfl, by rw [Fo.drop_zero]; rfl, by rw [List.append_nil]; exact HJ5.out, KpN.refl _ _⟩
    case round =>
      obtain ⟨j, ys, hj, rfl, hrds, hJw, hkw⟩ := hrel
      have Hrds := Lib.hid hrds
      have HJw := Lib.hid hJw
      have Hkw := Lib.hid hkw
      have hnw : n₀ ≤ wr.heap.size := Nat.le_trans hn5 hkw.1.size
      clear hrds hJw hkw
      by_cases hlt : j < os.length
      · obtain ⟨⟨k', s', ks'⟩, hgt⟩ := Fo.get_some (f := ks) (j := j) (by have := Hnv.out.2.2.2; omega)
        obtain ⟨v', hv1, hv2⟩ := nvs_get Hnv.out.1 hgt
        obtain ⟨hn', hg'⟩ := good_get Hnv.out.2.2.1 hgt
        have hsz := Fo.get_size hgt
        obtain ⟨t', x', rfl⟩ := hv2.iface
        obtain ⟨b, off, rfl, hcells⟩ := Hvs.out wr Hkw.out (by omega)
        have hcell := hcells _ _ hv1
        have hv3 : NV1 wr L n₀ k' s' ks' (.iface t' x') := hv2.keep (Nat.le_refl _) (Nat.le_refl _) fun p _ h2 => (HK5.out.trans Hkw.out).1.cell h2
        have hrd2 : rdl (ks.drop j) = rd1 k' ks' ++ rdl (ks.drop (j + 1)) := by rw [Fo.drop_get hgt, rdl_node]
        have hlen : ys.length + (rd1 k' ks').length ≤ (rdl ks).length := by
          have := congrArg List.length Hrds.out
          rw [hrd2] at this
          simp only [List.length_append, List.length_map] at this
          omega
        have Hih := Lib.hid (ih k' s' ks' (by omega) (n - 1) (.iface t' x') L (pre ++ ys) wr hv3 hn' hg' (by omega) hnw HJw.out (by simp only [List.length_append]; omega))
        have Hrd2 := Lib.hid hrd2
        clear hv1 hv2 hv3 hgt hn' hg' hcells hrd2 hlen
        gi_wp2_with fail
        refine ⟨trivial, fun h => (by cases h), ?_⟩
        refine Hih.out.mono ?_
        rintro e w7 (⟨rfl, ys2, hy2, hJ7, hk7⟩ | ⟨rfl, ys2, ⟨q, hq⟩, hJx7⟩)
        · have HJ7 := Lib.hid (show J (pre ++ (ys ++ ys2)) w7 by rw [← List.append_assoc]; exact hJ7)
          have Hk7 := Lib.hid (Hkw.out.trans hk7)
          have Hy2 := Lib.hid (show (ys ++ ys2).map RV.nm ++ rdl (ks.drop (j + 1)) = rdl ks by rw [List.map_append, hy2, ← Hrds.out, Hrd2.out]; simp)
          clear hy2 hJ7 hk7
          gi_wp2_with fail
          go_roundw
          case rel => exact ⟨j + 1, ys ++ ys2, by omega, by go_num, Hy2.out, HJ7.out, Hk7.out⟩
          case measure => simp [intOf]; omega
        · have HJ7 := Lib.hid (show Jx (pre ++ (ys ++ ys2)) w7 by rw [← List.append_assoc]; exact hJx7)
          have Hq := Lib.hid (show (ys ++ ys2).map RV.nm ++ (q ++ rdl (ks.drop (j + 1))) = rdl ks by rw [← Hrds.out, Hrd2.out, ← hq]; simp)
          clear hq hJx7
          gi_wp2_with fail
          go_ret
          exact .inr ⟨rfl, ys ++ ys2, ⟨_, Hq.out⟩, HJ7.out⟩
      · have hfin : ys.map RV.nm = rdl ks := by rw [← Hrds.out, Fo.drop_all (f := ks) (j := j) (by have := Hnv.out.2.2.2; omega)]; simp [rdl]
        have Hfin := Lib.hid hfin
        clear hfin
        gi_wp2_with fail
        go_ret
        exact .inl ⟨rfl, ys, Hfin.out, HJw.out, HK5.out.trans Hkw.out⟩
  · obtain ⟨t, x, hrv⟩ : ∃ t x, r.val = .iface t x := by cases r <;> exact ⟨_, _, rfl⟩
    have hT := ta_read (.iface t x)
    have henc : encR r = #[.agg #[.iface t x]] := by unfold encR; rw [hrv]
    rw [hrv] at hmo Hop ⊢
    have hal := ((Below.refl W.heap.size W).alloc (Nat.le_refl _) (.cells #[.iface t x] 52))
    have hYr := hY (n - 1) pre r _ (Nat.le_trans hn0 hal.size) (hJ pre W _ hJp hal) (by unfold rd1 at hN; simp at hN; omega)
    rw [henc] at hYr
    obtain ⟨fn, tmps, assign, body, hy, hR⟩ := hYr
    have HR := Lib.hid hR
    have Hal := Lib.hid hal
    clear hJp hR hal
    refine callsIn_of_wp Tryz.func34 rfl trivial ?_ rfl
    simp only [Tryz.ntmps34, List.size_toArray, List.length_cons, List.length_nil, Nat.reduceAdd, Nat.reduceSub, Array.replicate_succ, Array.replicate_zero, List.push_toArray, List.append_toArray, List.nil_append, List.cons_append]
    gi_wp2_with fail
    refine ⟨fun h => (by cases h), ?_⟩
    refine HR.out.mono ?_
    rintro e W3 (⟨rfl, hJ3, hk3⟩ | ⟨rfl, hJx3⟩)
    · have HJ3 := Lib.hid hJ3
      have Hk3 := Lib.hid ((KpN.of Hal.out hn0).trans hk3)
      have Hopc := Lib.hid (Hop.out W3 Hk3.out.1)
      have hn3 : n₀ ≤ W3.heap.size := Nat.le_trans hn0 Hk3.out.1.size
      clear hJ3 hk3
      gi_wp2_with fail
      refine ⟨trivial, fun h => (by cases h), ?_⟩
      refine (callsIn_wide.2 Hopc.out).mono ?_
      rintro e w5 ⟨o, oc, rfl, hvs, hB5⟩
      have HK5 := Lib.hid (Hk3.out.trans (KpN.of hB5 hn3))
      have HJ5 := Lib.hid (hJ _ _ _ HJ3.out hB5)
      have Hvs := Lib.hid hvs
      have hn5 : n₀ ≤ w5.heap.size := Nat.le_trans hn3 hB5.size
      clear hvs hB5
      gi_wp2_with fail
      gi_loopw [24] (fun i wr => ∃ (j : Nat) (ys : List RV), j ≤ os.length ∧ i = .int .i64 j ∧ ys.map RV.nm ++ rdl (ks.drop j) = rdl ks ∧ J ((pre ++ [r]) ++ ys) wr ∧ KpN n₀ w5 wr) (fun i _ => os.length - (intOf i).toNat)
      case atStart => exact ⟨0, [], Nat.zero_le _, rfl, by rw [Fo.drop_zero]; rfl, by rw [List.append_nil]; exact HJ5.out, KpN.refl _ _⟩
      case round =>
        obtain ⟨j, ys, hj, rfl, hrds, hJw, hkw⟩ := hrel
        have Hrds := Lib.hid hrds
        have HJw := Lib.hid hJw
        have Hkw := Lib.hid hkw
        have hnw : n₀ ≤ wr.heap.size := Nat.le_trans hn5 hkw.1.size
        clear hrds hJw hkw
        by_cases hlt : j < os.length
        · obtain ⟨⟨k', s', ks'⟩, hgt⟩ := Fo.get_some (f := ks) (j := j) (by have := Hnv.out.2.2.2; omega)
          obtain ⟨v', hv1, hv2⟩ := nvs_get Hnv.out.1 hgt
          obtain ⟨hn', hg'⟩ := good_get Hnv.out.2.2.1 hgt
          have hsz := Fo.get_size hgt
          obtain ⟨t', x', rfl⟩ := hv2.iface
          obtain ⟨b, off, rfl, hcells⟩ := Hvs.out wr Hkw.out (by omega)
          have hcell := hcells _ _ hv1
          have hv3 : NV1 wr L n₀ k' s' ks' (.iface t' x') := hv2.keep (Nat.le_refl _) (Nat.le_refl _) fun p _ h2 => (HK5.out.trans Hkw.out).1.cell h2
          have hrd2 : rdl (ks.drop j) = rd1 k' ks' ++ rdl (ks.drop (j + 1)) := by rw [Fo.drop_get hgt, rdl_node]
          have hlen : ys.length + (rd1 k' ks').length ≤ (rdl ks).length := by
            have := congrArg List.length Hrds.out
            rw [hrd2] at this
            simp only [List.length_append, List.length_map] at this
            omega
          have Hih := Lib.hid (ih k' s' ks' (by omega) (n - 1) (.iface t' x') L ((pre ++ [r]) ++ ys) wr hv3 hn' hg' (by omega) hnw HJw.out (by simp only [List.length_append, List.length_singleton]; unfold rd1 at hN; rw [if_pos rfl] at hN; simp only [List.length_append, List.length_singleton] at hN; omega))
          have Hrd2 := Lib.hid hrd2
          clear hv1 hv2 hv3 hgt hn' hg' hcells hrd2 hlen
          gi_wp2_with fail
          refine ⟨trivial, fun h => (by cases h), ?_⟩
          refine Hih.out.mono ?_
          rintro e w7 (⟨rfl, ys2, hy2, hJ7, hk7⟩ | ⟨rfl, ys2, ⟨q, hq⟩, hJx7⟩)
          · have HJ7 := Lib.hid (show J ((pre ++ [r]) ++ (ys ++ ys2)) w7 by rw [← List.append_assoc]; exact hJ7)
            have Hk7 := Lib.hid (Hkw.out.trans hk7)
            have Hy2 := Lib.hid (show (ys ++ ys2).map RV.nm ++ rdl (ks.drop (j + 1)) = rdl ks by rw [List.map_append, hy2, ← Hrds.out, Hrd2.out]; simp)
            clear hy2 hJ7 hk7
            gi_wp2_with fail
            go_roundw
            case rel => exact ⟨j + 1, ys ++ ys2, by omega, by go_num, Hy2.out, HJ7.out, Hk7.out⟩
            case measure => simp [intOf]; omega
          · have HJ7 := Lib.hid (show Jx ((pre ++ [r]) ++ (ys ++ ys2)) w7 by rw [← List.append_assoc]; exact hJx7)
            have Hq := Lib.hid (show (ys ++ ys2).map RV.nm ++ (q ++ rdl (ks.drop (j + 1))) = rdl ks by rw [← Hrds.out, Hrd2.out, ← hq]; simp)
            clear hq hJx7
            gi_wp2_with fail
            go_ret
            exact .inr ⟨rfl, r :: (ys ++ ys2), ⟨q ++ rdl (ks.drop (j + 1)), by unfold rd1; rw [if_pos rfl, ← Hq.out, ← hr]; simp⟩, by have := HJ7.out; rw [List.append_assoc] at this; exact this⟩
        · have hfin : ys.map RV.nm = rdl ks := by rw [← Hrds.out, Fo.drop_all (f := ks) (j := j) (by have := Hnv.out.2.2.2; omega)]; simp [rdl]
          have Hfin := Lib.hid hfin
          clear hfin
          gi_wp2_with fail
          go_ret
          exact .inl ⟨rfl, r :: ys, by unfold rd1; rw [if_pos rfl, ← Hfin.out, ← hr]; rfl, by have := HJw.out; rw [List.append_assoc] at this; exact this, HK5.out.trans Hkw.out⟩
    · have HJx3 := Lib.hid hJx3
      clear hJx3
      gi_wp2_with fail
      go_ret
      exact .inr ⟨rfl, [r], ⟨rdl ks, by unfold rd1; rw [if_pos rfl, ← hr]; rfl⟩, HJx3.out⟩
end Go.Proofs.YtbcghkdjhicocaaGreat
