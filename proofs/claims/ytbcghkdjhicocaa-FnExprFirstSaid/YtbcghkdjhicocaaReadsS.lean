/-
  The model's ExprReads.
-/
import Derived.Test.YtbcghkdjhicocaaReads
import Derived.Test.YtbcghkdjhicocaaTreeC
import Derived.Test.YtbcghkdjhicocaaApp
import Derived.Test.YtbcghkdjhicocaaBoxE
namespace Go.Proofs.Ytbcghkdjhicocaa
set_option linter.unusedVariables false
set_option linter.unusedSimpArgs false
open Go.RowKit

/-- a list of one's own went on: its block was turned, or it lies in a new one -/
def OwnStep (w w' : World) (v v' : Value) : Prop := w.grownBy w' v.ownBlock ∧ (v'.ownBlock = v.ownBlock ∨ ∀ g, v'.ownBlock = some g → w.heap.size ≤ g)
theorem OwnStep.trans {w w' w'' : World} {v v' v'' : Value} (h : OwnStep w w' v v') (h2 : OwnStep w' w'' v' v'') : OwnStep w w'' v v'' := by
  refine ⟨⟨h2.1.os.trans h.1.os, h2.1.tape.trans h.1.tape, h2.1.output.trans h.1.output, Nat.le_trans h.1.size h2.1.size, fun k hk hne => ?_⟩, ?_⟩
  · refine (h2.1.block k (Nat.lt_of_lt_of_le hk h.1.size) fun e => ?_).trans (h.1.block k hk hne)
    rcases h.2 with h3 | h3
    · exact hne (e.trans h3)
    · have := h3 k e.symm; omega
  · rcases h2.2 with h3 | h3
    · rw [h3]; exact h.2
    · exact .inr fun g hg => Nat.le_trans h.1.size (h3 g hg)
theorem OwnStep.alloc (w : World) (v : Value) (o : Obj) : OwnStep w (w.alloc o) v v := ⟨World.grownBy_alloc w o _, .inl rfl⟩
theorem OwnStep.refl (w : World) (v : Value) : OwnStep w w v v := ⟨⟨rfl, rfl, rfl, Nat.le_refl _, fun _ _ _ => rfl⟩, .inl rfl⟩
theorem OwnStep.below {w w' : World} {v v' : Value} {B : Nat} {ss : List ByteArray} (h : OwnStep w w' v v') (ho : OwnsS w B v ss) (hB : B ≤ w.heap.size) : Below B w w' := (Below.refl B w).grown h.1 hB (strs_at ho)
theorem OwnStep.box {w w' : World} {v v' : Value} {B : Nat} {ss : List ByteArray} {k : Int} {s : ByteArray} {u : Value} {T : TypeId} (h : OwnStep (w.alloc (.cells #[.int .i64 k, .string s, u] T)) w' v v') (ho : OwnsS w B v ss) : BxE w' w.heap.size k s u T :=
  (h.1.block w.heap.size (by simp) (fun e => by have := strs_lt ho _ e.symm; omega)).trans (heap_alloc_new w _)
/-- the contract of l2Reads at one node -/
def RdC (k : Int) (s : ByteArray) (ks : Fo) : Prop := ∀ (a : Option Addr) (n c B : Nat) (v : Value) (ss : List ByteArray) (w : World), KA w 0 B ks a n → B ≤ w.heap.size → OwnsS w B v ss → ss.length + (rd1 k ks).length ≤ 4194304 → s.size ≤ maxLen → ks.Fits → n ≤ maxLen → nodeB k s ks.len = true → good ks = true →
  Calls Try.prog 23 #[v, .agg #[.int .i64 k, .string s, .slice a n c]] w fun e w' => ∃ v', e = .returned v' ∧ OwnsS w' B v' (uniqN ss (rd1 k ks)) ∧ OwnStep w w' v v'
theorem uniqN_append (xs : List ByteArray) (l m : List (Option ByteArray)) : uniqN xs (l ++ m) = uniqN (uniqN xs l) m := List.foldl_append

set_option maxRecDepth 100000 in
set_option maxHeartbeats 4000000 in
theorem rdS_of (k : Int) (s : ByteArray) (ks : Fo) (ih : ∀ k' s' ks', Fo.size ks' < ks.size → RdC k' s' ks') : RdC k s ks := by
  intro a n c B v ss w hk hBw hown hlen hs hfit hn hnb hgd
  obtain rfl : ks.len = n := hk.1
  have Hfit := Lib.hid hfit
  have Hgd := Lib.hid hgd
  have Hown := Lib.hid hown
  unfold maxLen at hn
  have hvs : ∃ ra rc, v = .slice ra ss.length rc ∧ SvAt w w.heap.size ra ss.length ss := by
    obtain ⟨ra, rc, h1, h2⟩ := hown.form
    exact ⟨ra, rc, h1, h2⟩
  obtain ⟨ra, rc, rfl, hsv⟩ := hvs
  have hkl := hk.alloc hBw (.cells #[.int .i64 k, .string s, .slice a ks.len c] 25)
  have hcond : (k = 2 ∧ 0 < ks.len) ∨ ((k == 2) = false ∧ rd1 k ks = rdl ks) := by
    rcases node_kinds hnb with ⟨rfl, h0, _⟩ | ⟨rfl, h4, _⟩ | ⟨rfl, h4, _⟩ | ⟨hk', h1, _⟩
    · exact .inr ⟨rfl, rfl⟩
    · exact .inr ⟨rfl, rfl⟩
    · exact .inr ⟨rfl, rfl⟩
    · rcases hk' with rfl | rfl | rfl | rfl
      · exact .inl ⟨rfl, by omega⟩
      · exact .inr ⟨rfl, rfl⟩
      · exact .inr ⟨rfl, rfl⟩
      · exact .inr ⟨rfl, rfl⟩
  clear hnb hgd hfit hown
  have hcond2 : (∃ b off k0 s0, a = some ⟨b, off, none⟩ ∧ (w.alloc (.cells #[.int .i64 k, .string s, .slice a ks.len c] 25)).cell? ⟨b, off, none⟩ = some (.int .i64 k0) ∧ (w.alloc (.cells #[.int .i64 k, .string s, .slice a ks.len c] 25)).cell? ⟨b, off + 1, none⟩ = some (.string s0) ∧ b < w.heap.size ∧ 0 < ks.len ∧ k = 2 ∧
      ((k0 == 1) = true ∧ rd1 k ks = some s0 :: rdl ks ∨ (k0 == 1) = false ∧ rd1 k ks = none :: rdl ks)) ∨ ((k == 2) = false ∧ rd1 k ks = rdl ks) := by
    rcases hcond with ⟨rfl, hl⟩ | h
    · obtain ⟨b, off, k0, s0, f0, a0, n0, c0, rfl, _, hb, g0, c00, c01, _⟩ := hkl.get (j := 0) hl
      rw [Nat.zero_mul, Nat.add_zero] at c00 c01
      refine .inl ⟨b, off, k0, s0, rfl, c00, c01, by omega, hl, rfl, ?_⟩
      cases ks with
      | nil => simp [Fo.len] at hl
      | node k1 s1 f1 r1 =>
        simp only [Fo.get, Option.some.injEq, Prod.mk.injEq] at g0
        obtain ⟨rfl, rfl, _⟩ := g0
        unfold rd1 nameOf
        by_cases h : k1 = 1 <;> simp [h]
    · exact .inr h
  clear hcond
  rcases hcond2 with ⟨b, off, k0, s0, rfl, hc0, hc1, hbw, hl0, rfl, ⟨e1, hrd⟩ | ⟨e1, hrd⟩⟩ | ⟨e2, hrd⟩
  case inr =>
    have Hrd := Lib.hid (show uniqN ss (rd1 k ks) = uniqN ss (rdl ks) by rw [hrd])
    have HlL := Lib.hid (show ss.length + (rdl ks).length ≤ 4194304 by rw [← hrd]; exact hlen)
    clear hrd hlen hsv hkl
    have HownL := Lib.hid (strs_below Hown.out ((Below.refl w.heap.size w).alloc (Nat.le_refl _) (.cells #[.int .i64 k, .string s, .slice a ks.len c] 25)))
    have HstL := Lib.hid (OwnStep.refl (w.alloc (.cells #[.int .i64 k, .string s, .slice a ks.len c] 25)) (.slice ra ss.length rc))
    go_enter Try.func23, Try.ntmps23
    go_wp2_with fail
    go_loopw [0, 5] (fun o i wr => ∃ (j : Nat) (zs : List ByteArray), j ≤ ks.len ∧ i = .int .i64 j ∧ uniqN ss (rd1 k ks) = uniqN zs (rdl (ks.drop j)) ∧ zs.length + (rdl (ks.drop j)).length ≤ 4194304 ∧ OwnsS wr B o zs ∧ OwnStep (w.alloc (.cells #[.int .i64 k, .string s, .slice a ks.len c] 25)) wr (.slice ra ss.length rc) o) (fun _ i _ => ks.len - (intOf i).toNat)
    case atStart => exact ⟨0, ss, Nat.zero_le _, rfl, by rw [Fo.drop_zero]; exact Hrd.out, by rw [Fo.drop_zero]; exact HlL.out, HownL.out, HstL.out⟩
    case round =>
      obtain ⟨j, zs, hj, rfl, hu, hl, ho, hst⟩ := hrel
      obtain ⟨oa, oc, rfl, hzv⟩ := ho.form
      have hbx := (hst.box Hown.out).c2
      have hB := ((OwnStep.alloc w (.slice ra ss.length rc) (.cells #[.int .i64 k, .string s, .slice a ks.len c] 25)).trans hst).below Hown.out hBw
      have hwr : B ≤ wr.heap.size := Nat.le_trans hBw hB.size
      have Hu := Lib.hid (And.intro hu (And.intro hl (And.intro ho hst)))
      clear hu hl ho hst hzv
      by_cases hlt : j < ks.len
      · obtain ⟨b, off, k', s', ks', a', n', c', hae, _, hb, hg, hc1, hc2, hc3, hcap, hks⟩ := (hk.below hB).get hlt
        subst hae
        have hsz := Fo.get_size hg
        obtain ⟨hnb', hgd'⟩ := good_get Hgd.out hg
        have Hfk := Lib.hid (Hfit.out.get hg)
        have hdr := Lib.hid (show rdl (ks.drop j) = rd1 k' ks' ++ rdl (ks.drop (j + 1)) by rw [Fo.drop_get hg, rdl_node])
        have hkl' := hks.1
        have hn' : n' ≤ maxLen := by rw [← hkl']; exact Hfk.out.2.1
        have hl2 : zs.length + (rd1 k' ks').length + (rdl (ks.drop (j + 1))).length ≤ 4194304 := by have := Hu.out.2.1; rw [hdr.out, List.length_append] at this; omega
        have Hih := Lib.hid (ih k' s' ks' (by omega) a' n' c' B (.slice oa zs.length oc) zs wr hks hwr Hu.out.2.2.1 (by omega) Hfk.out.1 Hfk.out.2.2 hn' hnb' hgd')
        clear hg hnb' hgd' hks
        go_wp2_with fail
        refine Hih.out.mono ?_
        rintro e w1 ⟨v1, rfl, ho1, hst1⟩
        have Ho1 := Lib.hid (And.intro ho1 hst1)
        clear ho1 hst1
        go_wp2_with fail
        go_roundw
        case rel => exact ⟨j + 1, uniqN zs (rd1 k' ks'), by omega, by go_num, by rw [Hu.out.1, hdr.out, uniqN_append], by have := uniqN_length (rd1 k' ks') zs; omega, Ho1.out.1, Hu.out.2.2.2.trans Ho1.out.2⟩
        case measure => simp [intOf]; omega
      · have e0 : j = ks.len := by omega
        subst e0
        go_wp2_with fail
        go_ret
        have h9 := Hu.out.1
        rw [Fo.drop_all (Nat.le_refl _)] at h9
        exact ⟨_, rfl, by rw [h9]; exact Hu.out.2.2.1, (OwnStep.alloc w (.slice ra ss.length rc) (.cells #[.int .i64 k, .string s, .slice a ks.len c] 25)).trans Hu.out.2.2.2⟩
  case inl.inr =>
    have Hrd := Lib.hid (show uniqN ss (rd1 2 ks) = uniqN ss (rdl ks) by rw [hrd]; rfl)
    have HlL := Lib.hid (show ss.length + (rdl ks).length ≤ 4194304 by rw [hrd, List.length_cons] at hlen; omega)
    clear hrd hlen hsv hkl
    have HownL := Lib.hid (strs_below Hown.out ((Below.refl w.heap.size w).alloc (Nat.le_refl _) (.cells #[.int .i64 2, .string s, .slice (some ⟨b, off, none⟩) ks.len c] 25)))
    have HstL := Lib.hid (OwnStep.refl (w.alloc (.cells #[.int .i64 2, .string s, .slice (some ⟨b, off, none⟩) ks.len c] 25)) (.slice ra ss.length rc))
    go_enter Try.func23, Try.ntmps23
    go_wp2_with fail
    clear hc0 hc1 hbw hl0
    go_loopw [0, 5] (fun o i wr => ∃ (j : Nat) (zs : List ByteArray), j ≤ ks.len ∧ i = .int .i64 j ∧ uniqN ss (rd1 2 ks) = uniqN zs (rdl (ks.drop j)) ∧ zs.length + (rdl (ks.drop j)).length ≤ 4194304 ∧ OwnsS wr B o zs ∧ OwnStep (w.alloc (.cells #[.int .i64 2, .string s, .slice (some ⟨b, off, none⟩) ks.len c] 25)) wr (.slice ra ss.length rc) o) (fun _ i _ => ks.len - (intOf i).toNat)
    case atStart => exact ⟨0, ss, Nat.zero_le _, rfl, by rw [Fo.drop_zero]; exact Hrd.out, by rw [Fo.drop_zero]; exact HlL.out, HownL.out, HstL.out⟩
    case round =>
      obtain ⟨j, zs, hj, rfl, hu, hl, ho, hst⟩ := hrel
      obtain ⟨oa, oc, rfl, hzv⟩ := ho.form
      have hbx := (hst.box Hown.out).c2
      have hB := ((OwnStep.alloc w (.slice ra ss.length rc) (.cells #[.int .i64 2, .string s, .slice (some ⟨b, off, none⟩) ks.len c] 25)).trans hst).below Hown.out hBw
      have hwr : B ≤ wr.heap.size := Nat.le_trans hBw hB.size
      have Hu := Lib.hid (And.intro hu (And.intro hl (And.intro ho hst)))
      clear hu hl ho hst hzv
      by_cases hlt : j < ks.len
      · obtain ⟨b, off, k', s', ks', a', n', c', hae, _, hb, hg, hc1, hc2, hc3, hcap, hks⟩ := (hk.below hB).get hlt
        cases hae
        have hsz := Fo.get_size hg
        obtain ⟨hnb', hgd'⟩ := good_get Hgd.out hg
        have Hfk := Lib.hid (Hfit.out.get hg)
        have hdr := Lib.hid (show rdl (ks.drop j) = rd1 k' ks' ++ rdl (ks.drop (j + 1)) by rw [Fo.drop_get hg, rdl_node])
        have hkl' := hks.1
        have hn' : n' ≤ maxLen := by rw [← hkl']; exact Hfk.out.2.1
        have hl2 : zs.length + (rd1 k' ks').length + (rdl (ks.drop (j + 1))).length ≤ 4194304 := by have := Hu.out.2.1; rw [hdr.out, List.length_append] at this; omega
        have Hih := Lib.hid (ih k' s' ks' (by omega) a' n' c' B (.slice oa zs.length oc) zs wr hks hwr Hu.out.2.2.1 (by omega) Hfk.out.1 Hfk.out.2.2 hn' hnb' hgd')
        clear hg hnb' hgd' hks
        go_wp2_with fail
        refine Hih.out.mono ?_
        rintro e w1 ⟨v1, rfl, ho1, hst1⟩
        have Ho1 := Lib.hid (And.intro ho1 hst1)
        clear ho1 hst1
        go_wp2_with fail
        go_roundw
        case rel => exact ⟨j + 1, uniqN zs (rd1 k' ks'), by omega, by go_num, by rw [Hu.out.1, hdr.out, uniqN_append], by have := uniqN_length (rd1 k' ks') zs; omega, Ho1.out.1, Hu.out.2.2.2.trans Ho1.out.2⟩
        case measure => simp [intOf]; omega
      · have e0 : j = ks.len := by omega
        subst e0
        go_wp2_with fail
        go_ret
        have h9 := Hu.out.1
        rw [Fo.drop_all (Nat.le_refl _)] at h9
        exact ⟨_, rfl, by rw [h9]; exact Hu.out.2.2.1, (OwnStep.alloc w (.slice ra ss.length rc) (.cells #[.int .i64 2, .string s, .slice (some ⟨b, off, none⟩) ks.len c] 25)).trans Hu.out.2.2.2⟩
  case inl.inl =>
    have hlL : ss.length + (rdl ks).length + 1 ≤ 4194304 := by rw [hrd, List.length_cons] at hlen; omega
    have Hcon := Lib.hid (hasS_any ra ss.length rc ss s0 (w.alloc (.cells #[.int .i64 2, .string s, .slice (some ⟨b, off, none⟩) ks.len c] 25)) ((hsv.below ((Below.refl w.heap.size w).alloc (Nat.le_refl _) _)).more (by simp)) (by unfold maxLen; omega))
    clear hlen hsv hkl
    cases hh : hasB ss s0 with
    | true =>
      have Hrd := Lib.hid (show uniqN ss (rd1 2 ks) = uniqN ss (rdl ks) by rw [hrd]; show uniqN (if hasB ss s0 then ss else ss ++ [s0]) _ = _; rw [hh]; rfl)
      have HlL := Lib.hid (show ss.length + (rdl ks).length ≤ 4194304 by omega)
      rw [hh] at Hcon
      clear hrd hh hlL
      have HownL := Lib.hid (strs_below Hown.out ((Below.refl w.heap.size w).alloc (Nat.le_refl _) (.cells #[.int .i64 2, .string s, .slice (some ⟨b, off, none⟩) ks.len c] 25)))
      have HstL := Lib.hid (OwnStep.refl (w.alloc (.cells #[.int .i64 2, .string s, .slice (some ⟨b, off, none⟩) ks.len c] 25)) (.slice ra ss.length rc))
      go_enter Try.func23, Try.ntmps23
      go_wp2_with fail
      refine Hcon.out.mono ?_
      rintro e w2 ⟨rfl, rfl⟩
      go_wp2_with fail
      clear hc0 hc1 hbw hl0 Hcon
      go_loopw [0, 5] (fun o i wr => ∃ (j : Nat) (zs : List ByteArray), j ≤ ks.len ∧ i = .int .i64 j ∧ uniqN ss (rd1 2 ks) = uniqN zs (rdl (ks.drop j)) ∧ zs.length + (rdl (ks.drop j)).length ≤ 4194304 ∧ OwnsS wr B o zs ∧ OwnStep (w.alloc (.cells #[.int .i64 2, .string s, .slice (some ⟨b, off, none⟩) ks.len c] 25)) wr (.slice ra ss.length rc) o) (fun _ i _ => ks.len - (intOf i).toNat)
      case atStart => exact ⟨0, ss, Nat.zero_le _, rfl, by rw [Fo.drop_zero]; exact Hrd.out, by rw [Fo.drop_zero]; exact HlL.out, HownL.out, HstL.out⟩
      case round =>
        obtain ⟨j, zs, hj, rfl, hu, hl, ho, hst⟩ := hrel
        obtain ⟨oa, oc, rfl, hzv⟩ := ho.form
        have hbx := (hst.box Hown.out).c2
        have hB := ((OwnStep.alloc w (.slice ra ss.length rc) (.cells #[.int .i64 2, .string s, .slice (some ⟨b, off, none⟩) ks.len c] 25)).trans hst).below Hown.out hBw
        have hwr : B ≤ wr.heap.size := Nat.le_trans hBw hB.size
        have Hu := Lib.hid (And.intro hu (And.intro hl (And.intro ho hst)))
        clear hu hl ho hst hzv
        by_cases hlt : j < ks.len
        · obtain ⟨b, off, k', s', ks', a', n', c', hae, _, hb, hg, hc1, hc2, hc3, hcap, hks⟩ := (hk.below hB).get hlt
          cases hae
          have hsz := Fo.get_size hg
          obtain ⟨hnb', hgd'⟩ := good_get Hgd.out hg
          have Hfk := Lib.hid (Hfit.out.get hg)
          have hdr := Lib.hid (show rdl (ks.drop j) = rd1 k' ks' ++ rdl (ks.drop (j + 1)) by rw [Fo.drop_get hg, rdl_node])
          have hkl' := hks.1
          have hn' : n' ≤ maxLen := by rw [← hkl']; exact Hfk.out.2.1
          have hl2 : zs.length + (rd1 k' ks').length + (rdl (ks.drop (j + 1))).length ≤ 4194304 := by have := Hu.out.2.1; rw [hdr.out, List.length_append] at this; omega
          have Hih := Lib.hid (ih k' s' ks' (by omega) a' n' c' B (.slice oa zs.length oc) zs wr hks hwr Hu.out.2.2.1 (by omega) Hfk.out.1 Hfk.out.2.2 hn' hnb' hgd')
          clear hg hnb' hgd' hks
          go_wp2_with fail
          refine Hih.out.mono ?_
          rintro e w1 ⟨v1, rfl, ho1, hst1⟩
          have Ho1 := Lib.hid (And.intro ho1 hst1)
          clear ho1 hst1
          go_wp2_with fail
          go_roundw
          case rel => exact ⟨j + 1, uniqN zs (rd1 k' ks'), by omega, by go_num, by rw [Hu.out.1, hdr.out, uniqN_append], by have := uniqN_length (rd1 k' ks') zs; omega, Ho1.out.1, Hu.out.2.2.2.trans Ho1.out.2⟩
          case measure => simp [intOf]; omega
        · have e0 : j = ks.len := by omega
          subst e0
          go_wp2_with fail
          go_ret
          have h9 := Hu.out.1
          rw [Fo.drop_all (Nat.le_refl _)] at h9
          exact ⟨_, rfl, by rw [h9]; exact Hu.out.2.2.1, (OwnStep.alloc w (.slice ra ss.length rc) (.cells #[.int .i64 2, .string s, .slice (some ⟨b, off, none⟩) ks.len c] 25)).trans Hu.out.2.2.2⟩
    | false =>
      have Hrd := Lib.hid (show uniqN ss (rd1 2 ks) = uniqN (ss ++ [s0]) (rdl ks) by rw [hrd]; show uniqN (if hasB ss s0 then ss else ss ++ [s0]) _ = _; rw [hh]; rfl)
      have HlL := Lib.hid (show (ss ++ [s0]).length + (rdl ks).length ≤ 4194304 by rw [List.length_append]; simp; omega)
      have hss : ss.length ≤ 4194304 := by omega
      rw [hh] at Hcon
      clear hrd hh hlL
      obtain ⟨i0, hi, hz0, hz1, hz2⟩ := info_parts infoStr
      have HownB := Lib.hid (strs_below Hown.out ((Below.refl w.heap.size w).alloc (Nat.le_refl _) (.cells #[.int .i64 2, .string s, .slice (some ⟨b, off, none⟩) ks.len c] 25)))
      go_enter Try.func23, Try.ntmps23
      go_wp2_with fail
      refine Hcon.out.mono ?_
      rintro e w2 ⟨rfl, rfl⟩
      go_wp2_with (at_builtin; refine wpList_append_at rfl _ _ 27 rfl B 9 i0 _ 1 16 underStrs hi hz0 hz1 hz2 rfl (by decide) _ _ _ rfl (World.ownsRow.alloc HownB.out _) ⟨w.heap.size + 1, 0, none⟩ 1 1 [.string s0] rfl rfl (by simpa using cell_one (w.alloc (.cells #[.int .i64 2, .string s, .slice (some ⟨b, off, none⟩) ks.len c] 25)) _ _) (by simp [Value.oneCell']) (by simp only [maxLen]; omega) (by omega) (by simp; omega) ?_; intro v4 w4 hown4 hgrow4 hat4)
      have HownL := Lib.hid (OwnsS.grew hown4)
      have HstL := Lib.hid ((OwnStep.alloc (w.alloc (.cells #[.int .i64 2, .string s, .slice (some ⟨b, off, none⟩) ks.len c] 25)) (.slice ra ss.length rc) (.cells #[.string s0] 9)).trans ⟨hgrow4, hat4⟩)
      clear hown4 hgrow4 hat4 hc0 hc1 hbw hl0 Hcon HownB
      go_wp2_with fail
      go_loopw [0, 5] (fun o i wr => ∃ (j : Nat) (zs : List ByteArray), j ≤ ks.len ∧ i = .int .i64 j ∧ uniqN ss (rd1 2 ks) = uniqN zs (rdl (ks.drop j)) ∧ zs.length + (rdl (ks.drop j)).length ≤ 4194304 ∧ OwnsS wr B o zs ∧ OwnStep (w.alloc (.cells #[.int .i64 2, .string s, .slice (some ⟨b, off, none⟩) ks.len c] 25)) wr (.slice ra ss.length rc) o) (fun _ i _ => ks.len - (intOf i).toNat)
      case atStart => exact ⟨0, (ss ++ [s0]), Nat.zero_le _, rfl, by rw [Fo.drop_zero]; exact Hrd.out, by rw [Fo.drop_zero]; exact HlL.out, HownL.out, HstL.out⟩
      case round =>
        obtain ⟨j, zs, hj, rfl, hu, hl, ho, hst⟩ := hrel
        obtain ⟨oa, oc, rfl, hzv⟩ := ho.form
        have hbx := (hst.box Hown.out).c2
        have hB := ((OwnStep.alloc w (.slice ra ss.length rc) (.cells #[.int .i64 2, .string s, .slice (some ⟨b, off, none⟩) ks.len c] 25)).trans hst).below Hown.out hBw
        have hwr : B ≤ wr.heap.size := Nat.le_trans hBw hB.size
        have Hu := Lib.hid (And.intro hu (And.intro hl (And.intro ho hst)))
        clear hu hl ho hst hzv
        by_cases hlt : j < ks.len
        · obtain ⟨b, off, k', s', ks', a', n', c', hae, _, hb, hg, hc1, hc2, hc3, hcap, hks⟩ := (hk.below hB).get hlt
          cases hae
          have hsz := Fo.get_size hg
          obtain ⟨hnb', hgd'⟩ := good_get Hgd.out hg
          have Hfk := Lib.hid (Hfit.out.get hg)
          have hdr := Lib.hid (show rdl (ks.drop j) = rd1 k' ks' ++ rdl (ks.drop (j + 1)) by rw [Fo.drop_get hg, rdl_node])
          have hkl' := hks.1
          have hn' : n' ≤ maxLen := by rw [← hkl']; exact Hfk.out.2.1
          have hl2 : zs.length + (rd1 k' ks').length + (rdl (ks.drop (j + 1))).length ≤ 4194304 := by have := Hu.out.2.1; rw [hdr.out, List.length_append] at this; omega
          have Hih := Lib.hid (ih k' s' ks' (by omega) a' n' c' B (.slice oa zs.length oc) zs wr hks hwr Hu.out.2.2.1 (by omega) Hfk.out.1 Hfk.out.2.2 hn' hnb' hgd')
          clear hg hnb' hgd' hks
          go_wp2_with fail
          refine Hih.out.mono ?_
          rintro e w1 ⟨v1, rfl, ho1, hst1⟩
          have Ho1 := Lib.hid (And.intro ho1 hst1)
          clear ho1 hst1
          go_wp2_with fail
          go_roundw
          case rel => exact ⟨j + 1, uniqN zs (rd1 k' ks'), by omega, by go_num, by rw [Hu.out.1, hdr.out, uniqN_append], by have := uniqN_length (rd1 k' ks') zs; omega, Ho1.out.1, Hu.out.2.2.2.trans Ho1.out.2⟩
          case measure => simp [intOf]; omega
        · have e0 : j = ks.len := by omega
          subst e0
          go_wp2_with fail
          go_ret
          have h9 := Hu.out.1
          rw [Fo.drop_all (Nat.le_refl _)] at h9
          exact ⟨_, rfl, by rw [h9]; exact Hu.out.2.2.1, (OwnStep.alloc w (.slice ra ss.length rc) (.cells #[.int .i64 2, .string s, .slice (some ⟨b, off, none⟩) ks.len c] 25)).trans Hu.out.2.2.2⟩
theorem rdS_all (N : Nat) : ∀ k s ks, Fo.size ks ≤ N → RdC k s ks := by
  induction N with
  | zero => exact fun k s ks hN => rdS_of k s ks fun k' s' ks' h => absurd h (by omega)
  | succ N ih => exact fun k s ks hN => rdS_of k s ks fun k' s' ks' h => ih k' s' ks' (by omega)

set_option maxHeartbeats 1000000 in
theorem readsS_any (k : Int) (s : ByteArray) (ks : Fo) (a : Option Addr) (n c : Nat) (w : World) (hk : KA w 0 w.heap.size ks a n) (hs : s.size ≤ maxLen) (hfit : ks.Fits) (hn : n ≤ maxLen) (hz : ks.size ≤ 1048576) :
    Calls Try.prog 10 #[.agg #[.int .i64 k, .string s, .slice a n c]] w (StrsR (readsE k s ks) w) := by
  have hB0 := (Below.refl w.heap.size w).alloc (Nat.le_refl _) (.cells #[.int .i64 k, .string s, .slice a n c] 25)
  have Hvd := Lib.hid (validSE_any k s ks a n c _ (hk.next hB0) hs hfit hn hz)
  rcases Bool.eq_false_or_eq_true (validE k s ks) with h1 | h1
  · obtain ⟨hn1, hg1, _⟩ := valid_good h1
    have Hr := Lib.hid (show readsE k s ks = uniqN [] (rd1 k ks) by unfold readsE; rw [h1]; rfl)
    have Hk := Lib.hid (And.intro hk (And.intro hfit (And.intro hn1 hg1)))
    have hrl := rd1_length k ks
    rw [h1] at Hvd
    clear h1 hk hfit hn1 hg1
    go_enter Try.func10, Try.ntmps10
    go_wp2_with fail
    refine Hvd.out.mono ?_
    rintro e w1 ⟨rfl, hB1⟩
    obtain ⟨hx0, hx1, hx2⟩ := box_cells hB1
    have hBB := Lib.hid (hB0.trans (hB1.mono hB0.size))
    have Hst := Lib.hid (rdS_all ks.size k s ks (Nat.le_refl _) a n c w1.heap.size (.slice (some ⟨w1.heap.size, 0, none⟩) 0 0) [] (w1.alloc (.cells #[] 9)) ((Hk.out.1.next hBB.out).alloc (Nat.le_refl _) _) (by simp) (strs_made w1) (by simp; omega) hs Hk.out.2.1 hn Hk.out.2.2.1 Hk.out.2.2.2)
    have hlt : w.heap.size < w1.heap.size := by have := hB1.size; simp at this; omega
    have hy0 := (World.cell?_alloc_lt w1 (.cells #[] 9) ⟨w.heap.size, 0, none⟩ hlt).trans hx0
    have hy1 := (World.cell?_alloc_lt w1 (.cells #[] 9) ⟨w.heap.size, 1, none⟩ hlt).trans hx1
    have hy2 := (World.cell?_alloc_lt w1 (.cells #[] 9) ⟨w.heap.size, 2, none⟩ hlt).trans hx2
    clear hB1
    go_wp2_with fail
    refine Hst.out.mono ?_
    rintro e w2 ⟨v', rfl, ho, hst⟩
    have Hfin := Lib.hid (show StrsR (readsE k s ks) w (.returned v') w2 from ⟨v', rfl, by rw [Hr.out]; exact World.ownsRow.mono ho hBB.out.size, hBB.out.trans ((((Below.refl w1.heap.size w1).alloc (Nat.le_refl _) (.cells #[] 9)).trans (hst.below (strs_made w1) (by simp))).mono hBB.out.size)⟩)
    clear ho hst
    go_wp2_with fail
    go_ret
    exact Hfin.out
  · have Hr := Lib.hid (show readsE k s ks = [] by unfold readsE; rw [h1]; rfl)
    rw [h1] at Hvd
    clear h1
    go_enter Try.func10, Try.ntmps10
    go_wp2_with fail
    refine Hvd.out.mono ?_
    rintro e w1 ⟨rfl, hB1⟩
    have hBB := Lib.hid (hB0.trans (hB1.mono hB0.size))
    clear hB1
    go_wp2_with fail
    go_ret
    exact ⟨_, rfl, by rw [Hr.out]; exact World.ownsRow.mono (strs_made w1) hBB.out.size, hBB.out.alloc hBB.out.size _⟩
end Go.Proofs.Ytbcghkdjhicocaa
