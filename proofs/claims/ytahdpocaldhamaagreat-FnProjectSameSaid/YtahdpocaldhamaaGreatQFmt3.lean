/-
  The program's method 'write' of every node; FormatExpr.
-/
import Derived.Test.YtahdpocaldhamaaGreatQFmt2
namespace Go.Proofs.YtahdpocaldhamaaGreat
set_option linter.unusedVariables false
open Go.RowKit

theorem len_four {ks : Fo} (h : ks.len = 4) : ∃ k0 s0 f0 k1 s1 f1 k2 s2 f2 k3 s3 f3, ks = .node k0 s0 f0 (.node k1 s1 f1 (.node k2 s2 f2 (.node k3 s3 f3 .nil))) := by
  match ks, h with
  | .node k0 s0 f0 (.node k1 s1 f1 (.node k2 s2 f2 (.node k3 s3 f3 .nil))), _ => exact ⟨_, _, _, _, _, _, _, _, _, _, _, _, rfl⟩
  | .nil, h => simp [Fo.len] at h
  | .node _ _ _ .nil, h => simp [Fo.len] at h
  | .node _ _ _ (.node _ _ _ .nil), h => simp [Fo.len] at h
  | .node _ _ _ (.node _ _ _ (.node _ _ _ .nil)), h => simp [Fo.len] at h
  | .node _ _ _ (.node _ _ _ (.node _ _ _ (.node _ _ _ (.node _ _ _ _)))), h => simp [Fo.len] at h
theorem cf_read (args : Array Value) (w' : World) : Sem.run Tryz.prog (callFunc 150 args) w' = .ok (.enter 150 args) w' := by kernel_rfl
theorem cf_join (args : Array Value) (w' : World) : Sem.run Tryz.prog (callFunc 136 args) w' = .ok (.enter 136 args) w' := by kernel_rfl
theorem cf_same (args : Array Value) (w' : World) : Sem.run Tryz.prog (callFunc 141 args) w' = .ok (.enter 141 args) w' := by kernel_rfl
theorem cf_first (args : Array Value) (w' : World) : Sem.run Tryz.prog (callFunc 154 args) w' = .ok (.enter 154 args) w' := by kernel_rfl
theorem cf_rest (args : Array Value) (w' : World) : Sem.run Tryz.prog (callFunc 157 args) w' = .ok (.enter 157 args) w' := by kernel_rfl
theorem cf_count (args : Array Value) (w' : World) : Sem.run Tryz.prog (callFunc 160 args) w' = .ok (.enter 160 args) w' := by kernel_rfl

set_option maxHeartbeats 1000000 in
theorem wr_of (k : Int) (s : ByteArray) (ks : Fo) (ih : ∀ k' s' ks', Fo.size ks' < ks.size → WrC k' s' ks') : WrC k s ks := by
  intro v L D B b l w hv hn hg hD hBb hb hbl hlen
  obtain ⟨os, oa, oc, hnv, rfl, hsl⟩ := hv
  have later : ∀ k' s' ks' v', Fo.size ks' < ks.size → nodeB k' s' ks'.len = true → good ks' = true → NV1 w L D k' s' ks' v' → Later w v' B b (63 * (ks'.size + 1)) (fm1 k' s' ks') := fun k' s' ks' v' h1 h2 h3 h4 l' w' hw hl =>
    ih k' s' ks' h1 v' L D B b l' w' (h4.wrote hw hD) h2 h3 hD hBb (Nat.lt_of_lt_of_le hb hw.sz) hw.is hl
  rcases node_kinds hn with ⟨rfl, h0, hp⟩ | ⟨rfl, h4, rfl⟩ | ⟨rfl, h4, rfl⟩ | ⟨hk, h1, rfl⟩
  · refine ⟨_, _, _, rfl, fun n w' => mw_text n s w', cf_text, write_text s B b l _ w hb hBb hbl (by omega) (plain_size hp) ?_⟩
    unfold fm1; simp
  · refine ⟨_, _, _, rfl, fun n w' => mw_join n _ w', cf_join, write_join ks os oa oc L D B b l w hb hBb hD hbl (nvs_len hnv) h4 hg hsl hlen ?_⟩
    intro j k' s' ks' hgt
    obtain ⟨v', hv1, hv2⟩ := nvs_get hnv hgt
    obtain ⟨hn', hg'⟩ := good_get hg hgt
    exact ⟨v', hv1, hv2.iface, later k' s' ks' v' (by have := Fo.get_size hgt; omega) hn' hg' hv2⟩
  · obtain ⟨k0, s0, f0, k1, s1, f1, k2, s2, f2, k3, s3, f3, rfl⟩ := len_four h4
    obtain ⟨v0, vr, rfl, a0, v1, vr1, rfl, a1, v2, vr2, rfl, a2, v3, vr3, rfl, a3, hz⟩ := hnv
    simp only [NVs] at hz
    subst hz
    simp only [good, Bool.and_eq_true] at hg
    obtain ⟨⟨g0, g0'⟩, ⟨g1, g1'⟩, ⟨g2, g2'⟩, ⟨g3, g3'⟩, _⟩ := hg
    simp only [Fo.size] at hlen later
    refine ⟨_, _, _, rfl, fun n w' => mw_same n v0 v1 v2 v3 w', cf_same, write_same v0 v1 v2 v3 B b _ _ _ _ l _ _ _ _ _ w hb hBb hbl (NV1.iface a0) (NV1.iface a1) (NV1.iface a2) (NV1.iface a3)
      (later k0 s0 f0 v0 (by omega) g0 g0' a0) (later k1 s1 f1 v1 (by omega) g1 g1' a1) (later k2 s2 f2 v2 (by omega) g2 g2' a2) (later k3 s3 f3 v3 (by omega) g3 g3' a3) (fm1_len g0 g0') (fm1_len g1 g1') (fm1_len g2 g2') (fm1_len g3 g3') (by omega) ?_⟩
    rw [show fm1 4 .empty (.node k0 s0 f0 (.node k1 s1 f1 (.node k2 s2 f2 (.node k3 s3 f3 .nil)))) = [91] ++ fmS (.node k0 s0 f0 (.node k1 s1 f1 (.node k2 s2 f2 (.node k3 s3 f3 .nil)))) [[61], [63], [58], [93]] from rfl]
    rw [fmS_node, fmS_node, fmS_node, fmS_node]
    simp [fmS]
  · obtain ⟨k', s', f', rfl⟩ := len_one h1
    obtain ⟨v', vr, rfl, a', hz⟩ := hnv
    simp only [NVs] at hz
    subst hz
    simp only [good, Bool.and_eq_true] at hg
    obtain ⟨⟨g1, g2⟩, _⟩ := hg
    simp only [Fo.size] at hlen later
    have hsub := later k' s' f' v' (by omega) g1 g2 a'
    have hif := NV1.iface a'
    rcases hk with rfl | rfl | rfl | rfl
    · refine ⟨_, _, _, rfl, fun n w' => mw_read n v' w', cf_read, write_read v' B b l (fm1 k' s' f') _ w hb hBb hbl (by omega) hif (fun w' hw => hsub _ w' hw (by rw [List.length_append, List.length_singleton]; omega)) ?_⟩
      rw [show fm1 2 .empty (.node k' s' f' .nil) = [64] ++ fmS (.node k' s' f' .nil) [] from rfl, fmS_one, List.append_assoc]
    · refine ⟨_, _, _, rfl, fun n w' => mw_first n v' w', cf_first, write_first v' B b l (fm1 k' s' f') _ w hb hBb hbl (by omega) hif (fun w' hw => hsub _ w' hw (by rw [List.length_append, List.length_singleton]; omega)) ?_⟩
      rw [show fm1 5 .empty (.node k' s' f' .nil) = [60] ++ fmS (.node k' s' f' .nil) [] from rfl, fmS_one, List.append_assoc]
    · refine ⟨_, _, _, rfl, fun n w' => mw_rest n v' w', cf_rest, write_rest v' B b l (fm1 k' s' f') _ w hb hBb hbl (by omega) hif (fun w' hw => hsub _ w' hw (by rw [List.length_append, List.length_singleton]; omega)) ?_⟩
      rw [show fm1 6 .empty (.node k' s' f' .nil) = [62] ++ fmS (.node k' s' f' .nil) [] from rfl, fmS_one, List.append_assoc]
    · refine ⟨_, _, _, rfl, fun n w' => mw_count n v' w', cf_count, write_count v' B b l (fm1 k' s' f') _ w hb hBb hbl (by omega) hif (fun w' hw => hsub _ w' hw (by rw [List.length_append, List.length_singleton]; omega)) ?_⟩
      rw [show fm1 7 .empty (.node k' s' f' .nil) = [35] ++ fmS (.node k' s' f' .nil) [] from rfl, fmS_one, List.append_assoc]
theorem wr_all (N : Nat) : ∀ k s ks, Fo.size ks ≤ N → WrC k s ks := by
  induction N with
  | zero => exact fun k s ks hN => wr_of k s ks fun k' s' ks' h => absurd h (by omega)
  | succ N ih => exact fun k s ks hN => wr_of k s ks fun k' s' ks' h => ih k' s' ks' (by omega)

set_option maxRecDepth 100000 in
set_option maxHeartbeats 1000000 in
theorem formatNode_any (k : Int) (s : ByteArray) (ks : Fo) (v : Value) (L : Nat) (w : World) (hnv : NV1 w L w.heap.size k s ks v) (hv : nodeB k s ks.len = true) (hg : good ks = true) (hz : ks.size ≤ 1000) :
    Calls Tryz.prog 56 #[v] w fun e w' => e = .returned (.string ⟨(fm1 k s ks).toArray⟩) ∧ Below w.heap.size w w' := by
  have hal := Below.refl w.heap.size w
  have hal1 := hal.alloc (Nat.le_refl _) (.cells #[.pointer none, .slice none 0 0] 61)
  obtain ⟨T, X, F, rfl, hd, hcf, hcall⟩ := wr_all ks.size k s ks (Nat.le_refl _) v _ w.heap.size w.heap.size w.heap.size [] _ (hnv.keep (Nat.le_refl _) (Nat.le_refl _) (fun p _ h2 => hal1.cell h2)) hv hg (Nat.le_refl _) (Nat.le_refl _) (by simp) (Bld.new w) (by simp; omega)
  have Hcall := Lib.hid hcall
  have Hal := Lib.hid hal1
  clear hnv hcall hal hal1 hv hg
  go_enter Tryz.func56, Tryz.ntmps56
  go_wp2_with fail
  refine Hcall.out.mono ?_
  rintro e w3 ⟨rfl, hW3⟩
  have HW3 := Lib.hid hW3
  have hz3 := hW3.sz
  simp only [World.size_alloc] at hz3
  clear hW3
  go_wp2_with fail
  refine (builderString_any _ _ _ _ HW3.out.is (by omega)).mono ?_
  rintro e w4 ⟨rfl, hB4⟩
  have HB4 := Lib.hid (Hal.out.trans (HW3.out.below.trans hB4))
  clear hB4
  go_wp2_with fail
  go_ret
  exact ⟨ret_str rfl, HB4.out⟩

set_option maxRecDepth 100000 in
set_option maxHeartbeats 1000000 in
theorem formatI_expr (k : Int) (s : ByteArray) (ks : Fo) (a : Option Addr) (n c : Nat) (w : World) (hk : KA w 0 w.heap.size ks a n) (hs : s.size ≤ maxLen) (hfit : ks.Fits) (hn : n ≤ maxLen) :
    Calls Tryz.prog 32 #[.agg #[.int .i64 k, .string s, .slice a n c]] w fun e w' => e = .returned (.string (fmtE k s ks)) ∧ Below w.heap.size w w' := by
  have hB0 := (Below.refl w.heap.size w).alloc (Nat.le_refl _) (.cells #[.int .i64 k, .string s, .slice a n c] 41)
  have Hno := Lib.hid (nodeOf_any k s ks a n c _ (hk.next hB0) hs hfit hn)
  have HB0 := Lib.hid hB0
  clear hk hs hfit hn hB0
  rcases Bool.eq_false_or_eq_true (validE k s ks) with hv | hv
  · rw [show fmtE k s ks = ⟨(fm1 k s ks).toArray⟩ from by unfold fmtE; rw [if_pos hv]]
    obtain ⟨hn1, hg1, hs1⟩ := valid_good hv
    have Hv := Lib.hid (And.intro hv (And.intro hn1 (And.intro hg1 hs1)))
    clear hv hn1 hg1 hs1
    go_enter Tryz.func32, Tryz.ntmps32
    go_wp2_with fail
    refine Hno.out.mono ?_
    intro e w1 hpost
    unfold NodeP at hpost
    rw [if_pos Hv.out.1] at hpost
    obtain ⟨v, rfl, hnv, hB⟩ := hpost
    have HBB := Lib.hid (HB0.out.trans (hB.mono HB0.out.size))
    have Hnv := Lib.hid hnv
    clear hnv hB
    go_wp2_with fail
    refine (formatNode_any k s ks v _ _ Hnv.out Hv.out.2.1 Hv.out.2.2.1 (by have := Hv.out.2.2.2; omega)).mono ?_
    rintro e w4 ⟨rfl, hB4⟩
    have HB4 := Lib.hid (HBB.out.trans (hB4.mono HBB.out.size))
    clear hB4
    go_wp2_with fail
    go_ret
    exact ⟨rfl, HB4.out⟩
  · rw [show fmtE k s ks = .empty from by unfold fmtE; rw [hv]; rfl]
    have Hv := Lib.hid hv
    clear hv
    go_enter Tryz.func32, Tryz.ntmps32
    go_wp2_with fail
    refine Hno.out.mono ?_
    intro e w1 hpost
    unfold NodeP at hpost
    rw [if_neg (by rw [Hv.out]; simp)] at hpost
    obtain ⟨rfl, hB⟩ := hpost
    have hBB := HB0.out.trans (hB.mono HB0.out.size)
    clear hB
    go_wp2_with fail
    go_ret
    exact ⟨rfl, hBB⟩
end Go.Proofs.YtahdpocaldhamaaGreat
