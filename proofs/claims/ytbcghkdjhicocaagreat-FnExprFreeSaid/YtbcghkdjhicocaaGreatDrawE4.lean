/-
  The drawing functions l2Still, DrawExprValid, DrawExprReads and DrawExprFree.
-/
import Derived.Test.YtbcghkdjhicocaaGreatDrawE3
import Derived.Test.YtbcghkdjhicocaaGreatInB
namespace Go.Proofs.YtbcghkdjhicocaaGreat
set_option linter.unusedVariables false
set_option linter.unusedSimpArgs false
open Go.RowKit

set_option maxHeartbeats 2000000 in
theorem still_leaf {n c p B R : Nat} {a : Option Addr} {w : World} (d : Nat) (hd : (d : Int) < 2) (h : Rd w B R a n c p) (hp : p + 4 ≤ 1000000000) :
    Calls Tryz.prog 14 #[.pointer (some ⟨R, 0, none⟩), .int .i64 d] w (TreePost 2 w B R a n c p 4) := by
  have hR := h.lt
  have h0 := (Step.refl h).alloc (.cells #[.int .i64 0, .string .empty, .slice none 0 0] 25)
  have hb0 := BxE.new w 0 .empty (.slice none 0 0) 25
  go_enter Tryz.func14, Tryz.ntmps14
  go_wp2_with fail
  refine (text_any h0.rd (by omega)).mono ?_
  rintro e w3 ⟨s, q3, rfl, hs, hst3⟩
  go_wp2_with fail
  refine (lit_any s w3).mono ?_
  rintro e w4 ⟨rfl, hB4⟩
  have hst4 := (h0.trans hst3).below hB4
  obtain ⟨c0, c1, c2, f0, f1, f2, hl⟩ := ((hb0.step hst3 (by omega)).next hB4).facts
  go_wp2_with fail
  refine bodyPost_ret (v := .agg #[.int .i64 1, .string s, .slice none 0 0]) (by simp [results, Tryz.results14, go_sem, *]) rfl ?_
  exact (TreePost.fin (hst4.more (by omega)) (OwnT.nil _ _) (by omega) trivial (by simp [Fo.size]) _ _ _ 0).no0

set_option maxRecDepth 100000 in
set_option maxHeartbeats 4000000 in
theorem still_node {n c p B R : Nat} {a : Option Addr} {w : World} (d : Nat) (hd : 1 ≤ d) (hd2 : d ≤ 6) (h : Rd w B R a n c p) (hp : p + drQ (d + 1) ≤ 1000000000)
    (ih : ∀ (p : Nat) (w : World), Rd w B R a n c p → p + drQ d ≤ 1000000000 → Calls Tryz.prog 14 #[.pointer (some ⟨R, 0, none⟩), .int .i64 d] w (TreePost (drN d) w B R a n c p (drQ d))) :
    Calls Tryz.prog 14 #[.pointer (some ⟨R, 0, none⟩), .int .i64 ((d + 1 : Nat) : Int)] w (TreePost (drN (d + 1)) w B R a n c p (drQ (d + 1))) := by
  have hR := h.lt
  have hdn := drN_pos d
  have hpp : p + (4 * drQ d + 4) ≤ 1000000000 := hp
  have h0 := (Step.refl h).alloc (.cells #[.int .i64 0, .string .empty, .slice none 0 0] 25)
  have hb0 := BxE.new w 0 .empty (.slice none 0 0) 25
  have hs0 : (w.alloc (.cells #[.int .i64 0, .string .empty, .slice none 0 0] 25)).heap.size = w.heap.size + 1 := by simp
  have hwd : IntKind.i64.wrap (d : Int) = d := IntWalk.i64_in _ (by omega)
  have hdd : ¬ ((d + 1 : Nat) : Int) < 2 := by omega
  go_enter Tryz.func14, Tryz.ntmps14
  go_wp2_with fail
  rw [← hs0]
  refine (num_new (fun s => 3 ≤ s ∧ s ≤ 7) 5 h0.rd (by omega) (by omega) (by omega) rfl ?_).mono ?_
  · intro u hu
    have hu' : u = .int .i64 3 ∨ u = .int .i64 4 ∨ u = .int .i64 5 ∨ u = .int .i64 6 ∨ u = .int .i64 7 := by simpa using hu
    rcases hu' with rfl | rfl | rfl | rfl | rfl <;> exact ⟨_, rfl, by omega, by omega⟩
  rintro e w2 ⟨⟨k, rfl, hk0, hk1⟩, hst2⟩
  have hst02 := (h0.alloc _).trans hst2
  have hb2 := (hb0.alloc _).step hst2 (by omega)
  have hl2 := blk_lt hb2
  have hE := BxE.new w2 k ⟨#[]⟩ (.slice none 0 0) 25
  have hstE := hst02.alloc (.cells #[.int .i64 k, .string ⟨#[]⟩, .slice none 0 0] 25)
  have hbE := hb2.alloc (.cells #[.int .i64 k, .string ⟨#[]⟩, .slice none 0 0] 25)
  have hsE : (w2.alloc (.cells #[.int .i64 k, .string ⟨#[]⟩, .slice none 0 0] 25)).heap.size = w2.heap.size + 1 := by simp
  clear hst2 hst02 hb2 hb0 h0
  by_cases k3 : k = 3
  · subst k3
    go_wp2_with fail
    rw [← hsE]
    refine (num_new (fun s => 0 ≤ s ∧ s ≤ 3) 3 hstE.rd (by have := hstE.hi; omega) (by omega) (by omega) rfl ?_).mono ?_
    · intro u hu
      have hu' : u = .int .i64 2 ∨ u = .int .i64 3 ∨ u = .int .i64 0 := by simpa using hu
      rcases hu' with rfl | rfl | rfl <;> exact ⟨_, rfl, by omega, by omega⟩
    rintro e w3 ⟨⟨m, rfl, hm0, hm1⟩, hst3⟩
    obtain ⟨m, rfl⟩ := Int.eq_ofNat_of_zero_le hm0
    have hmm : m ≤ 4 := by omega
    have hst := (hstE.alloc _).trans hst3
    have hE3 := (hE.alloc _).step hst3 (by omega)
    have hb3 := (hbE.alloc _).step hst3 (by omega)
    clear hst3 hstE hbE hE
    obtain ⟨s0, s1, s2, t0, t1, t2, hsl⟩ := hE3.facts
    have hEl := blk_lt hE3
    go_wp2_with fail
    go_loopw [7] (fun i wr => DrI w B R a n c p w2.heap.size 3 d m i wr) (fun i _ => m - (intOf i).toNat)
    case atStart => exact ⟨0, _, _, .nil, Nat.zero_le _, rfl, rfl, OwnT.nil _ _, hE3, hb3, trivial, by simp [Fo.size], hst.more (by omega)⟩
    case round =>
      obtain ⟨j, q, v, f, hj, rfl, hfl, hown, hex, hbx, hfit, hsz, hst⟩ := hrel
      obtain ⟨e0, e1, e2, g0, g1, g2, hel⟩ := hex.facts
      by_cases hlt : j < m
      · have hjj : (j : Int) < (m : Int) := by omega
        have hq : j * drQ d ≤ 3 * drQ d := Nat.mul_le_mul_right _ (by omega)
        have hhi := hst.hi
        have hrd := hst.rd
        go_wp2_with fail
        go_region_law (first
          | (go_simp; go_at_call 14; refine Calls.mono (ih q _ (by first | exact hrd | exact hrd.drewN 1) (by omega)) ?_; rintro e w4 ⟨k4, s4, v4, ks4, q4, rfl, hown4, hs4, hf4, hz4, hst4⟩; obtain ⟨a4, d4, rfl, hd4, hm4, hk4⟩ := hown4.form; have hst4' := ((Step.refl hrd).drewN 1).trans hst4; have hown5 := hown.step (by omega) hst4'; have hex5 := hex.step hst4' (by omega); have hbx5 := hbx.step hst4' (by omega); obtain ⟨y0, y1, y2, z0, z1, z2, hl5⟩ := hex5.facts)
          | (refine step_append_node rfl _ _ (by rfl) (w2.heap.size + 1) v f (by rfl) (hown5.alloc _) w4.heap.size 1 (by rfl) k4 s4 ks4 a4 ks4.len d4 _ _ (heap_alloc_new w4 _) hd4 (hk4.alloc (Nat.le_refl _) _) (by show _ ≤ wr.heap.size; omega) (by simp) (fun g hg => .inl (hown.lt g hg).2) (by omega) (by simp; omega) ?_; intro g cap w6 hown6 hgrow6 hlt6 hbg6; have hex6 := (hex5.alloc (.cells #[.int .i64 k4, .string s4, .slice a4 ks4.len d4] 25)).grown hgrow6 (fun e => by have := (hown.lt _ e).1; omega); obtain ⟨x0, x1, x2, v0, v1, v2, hl6⟩ := hex6.facts))
        all_goals go_wp2_with fail
        all_goals
          rw [hfl] at hown6
          exact ⟨⟨j + 1, q4, _, _, by omega, by go_num, by rw [Fo.snoc_len]; omega, hown6.setCell (Nat.lt_succ_self _) 2 _, hex6.set2 _, ((hbx5.alloc _).grown hgrow6 (fun e => by have := (hown.lt _ e).1; omega)).other (by omega) 2 _, Fo.snoc_fits hfit (by unfold maxLen; omega) (by omega) hf4, by rw [Fo.snoc_size, Nat.add_mul]; omega, (((hst.trans hst4').alloc _).grew hgrow6 (fun g' e => by have := (hown.lt _ e).1; constructor <;> omega)).setNew (by omega) _ |>.more (by rw [Nat.add_mul]; omega)⟩, by simp [intOf]; omega⟩
      · have hlo := hst.lo
        have hown' := hown.mono (base' := w.heap.size + 1) (by omega)
        have hz5 : j * (drN d + 1) ≤ 4 * (drN d + 1) := Nat.mul_le_mul_right _ (by omega)
        have hq5 : j * drQ d ≤ 4 * drQ d := Nat.mul_le_mul_right _ (by omega)
        obtain ⟨c0, c1, c2, f0, f1, f2, hl⟩ := hbx.facts
        obtain ⟨av, dv, rfl, hdv, hmv, hkv⟩ := hown.form
        have hjj : ¬ (j : Int) < (m : Int) := by omega
        go_wp2_with fail
        refine bodyPost_ret (v := .agg #[.int .i64 3, .string ⟨#[]⟩, .slice av f.len dv]) (by simp [results, Tryz.results14, go_sem, *]) rfl ?_
        exact (TreePost.fin (hst.more (by simp only [drQ]; omega)) hown' (by decide) hfit (by simp only [drN]; omega) _ _ _ 0).no0
  · have h3 : (k == 3) = false := by rw [beq_eq_false_iff_ne]; exact k3
    by_cases k4 : k = 4
    · subst k4
      have hmm : 4 ≤ 4 := Nat.le_refl _
      have hEl := blk_lt hE
      go_wp2_with fail
      go_loopw [7] (fun i wr => DrI w B R a n c p w2.heap.size 4 d 4 i wr) (fun i _ => 4 - (intOf i).toNat)
      case atStart => exact ⟨0, _, _, .nil, Nat.zero_le _, rfl, rfl, OwnT.nil _ _, hE, hbE, trivial, by simp [Fo.size], hstE.more (by omega)⟩
      case round =>
        obtain ⟨j, q, v, f, hj, rfl, hfl, hown, hex, hbx, hfit, hsz, hst⟩ := hrel
        obtain ⟨e0, e1, e2, g0, g1, g2, hel⟩ := hex.facts
        by_cases hlt : j < 4
        · have hjj : (j : Int) < (4 : Int) := by omega
          have hq : j * drQ d ≤ 3 * drQ d := Nat.mul_le_mul_right _ (by omega)
          have hhi := hst.hi
          have hrd := hst.rd
          go_wp2_with fail
          go_region_law (first
            | (go_simp; go_at_call 14; refine Calls.mono (ih q _ (by first | exact hrd | exact hrd.drewN 1) (by omega)) ?_; rintro e w4 ⟨k4, s4, v4, ks4, q4, rfl, hown4, hs4, hf4, hz4, hst4⟩; obtain ⟨a4, d4, rfl, hd4, hm4, hk4⟩ := hown4.form; have hst4' := ((Step.refl hrd).drewN 1).trans hst4; have hown5 := hown.step (by omega) hst4'; have hex5 := hex.step hst4' (by omega); have hbx5 := hbx.step hst4' (by omega); obtain ⟨y0, y1, y2, z0, z1, z2, hl5⟩ := hex5.facts)
            | (refine step_append_node rfl _ _ (by rfl) (w2.heap.size + 1) v f (by rfl) (hown5.alloc _) w4.heap.size 1 (by rfl) k4 s4 ks4 a4 ks4.len d4 _ _ (heap_alloc_new w4 _) hd4 (hk4.alloc (Nat.le_refl _) _) (by show _ ≤ wr.heap.size; omega) (by simp) (fun g hg => .inl (hown.lt g hg).2) (by omega) (by simp; omega) ?_; intro g cap w6 hown6 hgrow6 hlt6 hbg6; have hex6 := (hex5.alloc (.cells #[.int .i64 k4, .string s4, .slice a4 ks4.len d4] 25)).grown hgrow6 (fun e => by have := (hown.lt _ e).1; omega); obtain ⟨x0, x1, x2, v0, v1, v2, hl6⟩ := hex6.facts))
          all_goals go_wp2_with fail
          all_goals
            rw [hfl] at hown6
            exact ⟨⟨j + 1, q4, _, _, by omega, by go_num, by rw [Fo.snoc_len]; omega, hown6.setCell (Nat.lt_succ_self _) 2 _, hex6.set2 _, ((hbx5.alloc _).grown hgrow6 (fun e => by have := (hown.lt _ e).1; omega)).other (by omega) 2 _, Fo.snoc_fits hfit (by unfold maxLen; omega) (by omega) hf4, by rw [Fo.snoc_size, Nat.add_mul]; omega, (((hst.trans hst4').alloc _).grew hgrow6 (fun g' e => by have := (hown.lt _ e).1; constructor <;> omega)).setNew (by omega) _ |>.more (by rw [Nat.add_mul]; omega)⟩, by simp [intOf]; omega⟩
        · have hlo := hst.lo
          have hown' := hown.mono (base' := w.heap.size + 1) (by omega)
          have hz5 : j * (drN d + 1) ≤ 4 * (drN d + 1) := Nat.mul_le_mul_right _ (by omega)
          have hq5 : j * drQ d ≤ 4 * drQ d := Nat.mul_le_mul_right _ (by omega)
          obtain ⟨c0, c1, c2, f0, f1, f2, hl⟩ := hbx.facts
          obtain ⟨av, dv, rfl, hdv, hmv, hkv⟩ := hown.form
          have hjj : ¬ (j : Int) < (4 : Int) := by omega
          go_wp2_with fail
          refine bodyPost_ret (v := .agg #[.int .i64 4, .string ⟨#[]⟩, .slice av f.len dv]) (by simp [results, Tryz.results14, go_sem, *]) rfl ?_
          exact (TreePost.fin (hst.more (by simp only [drQ]; omega)) hown' (by decide) hfit (by simp only [drN]; omega) _ _ _ 0).no0
    · have h4 : (k == 4) = false := by rw [beq_eq_false_iff_ne]; exact k4
      have hmm : 1 ≤ 4 := by omega
      have hEl := blk_lt hE
      go_wp2_with fail
      go_loopw [7] (fun i wr => DrI w B R a n c p w2.heap.size k d 1 i wr) (fun i _ => 1 - (intOf i).toNat)
      case atStart => exact ⟨0, _, _, .nil, Nat.zero_le _, rfl, rfl, OwnT.nil _ _, hE, hbE, trivial, by simp [Fo.size], hstE.more (by omega)⟩
      case round =>
        obtain ⟨j, q, v, f, hj, rfl, hfl, hown, hex, hbx, hfit, hsz, hst⟩ := hrel
        obtain ⟨e0, e1, e2, g0, g1, g2, hel⟩ := hex.facts
        by_cases hlt : j < 1
        · have hjj : (j : Int) < (1 : Int) := by omega
          have hq : j * drQ d ≤ 3 * drQ d := Nat.mul_le_mul_right _ (by omega)
          have hhi := hst.hi
          have hrd := hst.rd
          go_wp2_with fail
          go_region_law (first
            | (go_simp; go_at_call 14; refine Calls.mono (ih q _ (by first | exact hrd | exact hrd.drewN 1) (by omega)) ?_; rintro e w4 ⟨k4, s4, v4, ks4, q4, rfl, hown4, hs4, hf4, hz4, hst4⟩; obtain ⟨a4, d4, rfl, hd4, hm4, hk4⟩ := hown4.form; have hst4' := ((Step.refl hrd).drewN 1).trans hst4; have hown5 := hown.step (by omega) hst4'; have hex5 := hex.step hst4' (by omega); have hbx5 := hbx.step hst4' (by omega); obtain ⟨y0, y1, y2, z0, z1, z2, hl5⟩ := hex5.facts)
            | (refine step_append_node rfl _ _ (by rfl) (w2.heap.size + 1) v f (by rfl) (hown5.alloc _) w4.heap.size 1 (by rfl) k4 s4 ks4 a4 ks4.len d4 _ _ (heap_alloc_new w4 _) hd4 (hk4.alloc (Nat.le_refl _) _) (by show _ ≤ wr.heap.size; omega) (by simp) (fun g hg => .inl (hown.lt g hg).2) (by omega) (by simp; omega) ?_; intro g cap w6 hown6 hgrow6 hlt6 hbg6; have hex6 := (hex5.alloc (.cells #[.int .i64 k4, .string s4, .slice a4 ks4.len d4] 25)).grown hgrow6 (fun e => by have := (hown.lt _ e).1; omega); obtain ⟨x0, x1, x2, v0, v1, v2, hl6⟩ := hex6.facts))
          all_goals go_wp2_with fail
          all_goals
            rw [hfl] at hown6
            exact ⟨⟨j + 1, q4, _, _, by omega, by go_num, by rw [Fo.snoc_len]; omega, hown6.setCell (Nat.lt_succ_self _) 2 _, hex6.set2 _, ((hbx5.alloc _).grown hgrow6 (fun e => by have := (hown.lt _ e).1; omega)).other (by omega) 2 _, Fo.snoc_fits hfit (by unfold maxLen; omega) (by omega) hf4, by rw [Fo.snoc_size, Nat.add_mul]; omega, (((hst.trans hst4').alloc _).grew hgrow6 (fun g' e => by have := (hown.lt _ e).1; constructor <;> omega)).setNew (by omega) _ |>.more (by rw [Nat.add_mul]; omega)⟩, by simp [intOf]; omega⟩
        · have hlo := hst.lo
          have hown' := hown.mono (base' := w.heap.size + 1) (by omega)
          have hz5 : j * (drN d + 1) ≤ 4 * (drN d + 1) := Nat.mul_le_mul_right _ (by omega)
          have hq5 : j * drQ d ≤ 4 * drQ d := Nat.mul_le_mul_right _ (by omega)
          obtain ⟨c0, c1, c2, f0, f1, f2, hl⟩ := hbx.facts
          obtain ⟨av, dv, rfl, hdv, hmv, hkv⟩ := hown.form
          have hjj : ¬ (j : Int) < (1 : Int) := by omega
          go_wp2_with fail
          refine bodyPost_ret (v := .agg #[.int .i64 k, .string ⟨#[]⟩, .slice av f.len dv]) (by simp [results, Tryz.results14, go_sem, *]) rfl ?_
          exact (TreePost.fin (hst.more (by simp only [drQ]; omega)) hown' (by decide) hfit (by simp only [drN]; omega) _ _ _ 0).no0

theorem still_all {n c B R : Nat} {a : Option Addr} (d : Nat) : d ≤ 7 → ∀ (p : Nat) (w : World), Rd w B R a n c p → p + drQ d ≤ 1000000000 → Calls Tryz.prog 14 #[.pointer (some ⟨R, 0, none⟩), .int .i64 d] w (TreePost (drN d) w B R a n c p (drQ d)) := by
  induction d with
  | zero => exact fun _ p w h hp => still_leaf 0 (by omega) h hp
  | succ d ih =>
    intro hd p w h hp
    by_cases h1 : 1 ≤ d
    · exact still_node d h1 (by omega) h hp (ih (by omega))
    · obtain rfl : d = 0 := by omega
      exact (still_leaf 1 (by omega) h (by simp only [drQ] at hp; omega)).mono fun _ _ h => h.more (by simp [drN]) (by simp [drQ])

/-- what a drawn expression is: readable -/
def ExprDraw (w : World) (e : Ending) (w' : World) : Prop :=
  ∃ k s ks a c, e = .returned (.agg #[.int .i64 k, .string s, .slice a (Fo.len ks) c]) ∧ KA w' w.heap.size w'.heap.size ks a ks.len ∧ ks.len ≤ c ∧ s.size ≤ 100 ∧ ks.Fits ∧ ks.size ≤ 10001 ∧ Below w.heap.size w w'
theorem TreePost.drawn {m B R n c p l : Nat} {a : Option Addr} {w w1 w' : World} {e : Ending} (h : TreePost m w1 B R a n c p l e w') (hB : Below w.heap.size w w1) (hm : m ≤ 10001) (hR : w.heap.size ≤ R) : ExprDraw w e w' := by
  obtain ⟨k, s, v, ks, q, rfl, hown, hs, hf, hz, hst⟩ := h
  obtain ⟨a', c', rfl, hc, _, hk⟩ := hown.form
  exact ⟨k, s, ks, a', c', rfl, hk.more hB.size (Nat.le_refl _), hc, hs, hf, by omega, hB.trans (hst.toBelow hR hB.size)⟩

set_option maxHeartbeats 2000000 in
theorem drawExprFree_any (a : Option Addr) (n c : Nat) (w : World) (hb : BytesAt w w.heap.size a n) (hn : n ≤ c) (hc : c ≤ maxLen) :
    Calls Tryz.prog 4 #[.slice a n c] w (ExprDraw w) := by
  have hb0 := BxE.new w 0 .empty (.slice none 0 0) 25
  go_enter Tryz.func4, Tryz.ntmps4
  go_wp2_with fail
  refine (open_any a n c _ (hb.in1 _) hn hc).mono ?_
  rintro e w1 ⟨R, n', c', rfl, hle, hr, hB⟩
  have hb1 := hb0.next hB
  have hB0 : Below w.heap.size w w1 := ((Below.refl _ _).alloc (Nat.le_refl _) _).trans (hB.mono (by simp))
  have hl1 := blk_lt hb1
  simp only [World.size_alloc] at hle hr
  clear hb0 hB
  go_wp2_with fail
  refine (pick_step (m := 3) hr (by omega) (by omega)).mono ?_
  rintro e w0 ⟨⟨x, rfl, _, _⟩, hst0⟩
  by_cases x0 : x = 0
  · subst x0
    go_wp2_with fail
    refine (expr_any hst0.rd (by omega)).mono ?_
    rintro e w2 ⟨k2, s2, v2, ks2, q2, rfl, hown2, hs2, hf2, hz2, hst2a⟩
    have hst2 := hst0.trans hst2a
    obtain ⟨a2, c2, rfl, hc2, _, hk2⟩ := hown2.form
    have hl2 := hst2.grown.size
    go_wp2_with fail
    refine (mut_any hst2.rd (by have := hst2.hi; omega) k2 s2 ks2 a2 ks2.len c2 (hk2.more (Nat.zero_le _) (Nat.le_refl _)) hc2 hs2 hf2 (by omega)).mono ?_
    rintro e w3 ⟨k3, s3, v3, ks3, q3, rfl, hown3, hs3, hf3, hz3, hst3⟩
    have hl3 := hst3.grown.size
    have hst := hst2.trans hst3
    obtain ⟨c0, c1, c2, f0, f1, f2, hl⟩ := (hb1.step hst (by omega)).facts
    have hown3' := hown3.mono (base' := w.heap.size + 1) (by omega)
    obtain ⟨a3, c3, rfl, hc3, _, hk3⟩ := hown3'.form
    go_wp2_with fail
    refine bodyPost_ret (v := .agg #[.int .i64 k3, .string s3, .slice a3 ks3.len c3]) (by simp [results, Tryz.results4, go_sem, *]) rfl ?_
    obtain ⟨a4, c4, h4, _, _, hk4⟩ := (((hown3'.setCell (Nat.lt_succ_self _) 0 (.int .i64 k3)).setCell (Nat.lt_succ_self _) 1 (.string s3)).setCell (Nat.lt_succ_self _) 2 (.slice a3 ks3.len c3)).form
    injection h4 with h4 _ h5
    subst h4
    exact ⟨k3, s3, ks3, a3, c3, rfl, hk4.more (Nat.le_succ _) (Nat.le_refl _), hc3, hs3, hf3, hz3, (((hB0.trans (hst.toBelow (by omega) (by omega))).setCell (Nat.le_refl _) _).setCell (Nat.le_refl _) _).setCell (Nat.le_refl _) _⟩
  · have hx : ((x : Int) == 0) = false := by rw [beq_eq_false_iff_ne]; omega
    go_wp2_with fail
    refine (num_new (fun s => 1 ≤ s ∧ s ≤ 4) 4 hst0.rd (by omega) (by omega) (by omega) rfl ?_).mono ?_
    · intro u hu
      have hu' : u = .int .i64 2 ∨ u = .int .i64 3 ∨ u = .int .i64 1 ∨ u = .int .i64 2 := by simpa using hu
      rcases hu' with rfl | rfl | rfl | rfl <;> exact ⟨_, rfl, by omega, by omega⟩
    rintro e w9 ⟨⟨d, rfl, hd0, hd1⟩, hst9⟩
    obtain ⟨d, rfl⟩ := Int.eq_ofNat_of_zero_le (show 0 ≤ d by omega)
    obtain ⟨hdq, hdn⟩ := drQ_le (d := d) (by omega) (by omega)
    go_wp2_with fail
    refine (still_all d (by omega) _ _ hst9.rd (by omega)).mono ?_
    rintro e w2 ⟨k2, s2, v2, ks2, q2, rfl, hown2, hs2, hf2, hz2, hst2a⟩
    have hst2 := ((hst0.alloc _).trans hst9).trans hst2a
    obtain ⟨a2, c2, rfl, hc2, _, hk2⟩ := hown2.form
    have hl2 := hst2.grown.size
    go_wp2_with fail
    refine (mut_any hst2.rd (by have := hst2.hi; omega) k2 s2 ks2 a2 ks2.len c2 (hk2.more (Nat.zero_le _) (Nat.le_refl _)) hc2 hs2 hf2 (by omega)).mono ?_
    rintro e w3 ⟨k3, s3, v3, ks3, q3, rfl, hown3, hs3, hf3, hz3, hst3⟩
    have hl3 := hst3.grown.size
    have hst := hst2.trans hst3
    obtain ⟨c0, c1, c2, f0, f1, f2, hl⟩ := (hb1.step hst (by omega)).facts
    have hown3' := hown3.mono (base' := w.heap.size + 1) (by omega)
    obtain ⟨a3, c3, rfl, hc3, _, hk3⟩ := hown3'.form
    go_wp2_with fail
    refine bodyPost_ret (v := .agg #[.int .i64 k3, .string s3, .slice a3 ks3.len c3]) (by simp [results, Tryz.results4, go_sem, *]) rfl ?_
    obtain ⟨a4, c4, h4, _, _, hk4⟩ := (((hown3'.setCell (Nat.lt_succ_self _) 0 (.int .i64 k3)).setCell (Nat.lt_succ_self _) 1 (.string s3)).setCell (Nat.lt_succ_self _) 2 (.slice a3 ks3.len c3)).form
    injection h4 with h4 _ h5
    subst h4
    exact ⟨k3, s3, ks3, a3, c3, rfl, hk4.more (Nat.le_succ _) (Nat.le_refl _), hc3, hs3, hf3, hz3, (((hB0.trans (hst.toBelow (by omega) (by omega))).setCell (Nat.le_refl _) _).setCell (Nat.le_refl _) _).setCell (Nat.le_refl _) _⟩
end Go.Proofs.YtbcghkdjhicocaaGreat
