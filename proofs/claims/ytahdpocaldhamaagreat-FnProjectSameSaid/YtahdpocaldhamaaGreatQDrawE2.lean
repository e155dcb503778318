/-
  The drawing function l2Draw, by recursion on the depth.
-/
import Derived.Test.YtahdpocaldhamaaGreatQDrawE
import Derived.LoopNIn
import Derived.Deep.RegionLaw
namespace Go.Proofs.YtahdpocaldhamaaGreat
set_option linter.unusedVariables false
set_option linter.unusedSimpArgs false
open Go.RowKit

/-- how many nodes are below a drawn node, at most -/
def drN : Nat → Nat | 0 => 2 | d + 1 => 4 * drN d + 4
/-- how often the reader is asked, at most -/
def drQ : Nat → Nat | 0 => 4 | d + 1 => 4 * drQ d + 4
theorem TreePost.no0 {m B R n c p l : Nat} {a : Option Addr} {w w' : World} {e : Ending} (h : TreePost m w B R a n c p l e (w'.drewN 0)) : TreePost m w B R a n c p l e w' := h
/-- between two rounds of l2Draw: the operands so far, in the box of the expression (block E, kind k) -/
def DrI (w : World) (B R : Nat) (a : Option Addr) (n c p E : Nat) (k : Int) (d m : Nat) (i : Value) (wr : World) : Prop :=
  ∃ (j q : Nat) (v : Value) (f : Fo), j ≤ m ∧ i = .int .i64 j ∧ f.len = j ∧ OwnT wr (E + 1) v f ∧ BxE wr E k ⟨#[]⟩ v 41 ∧ BxE wr w.heap.size 0 .empty (.slice none 0 0) 41 ∧ f.Fits ∧ f.size ≤ j * (drN d + 1) ∧ Step w wr B R a n c p q (4 + j * drQ d)
theorem drN_pos : ∀ d, 2 ≤ drN d | 0 => by decide | d + 1 => by simp only [drN]; omega

set_option maxHeartbeats 2000000 in
theorem draw_leaf {n c p B R : Nat} {a : Option Addr} {w : World} (d : Nat) (hd : (d : Int) < 2) (h : Rd w B R a n c p) (hp : p + 4 ≤ 1000000000) :
    Calls Tryz.prog 65 #[.pointer (some ⟨R, 0, none⟩), .int .i64 d] w (TreePost 2 w B R a n c p 4) := by
  have hR := h.lt
  have h0 := (Step.refl h).alloc (.cells #[.int .i64 0, .string .empty, .slice none 0 0] 41)
  have hb0 := BxE.new w 0 .empty (.slice none 0 0) 41
  go_enter Tryz.func65, Tryz.ntmps65
  go_wp2_with fail
  have hRl := h0.rd
  have hhi := h0.hi
  refine (pick_step (m := 2) hRl (by omega) (by omega)).mono ?_
  rintro e w2 ⟨⟨y, rfl, _, _⟩, hst2⟩
  have hst02 := h0.trans hst2
  have hb2 := hb0.step hst2 (by omega)
  have hs2 := hst02.grown.size
  by_cases y0 : y = 0
  · subst y0
    go_wp2_with fail
    refine (text_any hst2.rd (by omega)).mono ?_
    rintro e w3 ⟨s, q3, rfl, hs, hst3⟩
    go_wp2_with fail
    refine (lit_any s w3).mono ?_
    rintro e w4 ⟨rfl, hB4⟩
    have hst4 := (hst02.trans hst3).below hB4
    obtain ⟨c0, c1, c2, f0, f1, f2, hl⟩ := ((hb2.step hst3 (by omega)).next hB4).facts
    go_wp2_with fail
    refine bodyPost_ret (v := .agg #[.int .i64 1, .string s, .slice none 0 0]) (by simp [results, Tryz.results65, go_sem, *]) rfl ?_
    exact (TreePost.fin (hst4.more (by omega)) (OwnT.nil _ _) (by omega) trivial (by simp [Fo.size]) _ _ _ 0).no0
  · have hy : ((y : Int) == 0) = false := by rw [beq_eq_false_iff_ne]; omega
    go_wp2_with fail
    refine (named_any hst02.rd (by have := hst02.hi; omega)).mono ?_
    rintro e w5 ⟨k5, s5, v5, ks5, q5, rfl, hown5, hs5, hf5, hz5, hst5⟩
    have hst05 := hst02.trans hst5
    obtain ⟨c0, c1, c2, f0, f1, f2, hl⟩ := (hb2.step hst5 (by omega)).facts
    have hown5' := hown5.mono (base' := w.heap.size + 1) (by have := hst02.grown.size; have := blk_lt hb2; omega)
    obtain ⟨a5, d5, rfl, hd5, hm5, _⟩ := hown5.form
    go_wp2_with fail
    refine bodyPost_ret (v := .agg #[.int .i64 k5, .string s5, .slice a5 ks5.len d5]) (by simp [results, Tryz.results65, go_sem, *]) rfl ?_
    exact (TreePost.fin (hst05.more (by omega)) hown5' hs5 hf5 (by omega) _ _ _ 0).no0

set_option maxRecDepth 100000 in
set_option maxHeartbeats 4000000 in
theorem draw_node {n c p B R : Nat} {a : Option Addr} {w : World} (d : Nat) (hd : 1 ≤ d) (hd2 : d ≤ 6) (h : Rd w B R a n c p) (hp : p + drQ (d + 1) ≤ 1000000000)
    (ih : ∀ (p : Nat) (w : World), Rd w B R a n c p → p + drQ d ≤ 1000000000 → Calls Tryz.prog 65 #[.pointer (some ⟨R, 0, none⟩), .int .i64 d] w (TreePost (drN d) w B R a n c p (drQ d))) :
    Calls Tryz.prog 65 #[.pointer (some ⟨R, 0, none⟩), .int .i64 ((d + 1 : Nat) : Int)] w (TreePost (drN (d + 1)) w B R a n c p (drQ (d + 1))) := by
  have hR := h.lt
  have hdn := drN_pos d
  have hpp : p + (4 * drQ d + 4) ≤ 1000000000 := hp
  have h0 := (Step.refl h).alloc (.cells #[.int .i64 0, .string .empty, .slice none 0 0] 41)
  have hb0 := BxE.new w 0 .empty (.slice none 0 0) 41
  have hwd : IntKind.i64.wrap (d : Int) = d := IntWalk.i64_in _ (by omega)
  have hdd : ¬ ((d + 1 : Nat) : Int) < 2 := by omega
  go_enter Tryz.func65, Tryz.ntmps65
  go_wp2_with fail
  refine (pick_step (m := 5) h0.rd (by omega) (by omega)).mono ?_
  rintro e w1 ⟨⟨x, rfl, _, _⟩, hst1⟩
  have hst01 := h0.trans hst1
  have hb1 := hb0.step hst1 (by omega)
  by_cases x0 : x = 0
  · subst x0
    go_wp2_with fail
    have hRl := hst01.rd
    have hhi := hst01.hi
    refine (pick_step (m := 2) hRl (by omega) (by omega)).mono ?_
    rintro e w2 ⟨⟨y, rfl, _, _⟩, hst2⟩
    have hst02 := hst01.trans hst2
    have hb2 := hb1.step hst2 (by omega)
    have hs2 := hst02.grown.size
    by_cases y0 : y = 0
    · subst y0
      go_wp2_with fail
      refine (text_any hst2.rd (by omega)).mono ?_
      rintro e w3 ⟨s, q3, rfl, hs, hst3⟩
      go_wp2_with fail
      refine (lit_any s w3).mono ?_
      rintro e w4 ⟨rfl, hB4⟩
      have hst4 := (hst02.trans hst3).below hB4
      obtain ⟨c0, c1, c2, f0, f1, f2, hl⟩ := ((hb2.step hst3 (by omega)).next hB4).facts
      go_wp2_with fail
      refine bodyPost_ret (v := .agg #[.int .i64 1, .string s, .slice none 0 0]) (by simp [results, Tryz.results65, go_sem, *]) rfl ?_
      exact (TreePost.fin (hst4.more (by simp only [drQ]; omega)) (OwnT.nil _ _) (by omega) trivial (by simp [Fo.size]) _ _ _ 0).no0
    · have hy : ((y : Int) == 0) = false := by rw [beq_eq_false_iff_ne]; omega
      go_wp2_with fail
      refine (named_any hst02.rd (by have := hst02.hi; omega)).mono ?_
      rintro e w5 ⟨k5, s5, v5, ks5, q5, rfl, hown5, hs5, hf5, hz5, hst5⟩
      have hst05 := hst02.trans hst5
      obtain ⟨c0, c1, c2, f0, f1, f2, hl⟩ := (hb2.step hst5 (by omega)).facts
      have hown5' := hown5.mono (base' := w.heap.size + 1) (by have := hst02.grown.size; have := blk_lt hb2; omega)
      obtain ⟨a5, d5, rfl, hd5, hm5, _⟩ := hown5.form
      go_wp2_with fail
      refine bodyPost_ret (v := .agg #[.int .i64 k5, .string s5, .slice a5 ks5.len d5]) (by simp [results, Tryz.results65, go_sem, *]) rfl ?_
      exact (TreePost.fin (hst05.more (by simp only [drQ]; omega)) hown5' hs5 hf5 (by simp only [drN]; omega) _ _ _ 0).no0
  · have hx : ((x : Int) == 0) = false := by rw [beq_eq_false_iff_ne]; omega
    have hs1 := hst01.grown.size
    have hl1 := blk_lt hb1
    go_wp2_with fail
    refine (num_new (fun s => 2 ≤ s ∧ s ≤ 7) 7 hst01.rd (by have := hst01.hi; omega) (by omega) (by omega) rfl ?_).mono ?_
    · intro u hu
      have hu' : u = .int .i64 3 ∨ u = .int .i64 2 ∨ u = .int .i64 4 ∨ u = .int .i64 5 ∨ u = .int .i64 6 ∨ u = .int .i64 7 ∨ u = .int .i64 3 := by simpa using hu
      rcases hu' with rfl | rfl | rfl | rfl | rfl | rfl | rfl <;> exact ⟨_, rfl, by omega, by omega⟩
    rintro e w2 ⟨⟨k, rfl, hk0, hk1⟩, hst2⟩
    have hst02 := (hst01.alloc _).trans hst2
    have hb2 := (hb1.alloc _).step hst2 (by omega)
    have hl2 := blk_lt hb2
    have hE := BxE.new w2 k ⟨#[]⟩ (.slice none 0 0) 41
    have hstE := hst02.alloc (.cells #[.int .i64 k, .string ⟨#[]⟩, .slice none 0 0] 41)
    have hbE := hb2.alloc (.cells #[.int .i64 k, .string ⟨#[]⟩, .slice none 0 0] 41)
    have hsE : (w2.alloc (.cells #[.int .i64 k, .string ⟨#[]⟩, .slice none 0 0] 41)).heap.size = w2.heap.size + 1 := by simp
    clear hst2 hst1 hst01 hst02 hb1 hb2 hb0 h0
    by_cases k3 : k = 3
    · subst k3
      go_wp2_with fail
      rw [← hsE]
      refine (num_new (fun s => 0 ≤ s ∧ s ≤ 3) 4 hstE.rd (by have := hstE.hi; omega) (by omega) (by omega) rfl ?_).mono ?_
      · intro u hu
        have hu' : u = .int .i64 2 ∨ u = .int .i64 3 ∨ u = .int .i64 1 ∨ u = .int .i64 0 := by simpa using hu
        rcases hu' with rfl | rfl | rfl | rfl <;> exact ⟨_, rfl, by omega, by omega⟩
      rintro e w3 ⟨⟨m, rfl, hm0, hm1⟩, hst3⟩
      obtain ⟨m, rfl⟩ := Int.eq_ofNat_of_zero_le hm0
      have hmm : m ≤ 4 := by omega
      have hst := (hstE.alloc _).trans hst3
      have hE3 := (hE.alloc _).step hst3 (by omega)
      have hb3 := (hbE.alloc _).step hst3 (by omega)
      clear hst3 hstE hbE hE
      have hEl := blk_lt hE3
      go_wp2_with fail
      go_loopw [7] (fun i wr => DrI w B R a n c p w2.heap.size 3 d m i wr) (fun i _ => m - (intOf i).toNat)
      case atStart => exact ⟨0, _, _, .nil, Nat.zero_le _, rfl, rfl, OwnT.nil _ _, hE3, hb3, trivial, by simp [Fo.size], hst.more (by omega)⟩
      case round =>
        obtain ⟨j, q, v, f, hj, rfl, hfl, hown, hex, hbx, hfit, hsz, hst⟩ := hrel
        obtain ⟨e0, e1, e2, g0, g1, g2, hel⟩ := hex.facts
        by_cases hlt : j < m
        · have hjj : (j : Int) < (m : Int) := by omega
          have hq : j * drQ d ≤ 3 * drQ d := Nat.mul_le_mul_right _ (by omega)
          have hhi := hst.hi
          have hrd := hst.rd
          go_wp2_with fail
          go_region_law (first
            | (go_simp; go_at_call 65; refine Calls.mono (ih q _ (by first | exact hrd | exact hrd.drewN 1) (by omega)) ?_; rintro e w4 ⟨k4, s4, v4, ks4, q4, rfl, hown4, hs4, hf4, hz4, hst4⟩; obtain ⟨a4, d4, rfl, hd4, hm4, hk4⟩ := hown4.form; have hst4' := ((Step.refl hrd).drewN 1).trans hst4; have hown5 := hown.step (by omega) hst4'; have hex5 := hex.step hst4' (by omega); have hbx5 := hbx.step hst4' (by omega); obtain ⟨y0, y1, y2, z0, z1, z2, hl5⟩ := hex5.facts)
            | (refine step_append_node rfl _ _ (by rfl) (w2.heap.size + 1) v f (by rfl) (hown5.alloc _) w4.heap.size 1 (by rfl) k4 s4 ks4 a4 ks4.len d4 _ _ (heap_alloc_new w4 _) hd4 (hk4.alloc (Nat.le_refl _) _) (by show _ ≤ wr.heap.size; omega) (by simp) (fun g hg => .inl (hown.lt g hg).2) (by omega) (by simp; omega) ?_; intro g cap w6 hown6 hgrow6 hlt6 hbg6; have hex6 := (hex5.alloc (.cells #[.int .i64 k4, .string s4, .slice a4 ks4.len d4] 41)).grown hgrow6 (fun e => by have := (hown.lt _ e).1; omega); obtain ⟨x0, x1, x2, v0, v1, v2, hl6⟩ := hex6.facts))
          all_goals go_wp2_with fail
          all_goals
            rw [hfl] at hown6
            exact ⟨⟨j + 1, q4, _, _, by omega, by go_num, by rw [Fo.snoc_len]; omega, hown6.setCell (Nat.lt_succ_self _) 2 _, hex6.set2 _, ((hbx5.alloc _).grown hgrow6 (fun e => by have := (hown.lt _ e).1; omega)).other (by omega) 2 _, Fo.snoc_fits hfit (by unfold maxLen; omega) (by omega) hf4, by rw [Fo.snoc_size, Nat.add_mul]; omega, (((hst.trans hst4').alloc _).grew hgrow6 (fun g' e => by have := (hown.lt _ e).1; constructor <;> omega)).setNew (by omega) _ |>.more (by rw [Nat.add_mul]; omega)⟩, by simp [intOf]; omega⟩
        · have hlo := hst.lo
          have hown' := hown.mono (base' := w.heap.size + 1) (by omega)
          have hz5 : j * (drN d + 1) ≤ 4 * (drN d + 1) := Nat.mul_le_mul_right _ (by omega)
          have hq5 : j * drQ d ≤ 4 * drQ d := Nat.mul_le_mul_right _ (by omega)
          obtain ⟨c0, c1, c2, f0, f1, f2, hl⟩ := hbx.facts
          obtain ⟨av, dv, rfl, hdv, hmv, hkv⟩ := hown.form
          have hjj : ¬ (j : Int) < (m : Int) := by omega
          go_wp2_with fail
          refine bodyPost_ret (v := .agg #[.int .i64 3, .string ⟨#[]⟩, .slice av f.len dv]) (by simp [results, Tryz.results65, go_sem, *]) rfl ?_
          exact (TreePost.fin (hst.more (by simp only [drQ]; omega)) hown' (by decide) hfit (by simp only [drN]; omega) _ _ _ 0).no0
    · have h3 : (k == 3) = false := by rw [beq_eq_false_iff_ne]; exact k3
      by_cases k4 : k = 4
      · subst k4
        have hmm : 4 ≤ 4 := Nat.le_refl _
        have hEl := blk_lt hE
        go_wp2_with fail
        go_loopw [7] (fun i wr => DrI w B R a n c p w2.heap.size 4 d 4 i wr) (fun i _ => 4 - (intOf i).toNat)
        case atStart => exact ⟨0, _, _, .nil, Nat.zero_le _, rfl, rfl, OwnT.nil _ _, hE, hbE, trivial, by simp [Fo.size], hstE.more (by omega)⟩
        case round =>
          obtain ⟨j, q, v, f, hj, rfl, hfl, hown, hex, hbx, hfit, hsz, hst⟩ := hrel
          obtain ⟨e0, e1, e2, g0, g1, g2, hel⟩ := hex.facts
          by_cases hlt : j < 4
          · have hjj : (j : Int) < (4 : Int) := by omega
            have hq : j * drQ d ≤ 3 * drQ d := Nat.mul_le_mul_right _ (by omega)
            have hhi := hst.hi
            have hrd := hst.rd
            go_wp2_with fail
            go_region_law (first
              | (go_simp; go_at_call 65; refine Calls.mono (ih q _ (by first | exact hrd | exact hrd.drewN 1) (by omega)) ?_; rintro e w4 ⟨k4, s4, v4, ks4, q4, rfl, hown4, hs4, hf4, hz4, hst4⟩; obtain ⟨a4, d4, rfl, hd4, hm4, hk4⟩ := hown4.form; have hst4' := ((Step.refl hrd).drewN 1).trans hst4; have hown5 := hown.step (by omega) hst4'; have hex5 := hex.step hst4' (by omega); have hbx5 := hbx.step hst4' (by omega); obtain ⟨y0, y1, y2, z0, z1, z2, hl5⟩ := hex5.facts)
              | (refine step_append_node rfl _ _ (by rfl) (w2.heap.size + 1) v f (by rfl) (hown5.alloc _) w4.heap.size 1 (by rfl) k4 s4 ks4 a4 ks4.len d4 _ _ (heap_alloc_new w4 _) hd4 (hk4.alloc (Nat.le_refl _) _) (by show _ ≤ wr.heap.size; omega) (by simp) (fun g hg => .inl (hown.lt g hg).2) (by omega) (by simp; omega) ?_; intro g cap w6 hown6 hgrow6 hlt6 hbg6; have hex6 := (hex5.alloc (.cells #[.int .i64 k4, .string s4, .slice a4 ks4.len d4] 41)).grown hgrow6 (fun e => by have := (hown.lt _ e).1; omega); obtain ⟨x0, x1, x2, v0, v1, v2, hl6⟩ := hex6.facts))
            all_goals go_wp2_with fail
            all_goals
              rw [hfl] at hown6
              exact ⟨⟨j + 1, q4, _, _, by omega, by go_num, by rw [Fo.snoc_len]; omega, hown6.setCell (Nat.lt_succ_self _) 2 _, hex6.set2 _, ((hbx5.alloc _).grown hgrow6 (fun e => by have := (hown.lt _ e).1; omega)).other (by omega) 2 _, Fo.snoc_fits hfit (by unfold maxLen; omega) (by omega) hf4, by rw [Fo.snoc_size, Nat.add_mul]; omega, (((hst.trans hst4').alloc _).grew hgrow6 (fun g' e => by have := (hown.lt _ e).1; constructor <;> omega)).setNew (by omega) _ |>.more (by rw [Nat.add_mul]; omega)⟩, by simp [intOf]; omega⟩
          · have hlo := hst.lo
            have hown' := hown.mono (base' := w.heap.size + 1) (by omega)
            have hz5 : j * (drN d + 1) ≤ 4 * (drN d + 1) := Nat.mul_le_mul_right _ (by omega)
            have hq5 : j * drQ d ≤ 4 * drQ d := Nat.mul_le_mul_right _ (by omega)
            obtain ⟨c0, c1, c2, f0, f1, f2, hl⟩ := hbx.facts
            obtain ⟨av, dv, rfl, hdv, hmv, hkv⟩ := hown.form
            have hjj : ¬ (j : Int) < (4 : Int) := by omega
            go_wp2_with fail
            refine bodyPost_ret (v := .agg #[.int .i64 4, .string ⟨#[]⟩, .slice av f.len dv]) (by simp [results, Tryz.results65, go_sem, *]) rfl ?_
            exact (TreePost.fin (hst.more (by simp only [drQ]; omega)) hown' (by decide) hfit (by simp only [drN]; omega) _ _ _ 0).no0
      · have h4 : (k == 4) = false := by rw [beq_eq_false_iff_ne]; exact k4
        by_cases k2 : k = 2
        · subst k2
          go_wp2_with fail
          refine (pick_step (m := 3) hstE.rd (by have := hstE.hi; omega) (by omega)).mono ?_
          rintro e w3 ⟨⟨z, rfl, _, _⟩, hst3⟩
          have hst := hstE.trans hst3
          have hE3 := hE.step hst3 (by omega)
          have hb3 := hbE.step hst3 (by omega)
          clear hst3 hstE hbE hE
          by_cases hz : 0 < (z : Int)
          · go_wp2_with fail
            refine (named_any hst.rd (by have := hst.hi; omega)).mono ?_
            rintro e w5 ⟨k5, s5, v5, ks5, q5, rfl, hown5, hs5, hf5, hz5, hst5⟩
            have hst05 := hst.trans hst5
            obtain ⟨c0, c1, c2, f0, f1, f2, hl⟩ := (hb3.step hst5 (by omega)).facts
            have hown5' := hown5.mono (base' := w.heap.size + 1) (by have := hst.grown.size; have := blk_lt hb3; omega)
            obtain ⟨a5, d5, rfl, hd5, hm5, _⟩ := hown5.form
            go_wp2_with fail
            refine bodyPost_ret (v := .agg #[.int .i64 k5, .string s5, .slice a5 ks5.len d5]) (by simp [results, Tryz.results65, go_sem, *]) rfl ?_
            exact (TreePost.fin (hst05.more (by simp only [drQ]; omega)) hown5' hs5 hf5 (by simp only [drN]; omega) _ _ _ 0).no0
          · obtain rfl : z = 0 := by omega
            have hmm : 1 ≤ 4 := by omega
            have hEl := blk_lt hE3
            go_wp2_with fail
            go_loopw [7] (fun i wr => DrI w B R a n c p w2.heap.size 2 d 1 i wr) (fun i _ => 1 - (intOf i).toNat)
            case atStart => exact ⟨0, _, _, .nil, Nat.zero_le _, rfl, rfl, OwnT.nil _ _, hE3, hb3, trivial, by simp [Fo.size], hst.more (by omega)⟩
            case round =>
              obtain ⟨j, q, v, f, hj, rfl, hfl, hown, hex, hbx, hfit, hsz, hst⟩ := hrel
              obtain ⟨e0, e1, e2, g0, g1, g2, hel⟩ := hex.facts
              by_cases hlt : j < 1
              · have hjj : (j : Int) < (1 : Int) := by omega
                have hq : j * drQ d ≤ 3 * drQ d := Nat.mul_le_mul_right _ (by omega)
                have hhi := hst.hi
                have hrd := hst.rd
                go_wp2_with fail
                go_region_law (first
                  | (go_simp; go_at_call 65; refine Calls.mono (ih q _ (by first | exact hrd | exact hrd.drewN 1) (by omega)) ?_; rintro e w4 ⟨k4, s4, v4, ks4, q4, rfl, hown4, hs4, hf4, hz4, hst4⟩; obtain ⟨a4, d4, rfl, hd4, hm4, hk4⟩ := hown4.form; have hst4' := ((Step.refl hrd).drewN 1).trans hst4; have hown5 := hown.step (by omega) hst4'; have hex5 := hex.step hst4' (by omega); have hbx5 := hbx.step hst4' (by omega); obtain ⟨y0, y1, y2, z0, z1, z2, hl5⟩ := hex5.facts)
                  | (refine step_append_node rfl _ _ (by rfl) (w2.heap.size + 1) v f (by rfl) (hown5.alloc _) w4.heap.size 1 (by rfl) k4 s4 ks4 a4 ks4.len d4 _ _ (heap_alloc_new w4 _) hd4 (hk4.alloc (Nat.le_refl _) _) (by show _ ≤ wr.heap.size; omega) (by simp) (fun g hg => .inl (hown.lt g hg).2) (by omega) (by simp; omega) ?_; intro g cap w6 hown6 hgrow6 hlt6 hbg6; have hex6 := (hex5.alloc (.cells #[.int .i64 k4, .string s4, .slice a4 ks4.len d4] 41)).grown hgrow6 (fun e => by have := (hown.lt _ e).1; omega); obtain ⟨x0, x1, x2, v0, v1, v2, hl6⟩ := hex6.facts))
                all_goals go_wp2_with fail
                all_goals
                  rw [hfl] at hown6
                  exact ⟨⟨j + 1, q4, _, _, by omega, by go_num, by rw [Fo.snoc_len]; omega, hown6.setCell (Nat.lt_succ_self _) 2 _, hex6.set2 _, ((hbx5.alloc _).grown hgrow6 (fun e => by have := (hown.lt _ e).1; omega)).other (by omega) 2 _, Fo.snoc_fits hfit (by unfold maxLen; omega) (by omega) hf4, by rw [Fo.snoc_size, Nat.add_mul]; omega, (((hst.trans hst4').alloc _).grew hgrow6 (fun g' e => by have := (hown.lt _ e).1; constructor <;> omega)).setNew (by omega) _ |>.more (by rw [Nat.add_mul]; omega)⟩, by simp [intOf]; omega⟩
              · have hlo := hst.lo
                have hown' := hown.mono (base' := w.heap.size + 1) (by omega)
                have hz5 : j * (drN d + 1) ≤ 4 * (drN d + 1) := Nat.mul_le_mul_right _ (by omega)
                have hq5 : j * drQ d ≤ 4 * drQ d := Nat.mul_le_mul_right _ (by omega)
                obtain ⟨c0, c1, c2, f0, f1, f2, hl⟩ := hbx.facts
                obtain ⟨av, dv, rfl, hdv, hmv, hkv⟩ := hown.form
                have hjj : ¬ (j : Int) < (1 : Int) := by omega
                go_wp2_with fail
                refine bodyPost_ret (v := .agg #[.int .i64 2, .string ⟨#[]⟩, .slice av f.len dv]) (by simp [results, Tryz.results65, go_sem, *]) rfl ?_
                exact (TreePost.fin (hst.more (by simp only [drQ]; omega)) hown' (by decide) hfit (by simp only [drN]; omega) _ _ _ 0).no0
        · have h2 : (k == 2) = false := by rw [beq_eq_false_iff_ne]; exact k2
          have hmm : 1 ≤ 4 := by omega
          have hEl := blk_lt hE
          go_wp2_with fail
          go_loopw [7] (fun i wr => DrI w B R a n c p w2.heap.size k d 1 i wr) (fun i _ => 1 - (intOf i).toNat)
          case atStart => exact ⟨0, _, _, .nil, Nat.zero_le _, rfl, rfl, OwnT.nil _ _, hE, hbE, trivial, by simp [Fo.size], hstE.more (by omega)⟩
          case round =>
            obtain ⟨j, q, v, f, hj, rfl, hfl, hown, hex, hbx, hfit, hsz, hst⟩ := hrel
            obtain ⟨e0, e1, e2, g0, g1, g2, hel⟩ := hex.facts
            by_cases hlt : j < 1
            · have hjj : (j : Int) < (1 : Int) := by omega
              have hq : j * drQ d ≤ 3 * drQ d := Nat.mul_le_mul_right _ (by omega)
              have hhi := hst.hi
              have hrd := hst.rd
              go_wp2_with fail
              go_region_law (first
                | (go_simp; go_at_call 65; refine Calls.mono (ih q _ (by first | exact hrd | exact hrd.drewN 1) (by omega)) ?_; rintro e w4 ⟨k4, s4, v4, ks4, q4, rfl, hown4, hs4, hf4, hz4, hst4⟩; obtain ⟨a4, d4, rfl, hd4, hm4, hk4⟩ := hown4.form; have hst4' := ((Step.refl hrd).drewN 1).trans hst4; have hown5 := hown.step (by omega) hst4'; have hex5 := hex.step hst4' (by omega); have hbx5 := hbx.step hst4' (by omega); obtain ⟨y0, y1, y2, z0, z1, z2, hl5⟩ := hex5.facts)
                | (refine step_append_node rfl _ _ (by rfl) (w2.heap.size + 1) v f (by rfl) (hown5.alloc _) w4.heap.size 1 (by rfl) k4 s4 ks4 a4 ks4.len d4 _ _ (heap_alloc_new w4 _) hd4 (hk4.alloc (Nat.le_refl _) _) (by show _ ≤ wr.heap.size; omega) (by simp) (fun g hg => .inl (hown.lt g hg).2) (by omega) (by simp; omega) ?_; intro g cap w6 hown6 hgrow6 hlt6 hbg6; have hex6 := (hex5.alloc (.cells #[.int .i64 k4, .string s4, .slice a4 ks4.len d4] 41)).grown hgrow6 (fun e => by have := (hown.lt _ e).1; omega); obtain ⟨x0, x1, x2, v0, v1, v2, hl6⟩ := hex6.facts))
              all_goals go_wp2_with fail
              all_goals
                rw [hfl] at hown6
                exact ⟨⟨j + 1, q4, _, _, by omega, by go_num, by rw [Fo.snoc_len]; omega, hown6.setCell (Nat.lt_succ_self _) 2 _, hex6.set2 _, ((hbx5.alloc _).grown hgrow6 (fun e => by have := (hown.lt _ e).1; omega)).other (by omega) 2 _, Fo.snoc_fits hfit (by unfold maxLen; omega) (by omega) hf4, by rw [Fo.snoc_size, Nat.add_mul]; omega, (((hst.trans hst4').alloc _).grew hgrow6 (fun g' e => by have := (hown.lt _ e).1; constructor <;> omega)).setNew (by omega) _ |>.more (by rw [Nat.add_mul]; omega)⟩, by simp [intOf]; omega⟩
            · have hlo := hst.lo
              have hown' := hown.mono (base' := w.heap.size + 1) (by omega)
              have hz5 : j * (drN d + 1) ≤ 4 * (drN d + 1) := Nat.mul_le_mul_right _ (by omega)
              have hq5 : j * drQ d ≤ 4 * drQ d := Nat.mul_le_mul_right _ (by omega)
              obtain ⟨c0, c1, c2, f0, f1, f2, hl⟩ := hbx.facts
              obtain ⟨av, dv, rfl, hdv, hmv, hkv⟩ := hown.form
              have hjj : ¬ (j : Int) < (1 : Int) := by omega
              go_wp2_with fail
              refine bodyPost_ret (v := .agg #[.int .i64 k, .string ⟨#[]⟩, .slice av f.len dv]) (by simp [results, Tryz.results65, go_sem, *]) rfl ?_
              exact (TreePost.fin (hst.more (by simp only [drQ]; omega)) hown' (by decide) hfit (by simp only [drN]; omega) _ _ _ 0).no0

theorem TreePost.more {m m' B R n c p l l' : Nat} {a : Option Addr} {w w' : World} {e : Ending} (h : TreePost m w B R a n c p l e w') (hm : m ≤ m') (hl : l ≤ l') : TreePost m' w B R a n c p l' e w' := by
  obtain ⟨k, s, v, ks, q, h1, h2, h3, h4, h5, h6⟩ := h
  exact ⟨k, s, v, ks, q, h1, h2, h3, h4, by omega, h6.more hl⟩
theorem draw_all {n c B R : Nat} {a : Option Addr} (d : Nat) : d ≤ 7 → ∀ (p : Nat) (w : World), Rd w B R a n c p → p + drQ d ≤ 1000000000 → Calls Tryz.prog 65 #[.pointer (some ⟨R, 0, none⟩), .int .i64 d] w (TreePost (drN d) w B R a n c p (drQ d)) := by
  induction d with
  | zero => exact fun _ p w h hp => draw_leaf 0 (by omega) h hp
  | succ d ih =>
    intro hd p w h hp
    by_cases h1 : 1 ≤ d
    · exact draw_node d h1 (by omega) h hp (ih (by omega))
    · obtain rfl : d = 0 := by omega
      exact (draw_leaf 1 (by omega) h (by simp only [drQ] at hp; omega)).mono fun _ _ h => h.more (by simp [drN]) (by simp [drQ])
end Go.Proofs.YtahdpocaldhamaaGreat
