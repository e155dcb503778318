/-
  The drawing functions l2Expr, l2Copy and l2Mutate.
-/
import Derived.Test.YtceiafncpimihaaGreatGone
import Derived.Test.YtceiafncpimihaaGreatQTreeC
namespace Go.Proofs.YtceiafncpimihaaGreat
set_option linter.unusedVariables false
set_option linter.unusedSimpArgs false
open Go.RowKit

theorem drQ_le {d : Nat} (h1 : 1 ≤ d) (h4 : d ≤ 4) : drQ d ≤ 1364 ∧ drN d ≤ 852 := by
  have : d = 1 ∨ d = 2 ∨ d = 3 ∨ d = 4 := by omega
  rcases this with rfl | rfl | rfl | rfl <;> decide
theorem TreePost.finG {m B R n c p q l g : Nat} {a : Option Addr} {w w1 : World} {k : Int} {s : ByteArray} {v : Value} {ks : Fo} (hg : w.heap.size ≤ g) (hst : Step w w1 B R a n c p q l) (hown : OwnT w1 (g + 1) v ks) (hs : s.size ≤ 100) (hf : ks.Fits) (hm : ks.size ≤ m) (u0 u1 u2 : Value) :
    TreePost m w B R a n c p l (.returned (.agg #[.int .i64 k, .string s, v])) (((w1.setCell ⟨g, 0, none⟩ u0).setCell ⟨g, 1, none⟩ u1).setCell ⟨g, 2, none⟩ u2) :=
  ⟨k, s, v, ks, q, rfl, OwnT.mono (((hown.setCell (Nat.lt_succ_self _) 0 u0).setCell (Nat.lt_succ_self _) 1 u1).setCell (Nat.lt_succ_self _) 2 u2) (by omega), hs, hf, hm, ((hst.setNew hg u0).setNew hg u1).setNew hg u2⟩
/-- a list of expressions of one's own whose operands lie below D -/
def OwnTB (w : World) (base D : Nat) (v : Value) (f : Fo) : Prop := ∃ xs, w.ownsRow base 43 3 v f.len xs ∧ RowT w base D v.ownBlock f xs
theorem OwnT.bound {w : World} {base : Nat} {v : Value} {f : Fo} (h : OwnT w base v f) : OwnTB w base w.heap.size v f := h
theorem OwnTB.own {w : World} {base D : Nat} {v : Value} {f : Fo} (h : OwnTB w base D v f) (hD : D ≤ w.heap.size) : OwnT w base v f := by
  obtain ⟨xs, h1, h2⟩ := h
  exact ⟨xs, h1, rowT_keep (Nat.le_refl _) hD (fun g hg => .inl hg) (fun _ _ _ _ => rfl) h2⟩
theorem OwnTB.grown {w w' : World} {base D : Nat} {v : Value} {f : Fo} {r : Option Nat} (h : OwnTB w base D v f) (hD : D ≤ w.heap.size) (hg : w.grownBy w' r) (hr : ∀ g, r = some g → g < base ∨ D ≤ g) (hr2 : ∀ g, r = some g → v.ownBlock ≠ some g) : OwnTB w' base D v f := by
  obtain ⟨xs, h1, h2⟩ := h
  refine ⟨xs, World.ownsRow.kept h1 hg ?_, rowT_keep (Nat.le_refl _) (Nat.le_refl _) (fun g hg => .inl hg) (fun p h3 h4 _ => hg.block p (by omega) (fun e => by have := hr _ e.symm; omega)) h2⟩
  cases hv : v.ownBlock with
  | none => exact .inl rfl
  | some g => exact .inr fun e => hr2 g e.symm hv
theorem step_append_lit {w : World} {ops : Array Oper} {o : Oper} {a : Act} {K : Act → World → Prop} {Q : Exit → Act → World → Prop} {E : Prop} (hgd : o.guard = none) (s x : Operand)
    (ho : o.op = .call { callee := .builtin .append, args := #[s, x], argTypes := #[41, 41] })
    (base D : Nat) (v : Value) (f : Fo) (hs : a.eval s = v) (hown : OwnTB w base D v f) (hbD : base ≤ D) (hD : D ≤ w.heap.size) (g c1 : Nat) (hx : a.eval x = .slice (some ⟨g, 0, none⟩) 1 c1)
    (k : Int) (t : ByteArray) {T : TypeId} (hbx : w.heap[g]? = some (.cells #[.int .i64 k, .string t, .slice none 0 0] T (0, 0)))
    (h63 : f.len ≤ 1000000000)
    (h : ∀ g cap w', OwnTB w' base D (.slice (some ⟨g, 0, none⟩) (f.len + 1) cap) (f.snoc k t .nil) → w.grownBy w' v.ownBlock → g < w'.heap.size → base ≤ g → (v.ownBlock = some g ∨ w.heap.size ≤ g) → K (a.put o.dst (.slice (some ⟨g, 0, none⟩) (f.len + 1) cap)) w') :
    if Region.wanted o (yielded ops a.tmps) = true then Oper.wp Tryz.prog o a w K Q else E := by
  have hw : Region.wanted o (yielded ops a.tmps) = true := by simp [Region.wanted, hgd]
  rw [if_pos hw]
  obtain ⟨i, hi, hz0, hz1, hz2⟩ := info_parts expr_info3
  obtain ⟨xs, h1, h2⟩ := hown
  refine wp_append_at s x 41 ho base 43 i _ 3 48 exprs_under hi hz0 hz1 hz2 rfl (by decide) v f.len xs hs h1 ⟨g, 0, none⟩ 1 c1 [.int .i64 k, .string t, .slice none 0 0] hx rfl ?_ (by simp [Value.oneCell']) (by simp only [maxLen]; omega) (by omega) (by omega) fun v' w' h3 h4 h5 => ?_
  · intro j u hu
    rw [add_none, cell_of_row _ _ _ _ _ _ hbx]
    simpa using hu
  · obtain ⟨g', cap', rfl, h7, h8⟩ := World.ownsRow.form h3 (by omega)
    have h6 := rowT_snoc (k := k) (s := t) (Nat.le_refl 0) (KP.nil (w := w) (L := base) (B := base) (a := none)) (Nat.le_refl _) hbD (fun g hg => by have := (World.ownsRow.lt h1 g hg).1; exact .inr this) h2
    refine h g' cap' w' ⟨_, by rw [Fo.snoc_len]; exact h3, rowT_keep (Nat.le_refl _) (Nat.le_refl _) (fun g hg => ?_) (fun p h9 h10 h11 => h4.block p (by omega) (fun e => h11 e.symm)) h6⟩ h4 h8 h7 ?_
    · rcases h5 with h5 | h5
      · exact .inl (h5 ▸ hg)
      · exact .inr (.inr (Nat.le_trans hD (h5 g hg)))
    · rcases h5 with h5 | h5
      · exact .inl (h5.symm.trans rfl)
      · exact .inr (h5 g' rfl)
set_option maxHeartbeats 1000000 in
theorem expr_any {n c p B R : Nat} {a : Option Addr} {w : World} (h : Rd w B R a n c p) (hp : p ≤ 900000000) :
    Calls Tryz.prog 47 #[.pointer (some ⟨R, 0, none⟩)] w (TreePost 1000 w B R a n c p 10000) := by
  have hR := h.lt
  have h0 := (Step.refl h).alloc (.cells #[.int .i64 0, .string .empty, .slice none 0 0] 43)
  have hb0 := BxE.new w 0 .empty (.slice none 0 0) 43
  have hs0 : (w.alloc (.cells #[.int .i64 0, .string .empty, .slice none 0 0] 43)).heap.size = w.heap.size + 1 := by simp
  go_enter Tryz.func47, Tryz.ntmps47
  go_wp2_with fail
  rw [← hs0]
  refine (num_new (fun s => 1 ≤ s ∧ s ≤ 4) 5 h0.rd (by omega) (by omega) (by omega) rfl ?_).mono ?_
  · intro u hu
    have hu' : u = .int .i64 3 ∨ u = .int .i64 2 ∨ u = .int .i64 3 ∨ u = .int .i64 4 ∨ u = .int .i64 1 := by simpa using hu
    rcases hu' with rfl | rfl | rfl | rfl | rfl <;> exact ⟨_, rfl, by omega, by omega⟩
  rintro e w2 ⟨⟨d, rfl, hd0, hd1⟩, hst2⟩
  obtain ⟨d, rfl⟩ := Int.eq_ofNat_of_zero_le (show 0 ≤ d by omega)
  obtain ⟨hdq, hdn⟩ := drQ_le (d := d) (by omega) (by omega)
  have hst02 := (h0.alloc _).trans hst2
  have hb2 := (hb0.alloc _).step hst2 (by omega)
  go_wp2_with fail
  refine (draw_all d (by omega) _ _ hst2.rd (by omega)).mono ?_
  rintro e w3 ⟨k, s, v, ks, q3, rfl, hown3, hs3, hf3, hz3, hst3⟩
  have hl2 := blk_lt hb2
  have hst03 := hst02.trans hst3
  have hl3 := hst3.grown.size
  have hown3' := hown3.mono (base' := w.heap.size + 1) (by omega)
  obtain ⟨a3, d3, rfl, hd3, hm3, hk3⟩ := hown3.form
  have hb3 := (hb2.step hst3 (by omega)).alloc (.cells #[.int .i64 k, .string s, .slice a3 ks.len d3] 43)
  have hE := BxE.new w3 k s (.slice a3 ks.len d3) 43
  have hsl := Fo.size_len ks
  go_wp2_with fail
  refine (validSE_any k s ks a3 ks.len d3 _ ((hk3.alloc (Nat.le_refl _) _).more (Nat.zero_le _) (by simp)).1 (by unfold maxLen; omega) hf3 (by unfold maxLen; omega) (by omega)).mono ?_
  rintro e w4 ⟨rfl, hB4⟩
  have hb4 := hb3.next hB4
  have hE4 := hE.next hB4
  have hst4 := (hst03.alloc (.cells #[.int .i64 k, .string s, .slice a3 ks.len d3] 43)).below hB4
  have hown4 := (hown3'.alloc (.cells #[.int .i64 k, .string s, .slice a3 ks.len d3] 43)).below hB4
  rcases Bool.eq_false_or_eq_true (validE k s ks) with hv | hv
  · rw [hv]
    obtain ⟨c0, c1, c2, f0, f1, f2, hl⟩ := hb4.facts
    obtain ⟨e0, e1, e2, g0, g1, g2, hel⟩ := hE4.facts
    go_wp2_with fail
    refine bodyPost_ret (v := .agg #[.int .i64 k, .string s, .slice a3 ks.len d3]) (by simp [results, Tryz.results47, go_sem, *]) rfl ?_
    exact (TreePost.fin (hst4.more (by omega)) hown4 hs3 hf3 (by omega) _ _ _ 0).no0
  · rw [hv]
    go_wp2_with fail
    refine (named_any hst4.rd (by have := hst4.hi; omega)).mono ?_
    rintro e w5 ⟨k5, s5, v5, ks5, q5, rfl, hown5, hs5, hf5, hz5, hst5⟩
    have hst05 := hst4.trans hst5
    obtain ⟨c0, c1, c2, f0, f1, f2, hl⟩ := (hb4.step hst5 (by omega)).facts
    have hown5' := hown5.mono (base' := w.heap.size + 1) (by have := hst4.grown.size; have := blk_lt hb4; omega)
    obtain ⟨a5, d5, rfl, hd5, hm5, _⟩ := hown5.form
    go_wp2_with fail
    refine bodyPost_ret (v := .agg #[.int .i64 k5, .string s5, .slice a5 ks5.len d5]) (by simp [results, Tryz.results47, go_sem, *]) rfl ?_
    exact (TreePost.fin (hst05.more (by omega)) hown5' hs5 hf5 (by omega) _ _ _ 0).no0

set_option maxRecDepth 100000 in
set_option maxHeartbeats 4000000 in
theorem mut_gen (m : Nat) (hm : m ≤ 10001) {n c p B R : Nat} {a : Option Addr} {w : World} (h : Rd w B R a n c p) (hp : p ≤ 900000000) (k : Int) (s : ByteArray) (ks : Fo) (a1 : Option Addr) (n1 c1 : Nat) (hk : KA w 0 w.heap.size ks a1 n1) (hnc : n1 ≤ c1) (hs : s.size ≤ 100) (hf : ks.Fits) (hz : ks.size ≤ m) :
    Calls Tryz.prog 46 #[.pointer (some ⟨R, 0, none⟩), .agg #[.int .i64 k, .string s, .slice a1 n1 c1]] w (TreePost (m + 1) w B R a n c p 2) := by
  have hR := h.lt
  have h0 := ((Step.refl h).alloc (.cells #[.int .i64 k, .string s, .slice a1 n1 c1] 43)).alloc (.cells #[.int .i64 0, .string .empty, .slice none 0 0] 43)
  have hb0 := BxE.new (w.alloc (.cells #[.int .i64 k, .string s, .slice a1 n1 c1] 43)) 0 .empty (.slice none 0 0) 43
  have hcp := copy_all m (by omega) k s ks hz a1 n1 c1 _ (((hk.alloc (Nat.le_refl _) (.cells #[.int .i64 k, .string s, .slice a1 n1 c1] 43)).alloc (by simp) (.cells #[.int .i64 0, .string .empty, .slice none 0 0] 43)).more (Nat.le_refl _) (by simp; omega)) hnc
  simp only [World.size_alloc] at hb0
  have Hcp := Lib.hid hcp
  clear hcp hk
  go_enter Tryz.func46, Tryz.ntmps46
  go_wp2_with fail
  refine Hcp.out.mono ?_
  rintro e w1 ⟨v1, rfl, hown1, hB1⟩
  have hst1 := h0.below hB1
  have hb1 := hb0.next hB1
  have hl1 := blk_lt hb1
  have hown1' := hown1.mono (base' := w.heap.size + 1 + 1) (by simp)
  obtain ⟨av, dv, rfl, hdv, hmv, hkv⟩ := hown1'.form
  have hE := BxE.new w1 k s (.slice av ks.len dv) 43
  have hb2 := hb1.alloc (.cells #[.int .i64 k, .string s, .slice av ks.len dv] 43)
  have hq2 := (Step.refl hst1.rd).alloc (.cells #[.int .i64 k, .string s, .slice av ks.len dv] 43)
  have Hown := Lib.hid hown1'
  have hhi1 := hst1.hi
  clear Hcp hB1 hown1 hb1 hown1' h0 hb0
  go_wp2_with fail
  refine (pick_step (m := 40) hq2.rd (by omega) (by omega)).mono ?_
  rintro e w3 ⟨⟨y, rfl, _, _⟩, hst3⟩
  have hq3 := hq2.trans hst3
  have hb3 := hb2.step hst3 (by omega)
  have hE3 := hE.step hst3 (by omega)
  have hl3 := hst3.grown.size
  simp only [World.size_alloc] at hl3
  have hhi := hq3.hi
  clear hst3 hb2 hE hq2
  obtain ⟨c0, c1, c2, f0, f1, f2, hl⟩ := hb3.facts
  obtain ⟨e0, e1, e2, g0, g1, g2, hel⟩ := hE3.facts
  have Hst1 := Lib.hid hst1
  clear hst1
  by_cases y0 : y = 0
  · subst y0
    go_wp2_with fail
    refine (num_new (fun s => True) 5 hq3.rd (by omega) (by omega) (by omega) rfl ?_).mono ?_
    · intro u hu
      have hu' : u = .int .i64 0 ∨ u = .int .i64 8 ∨ u = .int .i64 1 ∨ u = .int .i64 3 ∨ u = .int .i64 4 := by simpa using hu
      rcases hu' with rfl | rfl | rfl | rfl | rfl <;> exact ⟨_, rfl, trivial⟩
    rintro e w4 ⟨⟨z, rfl, _⟩, hst4⟩
    have hq4 := (hq3.alloc _).trans hst4
    have hb4 := (hb3.alloc _).step hst4 (by omega)
    have hE4 := (hE3.alloc _).step hst4 (by omega)
    obtain ⟨c0, c1, c2, f0, f1, f2, hl⟩ := hb4.facts
    obtain ⟨e0, e1, e2, g0, g1, g2, hel⟩ := hE4.facts
    clear hst4 hq3 hb3 hE3
    go_wp2_with fail
    refine bodyPost_ret (v := .agg #[.int .i64 z, .string s, .slice av ks.len dv]) (by simp [results, Tryz.results46, go_sem, *]) rfl ?_
    exact TreePost.finG (by omega) ((Hst1.out.trans (hq4.setNew (Nat.le_refl _) _)).more (by omega)) (Hown.out.step (by omega) (hq4.setNew (Nat.le_refl _) _)) hs hf (by omega) _ _ _
  · have hy0 : ((y : Int) == 0) = false := by rw [beq_eq_false_iff_ne]; omega
    by_cases y1 : y = 1
    · subst y1
      go_wp2_with fail
      refine (of_new (fun s => s.size ≤ 100) 3 hq3.rd (by omega) (by omega) (by omega) rfl ?_).mono ?_
      · simp; decide
      rintro e w4 ⟨⟨z, rfl, hzs⟩, hst4⟩
      have hq4 := (hq3.alloc _).trans hst4
      have hb4 := (hb3.alloc _).step hst4 (by omega)
      have hE4 := (hE3.alloc _).step hst4 (by omega)
      obtain ⟨c0, c1, c2, f0, f1, f2, hl⟩ := hb4.facts
      obtain ⟨e0, e1, e2, g0, g1, g2, hel⟩ := hE4.facts
      clear hst4 hq3 hb3 hE3
      go_wp2_with fail
      refine bodyPost_ret (v := .agg #[.int .i64 k, .string z, .slice av ks.len dv]) (by simp [results, Tryz.results46, go_sem, *]) rfl ?_
      exact TreePost.finG (by omega) ((Hst1.out.trans (hq4.setNew (Nat.le_refl _) _)).more (by omega)) (Hown.out.step (by omega) (hq4.setNew (Nat.le_refl _) _)) hzs hf (by omega) _ _ _
    · have hy1 : ((y : Int) == 1) = false := by rw [beq_eq_false_iff_ne]; omega
      by_cases y2 : y = 2
      · subst y2
        have hown3 := Hown.out.step (by omega) hq3
        have hownB : OwnTB w3 (w.heap.size + 1 + 1) w1.heap.size (.slice av ks.len dv) ks := Hown.out.bound.grown (Nat.le_refl _) hq3.grown (fun g e => by injection e with e; omega) (fun g e e2 => by injection e with e; have := (Hown.out.lt _ e2).1; omega)
        have hol := Hown.out.lt
        have hsl := Fo.size_len ks
        go_wp2_with fail
        go_region_law (first
          | (go_simp; go_at_call 73; refine Calls.mono (lit_any _ _) ?_; rintro e w4 ⟨rfl, hB4⟩; have hB4' : Below w3.heap.size w3 w4 := ((Below.refl w3.heap.size w3).drew).trans hB4; have hex5 := hE3.next hB4'; have hbx5 := hb3.next hB4'; have hq5 := hq3.below hB4'; have hown5 := hownB.grown (by omega) (grown_below (World.grownBy.refl w3 none) hB4') (fun g e => by cases e) (fun g e => by cases e); obtain ⟨y0, y1, y2, z0, z1, z2, hl5⟩ := hex5.facts)
          | (refine step_append_lit rfl _ _ (by rfl) (w.heap.size + 1 + 1) w1.heap.size (.slice av ks.len dv) ks (by rfl) (hown5.grown (by omega) (World.grownBy_alloc w4 _ none) (fun g e => by cases e) (fun g e => by cases e)) (by omega) (by simp; omega) w4.heap.size 1 (by rfl) 1 ⟨#[122]⟩ (heap_alloc_new w4 _) (by omega) ?_; intro g cap w6 hown6 hgrow6 hlt6 hbg6 hg6; have hex6 := (hex5.alloc (.cells #[.int .i64 1, .string ⟨#[122]⟩, .slice none 0 0] 43)).grown hgrow6 (fun e => by have := (hol _ e).2; omega); have hbx6 := (hbx5.alloc (.cells #[.int .i64 1, .string ⟨#[122]⟩, .slice none 0 0] 43)).grown hgrow6 (fun e => by have := (hol _ e).1; omega); obtain ⟨x0, x1, x2, v0, v1, v2, hl6⟩ := hex6.facts; obtain ⟨b0, b1, b2, bf0, bf1, bf2, hbl⟩ := hbx6.facts))
        all_goals go_wp2_with fail
        all_goals
          refine bodyPost_ret (v := .agg #[.int .i64 k, .string s, .slice (some ⟨g, 0, none⟩) (ks.len + 1) cap]) (by simp [results, Tryz.results46, go_sem, *]) rfl ?_
          have hgE : g ≠ w1.heap.size := by
            rcases hg6 with h6 | h6
            · have := (hol _ h6).2; omega
            · simp only [World.size_alloc] at h6; omega
          have hset := hown6.grown (r := some w1.heap.size) (by omega) (grown_set (p := ⟨w1.heap.size, 2, none⟩) (World.grownBy.refl w6 _) (.inl rfl) (.slice (some ⟨g, 0, none⟩) (ks.len + 1) cap)) (fun g' e => by injection e with e; omega) (fun g' e e2 => by injection e with e; simp [Value.ownBlock] at e2; omega)
          exact TreePost.finG (by omega) (((((Hst1.out.trans hq5).alloc _).grew hgrow6 (fun g' e => by have := (hol _ e).1; constructor <;> omega)).setNew (by omega) _).more (by omega)) (hset.own (by simp [World.setCell]; omega)) hs (Fo.snoc_fits hf (by decide) (by decide) trivial) (by rw [Fo.snoc_size]; simp only [Fo.size]; omega) _ _ _
      · have hy2 : ((y : Int) == 2) = false := by rw [beq_eq_false_iff_ne]; omega
        by_cases y3 : y = 3
        · subst y3
          go_wp2_with fail
          refine bodyPost_ret (v := .agg #[.int .i64 0, .string ⟨#[]⟩, .slice none 0 0]) (by simp [results, Tryz.results46, go_sem, *]) rfl ?_
          exact TreePost.finG (by omega) ((Hst1.out.trans hq3).more (by omega)) (OwnT.nil _ _) (by decide) trivial (by simp [Fo.size]) _ _ _
        · have hy3 : ((y : Int) == 3) = false := by rw [beq_eq_false_iff_ne]; omega
          go_wp2_with fail
          refine bodyPost_ret (v := .agg #[.int .i64 k, .string s, .slice av ks.len dv]) (by simp [results, Tryz.results46, go_sem, *]) rfl ?_
          exact TreePost.finG (by omega) ((Hst1.out.trans hq3).more (by omega)) (Hown.out.step (by omega) hq3) hs hf (by omega) _ _ _
theorem mut_any {n c p B R : Nat} {a : Option Addr} {w : World} (h : Rd w B R a n c p) (hp : p ≤ 900000000) (k : Int) (s : ByteArray) (ks : Fo) (a1 : Option Addr) (n1 c1 : Nat) (hk : KA w 0 w.heap.size ks a1 n1) (hnc : n1 ≤ c1) (hs : s.size ≤ 100) (hf : ks.Fits) (hz : ks.size ≤ 10000) :
    Calls Tryz.prog 46 #[.pointer (some ⟨R, 0, none⟩), .agg #[.int .i64 k, .string s, .slice a1 n1 c1]] w (TreePost 10001 w B R a n c p 2) := mut_gen 10000 (by omega) h hp k s ks a1 n1 c1 hk hnc hs hf hz
end Go.Proofs.YtceiafncpimihaaGreat
