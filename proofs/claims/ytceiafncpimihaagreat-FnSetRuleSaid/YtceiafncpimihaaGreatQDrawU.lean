/-
  DrawSetRule: a drawn project, once mutated, and a drawn rule.
-/
import Derived.Test.YtceiafncpimihaaGreatQDrawO
namespace Go.Proofs.YtceiafncpimihaaGreat
set_option linter.unusedVariables false
set_option linter.unusedSimpArgs false
open Go.RowKit

theorem strs5r {W : World} {g : Nat} {T : TypeId} (h : W.heap[g]? = some (.cells #[.string ⟨#[100]⟩, .string ⟨#[120]⟩, .string ⟨#[121]⟩, .string ⟨#[97]⟩, .string ⟨#[101]⟩] T (0, 0))) : StrsAt W (fun s => s.size ≤ 10) g 5 := StrsAt.of_block (Q := fun s => s.size ≤ 10) h (by simp; decide)
theorem bxR_step {w w' : World} {B R n c p q k g : Nat} {a : Option Addr} {t s : ByteArray} {x : Int} {v : Value} {T : TypeId} (h : BxR w g t x s v T) (hs : Step w w' B R a n c p q k) (hne : g ≠ R) : BxR w' g t x s v T := (hs.grown.block g (blk_lt h) (fun e => hne (by injection e))).trans h
/-- what a drawn project with a drawn rule is -/
def ProjRule (m z : Nat) (w : World) (e : Ending) (w' : World) : Prop :=
  ∃ v1 v2 fs rs t k s ks a c, e = .returned (.tuple #[.agg #[v1, v2], .agg #[.string t, .int .i64 k, .string s, .slice a ks.len c]]) ∧ OwnsF w' w.heap.size v1 fs ∧ RuO w' w.heap.size v2 rs ∧ Short 10 fs ∧ fs.length ≤ m ∧ RuSm z rs ∧ rs.length ≤ m ∧
    KP w' w.heap.size w'.heap.size ks a ks.len ∧ ks.len ≤ c ∧ t.size ≤ 10 ∧ s.size ≤ 100 ∧ ks.Fits ∧ ks.size ≤ 1001 ∧ Below w.heap.size w w'
theorem projRule_mk {w V : World} {b1 b2 b3 m z : Nat} {v1 v2 : Value} {fs : List Fl} {rs : List Ru} {t s : ByteArray} {k : Int} {ks : Fo} {a : Option Addr} {c : Nat} (h1 : OwnsF V b1 v1 fs) (h2 : RuO V b2 v2 rs) (h3 : KP V b3 V.heap.size ks a ks.len) (hb1 : w.heap.size + 1 < b1) (hb2 : w.heap.size + 1 < b2) (hb3 : w.heap.size + 1 < b3) (hB : Below w.heap.size w V)
    (hsh : Short 10 fs) (hl1 : fs.length ≤ m) (hsm : RuSm z rs) (hl2 : rs.length ≤ m) (hc : ks.len ≤ c) (ht : t.size ≤ 10) (hs : s.size ≤ 100) (hf : ks.Fits) (hz : ks.size ≤ 1001) (u0 u1 x0 x1 x2 x3 : Value) :
    ProjRule m z w (.returned (.tuple #[.agg #[v1, v2], .agg #[.string t, .int .i64 k, .string s, .slice a ks.len c]])) ((((((V.setCell ⟨w.heap.size, 0, none⟩ u0).setCell ⟨w.heap.size, 1, none⟩ u1).setCell ⟨w.heap.size + 1, 0, none⟩ x0).setCell ⟨w.heap.size + 1, 1, none⟩ x1).setCell ⟨w.heap.size + 1, 2, none⟩ x2).setCell ⟨w.heap.size + 1, 3, none⟩ x3) :=
  ⟨v1, v2, fs, rs, t, k, s, ks, a, c, rfl, ownsF_mono (ownsF_set (ownsF_set (ownsF_set (ownsF_set (ownsF_set (ownsF_set h1 (by omega) 0 u0) (by omega) 1 u1) hb1 0 x0) hb1 1 x1) hb1 2 x2) hb1 3 x3) (by omega),
    ((((((h2.setCell (by omega) 0 u0).setCell (by omega) 1 u1).setCell hb2 0 x0).setCell hb2 1 x1).setCell hb2 2 x2).setCell hb2 3 x3).mono (by omega), hsh, hl1, hsm, hl2,
    ((((((h3.setCell (.inl (by omega)) 0 u0).setCell (.inl (by omega)) 1 u1).setCell (.inl hb3) 0 x0).setCell (.inl hb3) 1 x1).setCell (.inl hb3) 2 x2).setCell (.inl hb3) 3 x3).more (by omega) (by simp [World.setCell]), hc, ht, hs, hf, hz,
    (((((hB.setCell (p := ⟨w.heap.size, 0, none⟩) (Nat.le_refl _) u0).setCell (p := ⟨w.heap.size, 1, none⟩) (Nat.le_refl _) u1).setCell (p := ⟨w.heap.size + 1, 0, none⟩) (Nat.le_succ _) x0).setCell (p := ⟨w.heap.size + 1, 1, none⟩) (Nat.le_succ _) x1).setCell (p := ⟨w.heap.size + 1, 2, none⟩) (Nat.le_succ _) x2).setCell (p := ⟨w.heap.size + 1, 3, none⟩) (Nat.le_succ _) x3⟩

set_option maxRecDepth 100000 in
set_option maxHeartbeats 2000000 in
theorem drawSR_any (a : Option Addr) (n c : Nat) (w : World) (hb : BytesAt w w.heap.size a n) (hn : n ≤ c) (hc : c ≤ maxLen) :
    Calls Tryz.prog 17 #[.slice a n c] w (ProjRule 6 1003 w) := by
  have hb0 := (BxP.new w (.slice none 0 0) (.slice none 0 0) 26).alloc (.cells #[.string .empty, .int .i64 0, .string .empty, .slice none 0 0] 45)
  have hd0 := BxR.new (w.alloc (.cells #[.slice none 0 0, .slice none 0 0] 26)) .empty 0 .empty (.slice none 0 0) 45
  rw [World.size_alloc] at hd0
  go_enter Tryz.func17, Tryz.ntmps17
  go_wp2_with fail
  refine (open_any a n c _ ((hb.in1 _).in1 _) hn hc).mono ?_
  rintro e w1 ⟨R, n', c', rfl, hle, hr, hB⟩
  have hb1 := hb0.next hB
  have hd1 := hd0.next hB
  have hB0 : Below w.heap.size w w1 := (((Below.refl _ _).alloc (Nat.le_refl _) _).alloc (by simp) _).trans (hB.mono (by simp; omega))
  have hl1 := blk_lt hd1
  simp only [World.size_alloc] at hle hr
  clear hb0 hd0 hB
  have hRl := hr.lt
  go_wp2_with fail
  refine (project_any hr (by omega)).mono ?_
  rintro e w2 ⟨v1, v2, fs, rs, q, rfl, hof, hru, hsh, hfl, hsm, hrl, hst⟩
  obtain ⟨a1, c1, rfl, hf1, hn1⟩ := ownsF_none hof
  obtain ⟨a2, c2, rfl, hc2, hr2⟩ := hru.at_
  have hi2 := hst.hi
  go_wp2_with fail
  refine (pmut_any hst.rd (by omega) a1 a2 c1 c2 fs rs 5 1000 hf1 hn1 hr2 hsh hsm hfl hrl (by omega) (by omega)).mono ?_
  rintro e w3 ⟨v3, v4, gs, ss, q3, rfl, hog, hrv, hsh3, hfl3, hsm3, hrl3, hst3⟩
  obtain ⟨a3, c3, rfl, hf3, hn3⟩ := ownsF_none hog
  obtain ⟨a4, c4, rfl, hc4, hr4⟩ := hrv.at_
  have hst03 := hst.trans hst3
  have hi3 := hst03.hi
  have hs2 := hst.grown.size
  have hs3 := hst3.grown.size
  have hE := BxP.new w3 (.slice a3 gs.length c3) (.slice a4 ss.length c4) 26
  have hb3 := (bxP_step hb1 hst03 (by omega)).alloc (.cells #[.slice a3 gs.length c3, .slice a4 ss.length c4] 26)
  have hd3 := (bxR_step hd1 hst03 (by omega)).alloc (.cells #[.slice a3 gs.length c3, .slice a4 ss.length c4] 26)
  have hrd3 := hst3.rd.alloc (.cells #[.slice a3 gs.length c3, .slice a4 ss.length c4] 26)
  have hog3 := ownsF_al hog (.cells #[.slice a3 gs.length c3, .slice a4 ss.length c4] 26)
  have hru3 := hrv.alloc (.cells #[.slice a3 gs.length c3, .slice a4 ss.length c4] 26)
  have hst3' := hst03.alloc (.cells #[.slice a3 gs.length c3, .slice a4 ss.length c4] 26)
  clear hof hru hog hrv hf1 hf3 hr2 hr4 hst hst3 hst03 hb1
  go_upto_region 3 with (fail)
  generalize hW : w3.alloc (.cells #[.slice a3 gs.length c3, .slice a4 ss.length c4] 26) = W at *
  clear hW
  obtain ⟨e0, e1, ef0, ef1, el⟩ := hE.facts
  obtain ⟨u0, u1, uf0, uf1, ul⟩ := hb3.facts
  obtain ⟨y0, y1, yf0, yf1, yl⟩ := hd3.facts
  obtain ⟨y0, y1, y2, y3, yf0, yf1, yf2, yf3, yl⟩ := hd3.facts
  have hhi := hst3'.hi
  have hRW := hrd3.lt
  have hrdA := (hrd3.alloc (.cells #[.string ⟨#[100]⟩, .string ⟨#[120]⟩, .string ⟨#[121]⟩, .string ⟨#[97]⟩, .string ⟨#[101]⟩] 9)).drewN 1
  have hsA : StrsAt ((W.alloc (.cells #[.string ⟨#[100]⟩, .string ⟨#[120]⟩, .string ⟨#[121]⟩, .string ⟨#[97]⟩, .string ⟨#[101]⟩] 9)).drewN 1) (fun s => s.size ≤ 10) W.heap.size 5 := strs5r (heap_alloc_new W _)
  go_wp2_with fail
  go_region_law (first
    | (go_simp; go_at_call 46; (with_reducible refine Calls.mono H6.out ?_); rintro e w6 ⟨k6, s6, v6, ks6, q6, rfl, hown6, hs6, hf6, hz6, hst6⟩; obtain ⟨a6, c6, rfl, hc6, _, hk6⟩ := hown6.form; have hst6' := hst5'.trans hst6; have hE6 := bxP_step hE hst6' (by omega); have hb6 := bxP_step hb3 hst6' (by omega); have hd6 := bxR_step hd3 hst6' (by omega); obtain ⟨j0, j1, jf0, jf1, jl⟩ := hE6.facts; obtain ⟨g0, g1, gf0, gf1, gl⟩ := hb6.facts; obtain ⟨i0, i1, i2, i3, if0, if1, if2, if3, il⟩ := hd6.facts)
    | (go_simp; go_at_call 28; refine Calls.mono (of_any hrdA (by omega) (by omega) (by omega) (by omega) hsA) ?_; rintro e w4 ⟨⟨t, rfl, ht⟩, hst4⟩; have hst4' := (((Step.refl hrd3).alloc (.cells #[.string ⟨#[100]⟩, .string ⟨#[120]⟩, .string ⟨#[121]⟩, .string ⟨#[97]⟩, .string ⟨#[101]⟩] 9)).drewN 1).trans hst4; have hE4 := bxP_step hE hst4' (by omega); obtain ⟨f0, f1, ff0, ff1, fl⟩ := hE4.facts; have hhi4 := hst4'.hi)
    | (go_simp; go_at_call 47; refine Calls.mono (expr_any hst4'.rd (by omega)) ?_; rintro e w5 ⟨k5, s5, v5, ks5, q5, rfl, hown5, hs5, hf5, hz5, hst5⟩; obtain ⟨a5, c5, rfl, hc5, _, hk5⟩ := hown5.form; have hst5' := hst4'.trans hst5; have hE5 := bxP_step hE hst5' (by omega); obtain ⟨h0, h1, hf0, hf1, hl0⟩ := hE5.facts; have hhi5 := hst5'.hi; have H6 := Lib.hid (mut_gen 1000 (by omega) hst5'.rd (by omega) k5 s5 ks5 a5 ks5.len c5 (hk5.more (Nat.zero_le _) (Nat.le_refl _)).1 hc5 hs5 hf5 hz5)))
  all_goals go_wp2_with fail
  all_goals
    refine bodyPost_ret (v := .tuple #[.agg #[.slice a3 gs.length c3, .slice a4 ss.length c4], .agg #[.string t, .int .i64 k6, .string s6, .slice a6 ks6.len c6]]) (by simp [results, Tryz.results17, go_sem, *]) rfl ?_
    exact projRule_mk (hog3.step (by omega) hst6') (hru3.step (by omega) hst6') hk6 (by omega) (by omega) (by have := hst5'.grown.size; omega) (hB0.trans ((hst3'.trans hst6').toBelow (by omega) (by omega))) hsh3 hfl3 hsm3 hrl3 hc6 ht hs6 hf6 hz6 _ _ _ _ _ _
end Go.Proofs.YtceiafncpimihaaGreat
