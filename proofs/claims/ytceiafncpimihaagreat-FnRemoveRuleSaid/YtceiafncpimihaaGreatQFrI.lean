/-
  The program's FindRule.
-/
import Derived.Test.YtceiafncpimihaaGreatGtwo
import Derived.Test.YtceiafncpimihaaGreatQPrI
import Derived.Test.YtceiafncpimihaaGreatGone
namespace Go.Proofs.YtceiafncpimihaaGreat
set_option linter.unusedVariables false
set_option linter.unusedSimpArgs false
open Go.RowKit Go.Maps

/-- what the look-up in the map finds -/
theorem mapR_look {w : World} {B : Nat} {rs : List Ru} {x : ByteArray} (ha : rs.Pairwise fun a b => sLess a.1 b.1 = true) {D : DataW Value} {gs : List Kv} (hrep : RepV D gs) (h1 : ∀ g ∈ gs, ∃ y ∈ rs, BodyV w B g y) (h2 : ∀ y ∈ rs, ∃ g ∈ gs, g.1 = y.1) :
    (∃ k s ks a n c, findB rs x = some (k, s, ks) ∧ Maps.has D (.string x.data.toList) = true ∧ D.atKey (.string x.data.toList) (.held (.agg #[.int .i64 0, .string .empty, .slice none 0 0])) = .held (.agg #[.int .i64 k, .string s, .slice a n c]) ∧ n ≤ c ∧ KA w 0 B ks a n) ∨
    (findB rs x = none ∧ Maps.has D (.string x.data.toList) = false ∧ D.atKey (.string x.data.toList) (.held (.agg #[.int .i64 0, .string .empty, .slice none 0 0])) = .held (.agg #[.int .i64 0, .string .empty, .slice none 0 0])) := by
  cases hf : findB rs x with
  | some y =>
    obtain ⟨k, s, ks⟩ := y
    have hm := findB_some hf
    obtain ⟨⟨t, v⟩, hg, e⟩ := h2 _ hm
    simp only at e
    subst e
    obtain ⟨y, hy, e1, a, n, c, hv, hc, hk⟩ := h1 _ hg
    obtain rfl := ru_inj ha hy hm e1.symm
    simp only at hv hk
    subst hv
    refine .inl ⟨k, s, ks, a, n, c, rfl, ?_, hrep.at_ hg _, hc, hk⟩
    rw [hrep.has, List.any_eq_true]
    exact ⟨_, hg, by simp⟩
  | none =>
    have hn := findB_none hf
    have hno : ∀ g ∈ gs, g.1 ≠ x := fun g hg e => by
      obtain ⟨y, hy, e1, _⟩ := h1 g hg
      exact hn y hy (e1.symm.trans e)
    refine .inr ⟨rfl, ?_, hrep.none_ hno _⟩
    rw [hrep.has, List.any_eq_false]
    exact fun g hg => by simpa using hno g hg

theorem anyElem_inv {v u : Value} {d : DataW Value} {ps : List MemPlace} (h : anyElem v = some (d, ps)) (hd : d = .held u) : v = u := by
  subst hd
  unfold anyElem at h
  simp only [Option.some.injEq, Prod.mk.injEq, DataW.held.injEq] at h
  exact h.1
/-- what FindRule leaves -/
def FrP (k : Int) (s : ByteArray) (ks : Fo) (found : Bool) (w : World) (e : Ending) (w' : World) : Prop := ∃ a c bk g, e = .returned (.tuple #[.agg #[.int .i64 k, .string s, .slice a ks.len c], .bool found]) ∧ CopX w' w.heap.size ks a c bk g ∧ Below w.heap.size w w'
theorem CopX.nil (w : World) (base : Nat) : CopX w base .nil none 0 .nil 0 := ⟨Nat.le_refl _, by simp [maxLen], KA.nil, ⟨rfl, fun h => absurd h (by simp [Fo.len])⟩, List.nodup_nil, fun x hx => by simp [blksA, Fo.len] at hx, rfl⟩

set_option maxRecDepth 100000 in
set_option maxHeartbeats 4000000 in
theorem findRI_any (a1 a2 : Option Addr) (n1 n2 c1 c2 : Nat) (fs : List Fl) (rs : List Ru) (x : ByteArray) (w : World) (hf : FilesAt w w.heap.size a1 n1 fs) (hr : RuAt w 0 w.heap.size rs a2 n2) (hs : Fits fs) (hrf : RuFits rs) (hn1 : n1 ≤ maxLen) (hn2 : n2 ≤ maxLen) (hx : x.size ≤ maxLen) :
    Calls Tryz.prog 20 #[.agg #[.slice a1 n1 c1, .slice a2 n2 c2], .string x] w (FrP (findP fs rs x).1 (findP fs rs x).2.1 (findP fs rs x).2.2.1 (findP fs rs x).2.2.2 w) := by
  have hB0 := ((Below.refl w.heap.size w).alloc (Nat.le_refl _) (.cells #[.slice a1 n1 c1, .slice a2 n2 c2] 26)).alloc (by simp) (.cells #[.int .i64 0, .string .empty, .slice none 0 0] 43)
  have hP0 := (BxP.new w (.slice a1 n1 c1) (.slice a2 n2 c2) 26).alloc (.cells #[.int .i64 0, .string .empty, .slice none 0 0] 43)
  have hE0 := BxE.new (w.alloc (.cells #[.slice a1 n1 c1, .slice a2 n2 c2] 26)) 0 .empty (.slice none 0 0) 43
  simp only [World.size_alloc] at hE0
  generalize hres : findP fs rs x = res
  obtain ⟨k, s, ks, found⟩ := res
  dsimp only
  have hkey := Lib.hid (WideMaps.keyOf_string_mk (P := Tryz.prog) Tryz.underlying9 hx)
  go_enter Tryz.func20, Tryz.ntmps20
  go_wp2_with fail
  refine (projI_any a1 a2 n1 n2 c1 c2 fs rs _ ((hf.below hB0).more hB0.size) (hr.next hB0) hs hrf hn1 hn2).mono ?_
  rintro e w1 ⟨rfl, hB1⟩
  have B1 := hB0.trans (hB1.mono hB0.size)
  have hP1 := hP0.next hB1
  have hE1 := hE0.next hB1
  have hs1 := B1.size
  have hs2 := hB1.size
  simp only [World.size_alloc] at hs2
  obtain ⟨p0, p1, pf0, pf1, hpl⟩ := hP1.facts
  obtain ⟨e0, e1, e2, f0, f1, f2, hel⟩ := hE1.facts
  rcases Bool.eq_false_or_eq_true (projB fs rs) with hv | hv
  case inr =>
    have hr0 : findP fs rs x = (0, .empty, .nil, false) := by unfold findP; rw [hv]; rfl
    rw [hr0] at hres
    simp only [Prod.mk.injEq] at hres
    obtain ⟨rfl, rfl, rfl, rfl⟩ := hres
    rw [hv]
    go_wp2_with fail
    refine bodyPost_ret (v := .tuple #[.agg #[.int .i64 0, .string .empty, .slice none 0 0], .bool false]) (by simp [results, Tryz.results20, go_sem, *] <;> rfl) rfl ?_
    exact ⟨none, 0, .nil, 0, rfl, CopX.nil _ _, ((B1.setCell (Nat.le_succ _) _).setCell (Nat.le_succ _) _).setCell (Nat.le_succ _) _⟩
  rw [hv]
  have hrl := (proj_sizes hv).2.1
  have hrl2 := hr.1
  have hasc := Lib.hid (proj_asc hv)
  have hr1 := hr.next B1
  have Hres := Lib.hid hres
  clear hres hE0 hP0
  go_wp2_with fail
  refine (rmap_any a2 n2 c2 rs w1 hr1 hrf (by omega)).mono ?_
  rintro e w2 ⟨b, rfl, hb, hM, hB2⟩
  have hE2 := hE1.next hB2
  have B2 := B1.trans (hB2.mono B1.size)
  have hs3 := hB2.size
  obtain ⟨D, gs, hown, hrep, hm1, hm2⟩ := hM
  have hlk := mapR_look (x := x) hasc.out hrep hm1 hm2
  obtain ⟨y0, y1, y2, z0, z1, z2, hyl⟩ := hE2.facts
  clear hrep hm1 hm2 p0 p1 pf0 pf1 hpl e0 e1 e2 f0 f1 f2 hel hE1 hP1
  rcases hlk with ⟨k', s', ks', a', n', c', hfb, hhas, hat, hnc, hka⟩ | ⟨hfb, hhas, hat⟩
  · have hr0 : findP fs rs x = (k', s', ks', true) := by unfold findP; rw [if_pos hv, hfb]
    rw [hr0] at Hres
    have Hres := Hres.out
    simp only [Prod.mk.injEq] at Hres
    obtain ⟨rfl, rfl, rfl, rfl⟩ := Hres
    have hfit := (hrf _ (findB_some hfb))
    have hkz : ks'.size ≤ 1000 := by
      obtain ⟨_, _, h3⟩ := valid_good ((proj_sizes hv).2.2.2 _ (findB_some hfb)).2.2
      simp only at h3
      omega
    have Hat := Lib.hid hat
    clear hat
    go_wp2_with (at_lookup; refine wpList_lookup_own_ok _ rfl _ _ 78 rfl 9 43 rlaw Tryz.underlying78 anyElem (rzero _) _ _ rfl b n2 D rfl hown _ _ rfl hkey.out ?_; rw [hhas]; intro v ps hv2; obtain rfl := anyElem_inv hv2 Hat.out; clear hv2)
    have hB3 : Below w1.heap.size w1 (w2.alloc (.cells #[.int .i64 k', .string s', .slice a' n' c'] 43)) := hB2.alloc hB2.size _
    have B3 := B1.trans (hB3.mono B1.size)
    have hs4 := hB3.size
    simp only [World.size_alloc] at hs4
    refine (cpx_all ks'.size (by omega) k' s' ks' (Nat.le_refl _) a' n' c' _ (hka.next hB3) hnc).mono ?_
    rintro e w4 ⟨a4, c4, bk4, g4, rfl, hcx, hB4⟩
    have hE4 := (hE2.alloc (.cells #[.int .i64 k', .string s', .slice a' n' c'] 43)).next hB4
    have B4 := B3.trans (hB4.mono B3.size)
    obtain ⟨v0, v1, v2, t0, t1, t2, hvl⟩ := hE4.facts
    have hbl : w.heap.size + 1 < (w2.alloc (.cells #[.int .i64 k', .string s', .slice a' n' c'] 43)).heap.size := by simp; omega
    have hcx' := ((hcx.setCell hbl 0 (.int .i64 k')).setCell hbl 1 (.string s')).setCell hbl 2 (.slice a4 ks'.len c4)
    clear y0 y1 y2 z0 z1 z2 hyl hcx
    go_wp2_with fail
    refine bodyPost_ret (v := .tuple #[.agg #[.int .i64 k', .string s', .slice a4 ks'.len c4], .bool true]) (by simp [results, Tryz.results20, go_sem, *] <;> rfl) rfl ?_
    exact ⟨a4, c4, bk4, g4, rfl, hcx'.mono (by have := B3.size; omega), ((B4.setCell (Nat.le_succ _) _).setCell (Nat.le_succ _) _).setCell (Nat.le_succ _) _⟩
  · have hr0 : findP fs rs x = (0, .empty, .nil, false) := by unfold findP; rw [if_pos hv, hfb]
    rw [hr0] at Hres
    have Hres := Hres.out
    simp only [Prod.mk.injEq] at Hres
    obtain ⟨rfl, rfl, rfl, rfl⟩ := Hres
    have Hat := Lib.hid hat
    clear hat
    go_wp2_with (at_lookup; refine wpList_lookup_own_ok _ rfl _ _ 78 rfl 9 43 rlaw Tryz.underlying78 anyElem (rzero _) _ _ rfl b n2 D rfl hown _ _ rfl hkey.out ?_; rw [hhas]; intro v ps hv2; obtain rfl := anyElem_inv hv2 Hat.out; clear hv2)
    have hB3 : Below w1.heap.size w1 (w2.alloc (.cells #[.int .i64 0, .string .empty, .slice none 0 0] 43)) := hB2.alloc hB2.size _
    have B3 := B1.trans (hB3.mono B1.size)
    have hs4 := hB3.size
    simp only [World.size_alloc] at hs4
    refine (cpx_all 0 (by omega) 0 .empty .nil (Nat.le_refl _) none 0 0 _ KA.nil (Nat.le_refl _)).mono ?_
    rintro e w4 ⟨a4, c4, bk4, g4, rfl, hcx, hB4⟩
    have hE4 := (hE2.alloc (.cells #[.int .i64 0, .string .empty, .slice none 0 0] 43)).next hB4
    have B4 := B3.trans (hB4.mono B3.size)
    obtain ⟨v0, v1, v2, t0, t1, t2, hvl⟩ := hE4.facts
    have hbl : w.heap.size + 1 < (w2.alloc (.cells #[.int .i64 0, .string .empty, .slice none 0 0] 43)).heap.size := by simp; omega
    have hcx' := ((hcx.setCell hbl 0 (.int .i64 0)).setCell hbl 1 (.string .empty)).setCell hbl 2 (.slice a4 Fo.nil.len c4)
    clear y0 y1 y2 z0 z1 z2 hyl hcx
    go_wp2_with fail
    refine bodyPost_ret (v := .tuple #[.agg #[.int .i64 0, .string .empty, .slice a4 Fo.nil.len c4], .bool false]) (by simp [results, Tryz.results20, go_sem, *] <;> rfl) rfl ?_
    exact ⟨a4, c4, bk4, g4, rfl, hcx'.mono (by have := B3.size; omega), ((B4.setCell (Nat.le_succ _) _).setCell (Nat.le_succ _) _).setCell (Nat.le_succ _) _⟩
end Go.Proofs.YtceiafncpimihaaGreat
