/-
  The reference's l2Copy (for seats that draw nothing).
-/
import Derived.Test.YtgjanokaoiaaeaaOwnU
import Derived.Test.YtgjanokaoiaaeaaBx
import Derived.Deep.RegionLaw
import Derived.Deep.RegionHeld3
namespace Go.Proofs.Ytgjanokaoiaaeaa
set_option linter.unusedVariables false
set_option linter.unusedSimpArgs false
open Go.RowKit

section
variable {w w' : World} {g : Nat} {k : Int} {s : ByteArray} {v : Value} {T : TypeId}
theorem BxE.facts (h : BxE w g k s v T) : w.cell? ⟨g, 0, none⟩ = some (.int .i64 k) ∧ w.cell? ⟨g, 1, none⟩ = some (.string s) ∧ w.cell? ⟨g, 2, none⟩ = some v ∧ w.frozen? ⟨g, 0, none⟩ = false ∧ w.frozen? ⟨g, 1, none⟩ = false ∧ w.frozen? ⟨g, 2, none⟩ = false ∧ g < w.heap.size :=
  ⟨h.c0, h.c1, h.c2, blk_frozen h 0, blk_frozen h 1, blk_frozen h 2, blk_lt h⟩
theorem BxE.grown {r : Option Nat} (h : BxE w g k s v T) (hg : w.grownBy w' r) (hr : r ≠ some g) : BxE w' g k s v T := (hg.block g (blk_lt h) (fun e => hr e.symm)).trans h
theorem BxE.alloc (h : BxE w g k s v T) (o : Obj) : BxE (w.alloc o) g k s v T := h.grown (World.grownBy_alloc w o none) (by simp)
theorem BxE.set2 (h : BxE w g k s v T) (u : Value) : BxE (w.setCell ⟨g, 2, none⟩ u) g k s u T := blk_set h 2 u
theorem BxE.other (h : BxE w g k s v T) {g' : Nat} (hne : g ≠ g') (i : Nat) (u : Value) : BxE (w.setCell ⟨g', i, none⟩ u) g k s v T := (Below.heap_setCell w _ _ g (fun e => hne (by simpa using e))).trans h
end
theorem Fo.size_len : ∀ f : Fo, f.len ≤ f.size
  | .nil => Nat.le_refl _
  | .node k s ks r => by have := Fo.size_len r; simp only [Fo.len, Fo.size]; omega

/-- what l2Copy leaves: the same expression, in memory of its own -/
def CopyP (k : Int) (s : ByteArray) (ks : Fo) (w : World) (e : Ending) (w' : World) : Prop := ∃ v, e = .returned (.agg #[.int .i64 k, .string s, v]) ∧ OwnT w' w.heap.size v ks ∧ Below w.heap.size w w'
/-- between two rounds of l2Copy -/
def CpI (w : World) (k : Int) (s : ByteArray) (ks : Fo) (a : Option Addr) (n c : Nat) (i : Value) (wr : World) : Prop :=
  ∃ (j : Nat) (v : Value) (f : Fo), j ≤ n ∧ i = .int .i64 j ∧ f.len = j ∧ (∀ i, i < j → f.get i = ks.get i) ∧ OwnT wr (w.heap.size + 1 + 1 + 1) v f ∧ BxE wr w.heap.size k s (.slice a n c) 37 ∧ BxE wr (w.heap.size + 1) 0 .empty (.slice none 0 0) 37 ∧ BxE wr (w.heap.size + 1 + 1) k s v 37 ∧ Below w.heap.size w wr

set_option maxRecDepth 100000 in
set_option maxHeartbeats 4000000 in
theorem copy_of (k : Int) (s : ByteArray) (ks : Fo) (N : Nat) (hN : ks.size ≤ N) (hN2 : N ≤ 1048576) (ih : ∀ k' s' ks', Fo.size ks' < ks.size → ∀ (a : Option Addr) (n c : Nat) (w : World), KA w 0 w.heap.size ks' a n → n ≤ c → Calls Try.prog 33 #[.agg #[.int .i64 k', .string s', .slice a n c]] w (CopyP k' s' ks' w))
    (a : Option Addr) (n c : Nat) (w : World) (hk : KA w 0 w.heap.size ks a n) (hnc : n ≤ c) :
    Calls Try.prog 33 #[.agg #[.int .i64 k, .string s, .slice a n c]] w (CopyP k s ks w) := by
  have hn : n ≤ 1048576 := by have := Fo.size_len ks; have := hk.1; omega
  have hP0 := ((BxE.new w k s (.slice a n c) 37).alloc (.cells #[.int .i64 0, .string .empty, .slice none 0 0] 37)).alloc (.cells #[.int .i64 k, .string s, .slice none 0 0] 37)
  have hG0 := (BxE.new (w.alloc (.cells #[.int .i64 k, .string s, .slice a n c] 37)) 0 .empty (.slice none 0 0) 37).alloc (.cells #[.int .i64 k, .string s, .slice none 0 0] 37)
  have hE0 := BxE.new ((w.alloc (.cells #[.int .i64 k, .string s, .slice a n c] 37)).alloc (.cells #[.int .i64 0, .string .empty, .slice none 0 0] 37)) k s (.slice none 0 0) 37
  have hB0 := (((Below.refl w.heap.size w).alloc (Nat.le_refl _) (.cells #[.int .i64 k, .string s, .slice a n c] 37)).alloc (by simp) (.cells #[.int .i64 0, .string .empty, .slice none 0 0] 37)).alloc (by simp; omega) (.cells #[.int .i64 k, .string s, .slice none 0 0] 37)
  simp only [World.size_alloc] at hG0 hE0
  have Hall := Lib.hid (And.intro hP0 (And.intro hG0 (And.intro hE0 hB0)))
  clear hP0 hG0 hE0 hB0
  go_enter Try.func33, Try.ntmps33
  go_wp2_with fail
  go_loopw [4] (fun i wr => CpI w k s ks a n c i wr) (fun i _ => n - (intOf i).toNat)
  case atStart => exact ⟨0, _, .nil, Nat.zero_le _, rfl, rfl, fun i h => absurd h (by omega), OwnT.nil _ _, Hall.out.1, Hall.out.2.1, Hall.out.2.2.1, Hall.out.2.2.2⟩
  case round =>
    obtain ⟨j, v, f, hj, rfl, hfl, hget, hown, hpx, hgx, hex, hB⟩ := hrel
    obtain ⟨p0, p1, p2, pf0, pf1, pf2, hpl⟩ := hpx.facts
    obtain ⟨e0, e1, e2, g0, g1, g2, hel⟩ := hex.facts
    by_cases hlt : j < n
    · obtain ⟨b, off, k3, s3, ks3, a3, n3, c3, rfl, _, hb3, hg3, hc1, hc2, hc3, hcap3, hk3⟩ := (hk.below hB).get hlt
      have hjj : (j : Int) < (n : Int) := by omega
      have hj0 : (0 : Int) ≤ (j : Int) := by omega
      have hsz3 := Fo.get_size hg3
      have Hk3 := Lib.hid (show KA wr.drew 0 wr.drew.heap.size ks3 a3 n3 from hk3.keep (Nat.le_refl _) hB.size fun p _ _ => rfl)
      have Hih := Lib.hid (ih k3 s3 ks3 (by omega) a3 n3 c3)
      clear hk3 ih
      go_wp2_with fail
      go_region_law (first
        | (go_simp; go_at_call 33; refine Calls.mono (Hih.out _ Hk3.out hcap3) ?_; rintro e w4 ⟨v4, rfl, hown4, hB4⟩; obtain ⟨a4, d4, rfl, hd4, hm4, hk4⟩ := hown4.form; have hB4' : Below wr.heap.size wr w4 := ((Below.refl wr.heap.size wr).drew).trans hB4; have hown5 := hown.below hB4'; have hex5 := hex.next hB4'; obtain ⟨y0, y1, y2, z0, z1, z2, hl5⟩ := hex5.facts)
        | (refine step_append_node rfl _ _ (by rfl) (w.heap.size + 1 + 1 + 1) v f (by rfl) (hown5.alloc _) w4.heap.size 1 (by rfl) k3 s3 ks3 a4 ks3.len d4 _ _ (heap_alloc_new w4 _) hd4 (hk4.alloc (Nat.le_refl _) _) (by show _ ≤ wr.heap.size; omega) (by simp) (fun g hg => .inl (hown.lt g hg).2) (by omega) (by simp; omega) ?_; intro g cap w6 hown6 hgrow6 hlt6 hbg6; have hex6 := (hex5.alloc (.cells #[.int .i64 k3, .string s3, .slice a4 ks3.len d4] 37)).grown hgrow6 (fun e => by have := (hown.lt _ e).1; omega); obtain ⟨x0, x1, x2, v0, v1, v2, hl6⟩ := hex6.facts))
      all_goals go_wp2_with fail
      all_goals
        rw [hfl] at hown6
        exact ⟨⟨j + 1, _, _, by omega, by go_num, by rw [Fo.snoc_len]; omega, Fo.snoc_drop hg3 f hget hfl, hown6.setCell (Nat.lt_succ_self _) 2 _, (((hpx.next hB4').alloc _).grown hgrow6 (fun e => by have := (hown.lt _ e).1; omega)).other (by omega) 2 _, (((hgx.next hB4').alloc _).grown hgrow6 (fun e => by have := (hown.lt _ e).1; omega)).other (by omega) 2 _, hex6.set2 _, ((((hB.trans (hB4'.mono hB.size)).alloc (by omega) _).grown hgrow6 (by simp; omega) (fun g' e => by have := (hown.lt _ e).1; omega)).setCell (Nat.le_trans (Nat.le_succ _) (Nat.le_succ _)) _)⟩, by simp [intOf]; omega⟩
    · obtain rfl : f = ks := Fo.ext fun i => by
        by_cases hi : i < j
        · exact hget i hi
        · have h1 : f.get i = none := by
            cases hh : f.get i with
            | none => rfl
            | some x => have := Fo.get_lt hh; omega
          have h2 : ks.get i = none := by
            cases hh : ks.get i with
            | none => rfl
            | some x => have := Fo.get_lt hh; have := hk.1; omega
          rw [h1, h2]
      obtain ⟨c0, c1, c2, f0, f1, f2, hl⟩ := hgx.facts
      obtain ⟨av, dv, rfl, hdv, hmv, hkv⟩ := hown.form
      have hjj : ¬ (j : Int) < (n : Int) := by omega
      go_wp2_with fail
      refine bodyPost_ret (v := .agg #[.int .i64 k, .string s, .slice av f.len dv]) (by simp [results, Try.results33, go_sem, *]) rfl ?_
      refine ⟨_, rfl, OwnT.mono ?_ (Nat.le_trans (Nat.le_succ _) (Nat.le_trans (Nat.le_succ _) (Nat.le_succ _))), ((hB.setCell (Nat.le_succ _) _).setCell (Nat.le_succ _) _).setCell (Nat.le_succ _) _⟩
      exact ((hown.setCell (by omega) 0 _).setCell (by omega) 1 _).setCell (by omega) 2 _
theorem copy_all (N : Nat) (hN : N ≤ 1048576) : ∀ (k : Int) (s : ByteArray) (ks : Fo), ks.size ≤ N → ∀ (a : Option Addr) (n c : Nat) (w : World), KA w 0 w.heap.size ks a n → n ≤ c → Calls Try.prog 33 #[.agg #[.int .i64 k, .string s, .slice a n c]] w (CopyP k s ks w) := by
  induction N with
  | zero => exact fun k s ks h => copy_of k s ks 0 h hN fun k' s' ks' h' => absurd h' (by omega)
  | succ N ih => exact fun k s ks h => copy_of k s ks (N + 1) h hN fun k' s' ks' h' => ih (by omega) k' s' ks' (by omega)

end Go.Proofs.Ytgjanokaoiaaeaa
