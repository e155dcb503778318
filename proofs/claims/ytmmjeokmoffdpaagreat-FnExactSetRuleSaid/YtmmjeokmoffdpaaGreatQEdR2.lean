/-
  A rule as an argument of a law: the box that holds it, the law's copy of it, its marks.
-/
import Derived.Test.YtmmjeokmoffdpaaGreatQEdC2
import Derived.Test.YtmmjeokmoffdpaaGreatQEdZ
namespace Go.Proofs.YtmmjeokmoffdpaaGreat
set_option linter.unusedVariables false
set_option linter.unusedSimpArgs false
open Go.RowKit Go.Maps

/-- the rule that the law was given, in its box; its tree lies below D -/
def RxB (V : World) (g D : Nat) (t : ByteArray) (k : Int) (s : ByteArray) (ks : Fo) (a : Option Addr) (c : Nat) : Prop := BxR V g t k s (.slice a ks.len c) 30 ∧ KA V 0 D ks a ks.len ∧ D ≤ g
section
variable {V V' : World} {g D L : Nat} {t s : ByteArray} {k : Int} {ks : Fo} {a : Option Addr} {c : Nat}
theorem RxB.below (h : RxB V g D t k s ks a c) (hg : g < L) (hB : Below L V V') : RxB V' g D t k s ks a c := ⟨h.1.below hg hB, h.2.1.below (hB.mono (by have := h.2.2; omega)), h.2.2⟩
theorem RxB.next (h : RxB V g D t k s ks a c) (hB : Below V.heap.size V V') : RxB V' g D t k s ks a c := h.below (blk_lt h.1) hB
theorem RxB.alloc (h : RxB V g D t k s ks a c) (o : Obj) : RxB (V.alloc o) g D t k s ks a c := h.next ((Below.refl _ _).alloc (Nat.le_refl _) o)
theorem RxB.other (h : RxB V g D t k s ks a c) {g' : Nat} (hne : g < g') (i : Nat) (u : Value) : RxB (V.setCell ⟨g', i, none⟩ u) g D t k s ks a c := ⟨h.1.other (by omega) i u, h.2.1.setCell (.inr (by have := h.2.2; omega)) i u, h.2.2⟩
theorem RxB.full (h : RxB V g D t k s ks a c) : KA V 0 V.heap.size ks a ks.len := h.2.1.more (Nat.le_refl _) (by have := blk_lt h.1; have := h.2.2; omega)
theorem RxB.lt (h : RxB V g D t k s ks a c) : g < V.heap.size := blk_lt h.1
theorem sixX {u v : Value} {T : TypeId} {g0 : Nat} (h : BxP V g0 u v T) (h' : RxB V (g0 + 1) D t k s ks a c) : V.cell? ⟨g0, 0, none⟩ = some u ∧ V.cell? ⟨g0, 1, none⟩ = some v ∧ V.cell? ⟨g0 + 1, 0, none⟩ = some (.string t) ∧ V.cell? ⟨g0 + 1, 1, none⟩ = some (.int .i64 k) ∧ V.cell? ⟨g0 + 1, 2, none⟩ = some (.string s) ∧ V.cell? ⟨g0 + 1, 3, none⟩ = some (.slice a ks.len c) := sixR h h'.1
end
theorem KS.below {w w' : World} {L B : Nat} {f : Fo} {a : Option Addr} {n : Nat} (h : KS w L B f a n) (hb : Below B w w') : KS w' L B f a n := h.keep (Nat.le_refl _) (Nat.le_refl _) fun g _ hg => hb.block g hg
/-- the law's copy of the rule, between L and S -/
structure FrR (W : World) (L S gx gt : Nat) (t : ByteArray) (k : Int) (s : ByteArray) (ks : Fo) : Prop where
  kk : KS W L gx ks (some ⟨gt, 0, none⟩) ks.len
  bx : BxR W gx t k s (.slice (some ⟨gt, 0, none⟩) ks.len ks.len) 44
  lL : L ≤ gx
  lx : gx < S
section
variable {W W' : World} {L S gx gt : Nat} {t s : ByteArray} {k : Int} {ks : Fo}
theorem FrR.below (h : FrR W L S gx gt t k s ks) (hb : Below S W W') : FrR W' L S gx gt t k s ks := ⟨h.kk.below (hb.mono (by have := h.lx; omega)), h.bx.below h.lx hb, h.lL, h.lx⟩
theorem FrR.tch {L1 B1 : Nat} (h : FrR W L S gx gt t k s ks) (hS : S ≤ W.heap.size) (hb : Tch L1 B1 W W') (hB : B1 ≤ L) : FrR W' L S gx gt t k s ks := by
  have h1 := h.lL
  have h2 := h.lx
  exact ⟨h.kk.keep (Nat.le_refl _) (Nat.le_refl _) fun g q1 q2 => hb.out g (by omega) (.inr (by omega)), (hb.out gx (by omega) (.inr (by omega))).trans h.bx, h1, h2⟩
theorem FrR.ka (h : FrR W L S gx gt t k s ks) (hS : S ≤ W.heap.size) : KA W 0 W.heap.size ks (some ⟨gt, 0, none⟩) ks.len := h.kk.1.more (Nat.zero_le _) (by have := h.lx; omega)
theorem FrR.mk_ {w w6 : World} (hK : KS w6 w.heap.size w6.heap.size ks (some ⟨gt, 0, none⟩) ks.len) (hB : Below w.heap.size w w6) : FrR (w6.alloc (.cells #[.string t, .int .i64 k, .string s, .slice (some ⟨gt, 0, none⟩) ks.len ks.len] 44)) w.heap.size (w6.heap.size + 1) w6.heap.size gt t k s ks :=
  ⟨hK.below ((Below.refl _ _).alloc (Nat.le_refl _) _), BxR.new _ _ _ _ _ _, hB.size, Nat.lt_succ_self _⟩
end
theorem eightR {V : World} {g g' D : Nat} {t s : ByteArray} {k : Int} {ks : Fo} {a : Option Addr} {c : Nat} {v : Value} {T : TypeId} (h : RxB V g D t k s ks a c) (h' : BxR V g' t k s v T) : V.cell? ⟨g, 0, none⟩ = some (.string t) ∧ V.cell? ⟨g, 1, none⟩ = some (.int .i64 k) ∧ V.cell? ⟨g, 2, none⟩ = some (.string s) ∧ V.cell? ⟨g, 3, none⟩ = some (.slice a ks.len c) ∧ V.cell? ⟨g', 0, none⟩ = some (.string t) ∧ V.cell? ⟨g', 1, none⟩ = some (.int .i64 k) ∧ V.cell? ⟨g', 2, none⟩ = some (.string s) ∧ V.cell? ⟨g', 3, none⟩ = some v := by
  obtain ⟨p0, p1, p2, p3, _⟩ := h.1.facts
  obtain ⟨q0, q1, q2, q3, _⟩ := h'.facts
  exact ⟨p0, p1, p2, p3, q0, q1, q2, q3⟩
theorem ed_small' {rs' : List Ru} (h : rs'.length + ruTot rs' ≤ 1048577) : ruMk rs' ≤ 4000000 := by have := ruMk_le rs'; omega
theorem setr_len {r : Ru} {fs fs' : List Fl} {rs rs' : List Ru} {b : Bool} (h : setRuleR r fs rs = (fs', rs', b)) : rs'.length ≤ 1048576 := by
  unfold setRuleR at h
  split at h
  · rename_i h2
    cases h
    have := (proj_sizes h2.2).2.1
    omega
  · cases h
    simp

set_option maxHeartbeats 400000 in
/-- markRule: the operands of the rule's body are marked, and nothing else -/
theorem markRu_any (t : ByteArray) (k : Int) (s : ByteArray) (f : Fo) (a : Option Addr) (n c m L B : Nat) (w : World) (hk : SkA w L B f a n) (hB : B ≤ w.heap.size) (h1 : 1 ≤ m) (hb : m + 2 * f.size ≤ 8388600) (hn : n ≤ maxLen) :
    Calls Tryz.prog 13 #[.agg #[.string t, .int .i64 k, .string s, .slice a n c], .int .i64 m] w fun e w' => e = .returned (.int .i64 (m + 2 * f.size : Nat)) ∧ Tch L B w w' := by
  have hB0 := (Below.refl w.heap.size w).alloc (Nat.le_refl _) (.cells #[.string t, .int .i64 k, .string s, .slice a n c] 44)
  have hs0 : Tch L B w (w.alloc (.cells #[.string t, .int .i64 k, .string s, .slice a n c] 44)) := Tch.of hB0
  have hbx := BxR.new w t k s (.slice a n c) 44
  have Hm := Lib.hid (markE_any k s f a n c m L B _ (hk.below (hB0.mono hB)) (by simp; omega) h1 hb hn)
  have Hs := Lib.hid hs0
  obtain ⟨p0, p1, p2, p3, pf0, pf1, pf2, pf3, hpl⟩ := hbx.facts
  clear hk hs0 hbx
  go_enter Tryz.func13, Tryz.ntmps13
  go_wp2_with fail
  refine Hm.out.mono ?_
  rintro e w1 ⟨rfl, hM⟩
  have HF := Lib.hid (Hs.out.trans hM.tch)
  clear hM p0 p1 p2 p3 pf0 pf1 pf2 pf3 hpl
  go_wp2_with fail
  go_ret
  exact ⟨rfl, HF.out⟩
end Go.Proofs.YtmmjeokmoffdpaaGreat
