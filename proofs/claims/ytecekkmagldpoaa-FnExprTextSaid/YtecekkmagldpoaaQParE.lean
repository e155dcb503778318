/-
  The program's cursor reads an expression: expr itself.
-/
import Derived.Test.YtecekkmagldpoaaQParI
import Derived.Deep.DeepCutAuto
namespace Go.Proofs.Ytecekkmagldpoaa
set_option linter.unusedVariables false
set_option linter.unusedSimpArgs false
open Go.RowKit

section
variable {w w4 : World} {R B2 B4 i base c g m : Nat} {u x y z : Value} {f bk : Fo} {a : Option Addr} {s : ByteArray}
theorem ex_grown0 (hg : w.grownBy w4 (some R)) (h2 : w.heap.size ≤ B2) : w.grownBy (((w4.setCell ⟨B2, 0, none⟩ x).setCell ⟨B2, 1, none⟩ y).setCell ⟨B2, 2, none⟩ z) (some R) :=
  grown_set (grown_set (grown_set hg (.inr h2) _) (.inr h2) _) (.inr h2) _
theorem ex_grown (hg : w.grownBy w4 (some R)) (h2 : w.heap.size ≤ B2) (h4 : w.heap.size ≤ B4) : w.grownBy ((((w4.setCell ⟨B4, i, none⟩ u).setCell ⟨B2, 0, none⟩ x).setCell ⟨B2, 1, none⟩ y).setCell ⟨B2, 2, none⟩ z) (some R) :=
  ex_grown0 (grown_set hg (.inr h4) _) h2
theorem ex_cop (h : CopX w4 base f a c bk g) (h2 : B2 < base) (h4 : B4 < base) (hb : w.heap.size ≤ base) : CopX ((((w4.setCell ⟨B4, i, none⟩ u).setCell ⟨B2, 0, none⟩ x).setCell ⟨B2, 1, none⟩ y).setCell ⟨B2, 2, none⟩ z) w.heap.size f a c bk g :=
  ((((h.setCell h4 _ _).setCell h2 _ _).setCell h2 _ _).setCell h2 _ _).mono hb
theorem ex_cur (h : Cur w4 R s m) (h2 : R ≠ B2) (h4 : R ≠ B4) : Cur ((((w4.setCell ⟨B4, i, none⟩ u).setCell ⟨B2, 0, none⟩ x).setCell ⟨B2, 1, none⟩ y).setCell ⟨B2, 2, none⟩ z) R s m :=
  (((h.other h4 _ _).other h2 _ _).other h2 _ _).other h2 _ _
theorem cop_nil (w : World) (base : Nat) : CopX w base .nil none 0 .nil 0 := ⟨Nat.le_refl _, by simp [maxLen], ⟨rfl, fun h => absurd h (by simp [Fo.len])⟩, ⟨rfl, fun h => absurd h (by simp [Fo.len])⟩, by simp [blksA, Fo.len], fun x hx => by simp [blksA, Fo.len] at hx, rfl⟩
end
theorem untilH (R m : Nat) (s : ByteArray) (x y : List UInt8) (w : World) (hc : Cur w R s m) (h : s.data.toList = x ++ 39 :: y) (hx : (39 : UInt8) ∉ x) (hs : s.size ≤ maxLen) :
    Calls Try.prog 29 #[.pointer (some ⟨R, 0, none⟩), .string ⟨#[39]⟩] w fun e w' => e = .returned (.tuple #[.string ⟨x.toArray⟩, .bool true]) ∧ Cur w' R ⟨y.toArray⟩ m ∧ w.grownBy w' (some R) :=
  (until_hit R m s x y w hc h hx hs).mono fun e w' ⟨h1, w1, hB, h2⟩ => ⟨h1, by subst h2; exact (hc.below hB).set0 _, by subst h2; exact grown_set (grown_of_below hB) (.inl rfl) _⟩
theorem untilM (R m : Nat) (s : ByteArray) (w : World) (hc : Cur w R s m) (h : (39 : UInt8) ∉ s.data.toList) :
    Calls Try.prog 29 #[.pointer (some ⟨R, 0, none⟩), .string ⟨#[39]⟩] w fun e w' => e = .returned (.tuple #[.string s, .bool false]) ∧ w.grownBy w' (some R) :=
  (until_miss R m s w hc h).mono fun e w' ⟨h1, w1, hB, h2⟩ => ⟨h1, by subst h2; exact grown_set (grown_of_below hB) (.inl rfl) _⟩
theorem noRead_kids {c : UInt8} {l : List UInt8} {n : Nat} {K : Int} (hK : ∀ k : Int, (k = 1 ∨ k = 2 ∨ k = 3 ∨ k = 4 ∨ k = 5 ∨ k = 6 ∨ k = 7) → hdB k = c → k = K) (h : ∀ (s : ByteArray) (ks : Fo) (tail : List UInt8), TxN K s ks.len → Tx ks → l = tlB K s ks ++ tail → n < ks.size) : NoRead (c :: l) (n + 1) := fun k s ks tail h1 h2 e => by
  rw [fm1_hd, List.cons_append] at e
  injection e with e1 e2
  obtain rfl := hK k (txN_kind h1) e1.symm
  have := h s ks tail h1 h2 e2
  omega
theorem hd_k {k K : Int} (h : k = 1 ∨ k = 2 ∨ k = 3 ∨ k = 4 ∨ k = 5 ∨ k = 6 ∨ k = 7) (hK : K = 1 ∨ K = 2 ∨ K = 3 ∨ K = 4 ∨ K = 5 ∨ K = 6 ∨ K = 7) (e : hdB k = hdB K) : k = K := hd_inj h hK e
theorem find_quote : ∀ {l : List UInt8}, (39 : UInt8) ∈ l → ∃ x y, l = x ++ 39 :: y ∧ (39 : UInt8) ∉ x
  | b :: l, h => by
    by_cases e : b = 39
    · exact ⟨[], l, by rw [e]; rfl, by simp⟩
    · obtain ⟨x, y, h1, h2⟩ := find_quote (l := l) (by
        rcases List.mem_cons.1 h with h | h
        · exact absurd h.symm e
        · exact h)
      exact ⟨b :: x, y, by rw [h1]; rfl, by
        intro h3
        rcases List.mem_cons.1 h3 with h4 | h4
        · exact e h4.symm
        · exact h2 h4⟩
theorem txN_op {K : Int} {s : ByteArray} {n : Nat} (hK : K = 2 ∨ K = 5 ∨ K = 6 ∨ K = 7) (h : TxN K s n) : n = 1 ∧ s = .empty := by
  rcases h with ⟨h, _⟩ | ⟨h, _⟩ | ⟨h, _⟩ | ⟨_, h1, h2⟩
  · omega
  · omega
  · omega
  · exact ⟨h1, h2⟩
theorem tlB_op {K : Int} (hK : K = 2 ∨ K = 5 ∨ K = 6 ∨ K = 7) (s : ByteArray) (ks : Fo) : tlB K s ks = fmS ks [] := by
  unfold tlB
  rw [if_neg (by omega), if_neg (by omega), if_neg (by omega)]
theorem fmS_empties : ∀ {f : Fo}, fmS f [[]] = fmS f []
  | .nil => rfl
  | .node k s ks r => by rw [fmS_node, fmS_node]; simp

/-- where expr stands behind kind: the result's box, the box of the expression, the cursor -/
structure AtK (w w2 : World) (R : Nat) (k : Int) (l : List UInt8) (m : Nat) : Prop where
  cur : Cur w2 R ⟨l.toArray⟩ m
  res : BxE w2 w.heap.size 0 .empty (.slice none 0 0) 25
  grown : w.grownBy w2 (some R)
  size : w2.heap.size = w.heap.size + 1

theorem ex_zero : ExC 0 := by
  intro R m s l w hc hl hs hm
  have hR := blk_lt hc
  have hc0 := hc.alloc (.cells #[.int .i64 0, .string .empty, .slice none 0 0] 25)
  have hb0 := BxE.new w 0 .empty (.slice none 0 0) 25
  have hg0 := World.grownBy_alloc w (.cells #[.int .i64 0, .string .empty, .slice none 0 0] 25) (some R)
  have hm20 : ¬ m + 1 ≤ 20 := by omega
  have hm1 : m ≤ 1000 := by omega
  clear hm hl hs
  go_enter Try.func16, Try.ntmps16
  go_wp2_with fail
  refine (admitC_any R m s _ hc0 hm1).mono ?_
  rintro e w1 ⟨rfl, hM⟩
  rw [decide_eq_false hm20]
  obtain ⟨x0, x1, x2, xf0, xf1, xf2, xl⟩ := (hb0.grown hM.2.1 (by intro e; injection e with e; omega)).facts
  have Hg1 := Lib.hid (grown_then hg0 hM.2.1)
  clear hM hc0 hb0 hg0
  go_wp2_with fail
  refine bodyPost_ret (v := .tuple #[.agg #[.int .i64 0, .string ⟨#[]⟩, .slice none 0 0], .bool false]) (by simp [results, Try.results16, go_sem, *]) rfl ?_
  exact ⟨ex_grown0 Hg1.out (Nat.le_refl _), .inr ⟨0, ⟨#[]⟩, rfl, noRead_zero _⟩⟩

set_option maxRecDepth 100000 in
set_option maxHeartbeats 2000000 in
theorem ex_nil (n : Nat) (R m : Nat) (s : ByteArray)  (w : World) (hc : Cur w R s m) (hl : s.data.toList = ([] : List UInt8)) (hs : s.size ≤ 1048576) (hm : m + (n + 1) = 20) :
    Calls Try.prog 16 #[.pointer (some ⟨R, 0, none⟩)] w (ExPost R (([] : List UInt8)) (n + 1) w) := by
  have hR := blk_lt hc
  have hc0 := hc.alloc (.cells #[.int .i64 0, .string .empty, .slice none 0 0] 25)
  have hb0 := BxE.new w 0 .empty (.slice none 0 0) 25
  have hg0 := World.grownBy_alloc w (.cells #[.int .i64 0, .string .empty, .slice none 0 0] 25) (some R)
  have hm20 : m + 1 ≤ 20 := by omega
  have hm1 : m ≤ 1000 := by omega
  have Hm := Lib.hid hm
  have Hl := Lib.hid hl
  have Hs := Lib.hid (show s.size ≤ maxLen from by unfold maxLen; omega)
  have Hs2 := Lib.hid hs
  clear hm hl hs
  go_enter Try.func16, Try.ntmps16
  go_wp2_with fail
  refine (admitC_any R m s _ hc0 hm1).mono ?_
  rintro e w1 ⟨rfl, hM⟩
  rw [decide_eq_true hm20]
  have Hc1 := Lib.hid hM.1
  have Hb1 := Lib.hid (hb0.grown hM.2.1 (by intro e; injection e with e; omega))
  have Hg1 := Lib.hid (grown_then hg0 hM.2.1)
  have hz1 : Hid (w1.heap.size = w.heap.size + 1) := Lib.hid (by have := hM.2.2; rw [World.size_alloc] at this; exact this)
  clear hM hc0 hb0 hg0
  go_wp2_with fail
  obtain rfl : s = .empty := ba_ext (by rw [Hl.out]; rfl)
  refine (kind_nil R (m + 1) _ Hc1.out).mono ?_
  rintro e w2 ⟨rfl, hM⟩
  have hw2 : w2.heap.size = w.heap.size + 1 := by have := hM.2.2; have := hz1.out; omega
  have hb2 := Hb1.out.grown hM.2.1 (by intro e; injection e with e; omega)
  have hg2 := grown_then Hg1.out hM.2.1
  have Hg3 := Lib.hid (grown_then hg2 (World.grownBy_alloc w2 (.cells #[.int .i64 0, .string ⟨#[]⟩, .slice none 0 0] 25) (some R)))
  obtain ⟨x0, x1, x2, xf0, xf1, xf2, xl⟩ := (hb2.alloc (.cells #[.int .i64 0, .string ⟨#[]⟩, .slice none 0 0] 25)).facts
  have he3 := BxE.new w2 0 ⟨#[]⟩ (.slice none 0 0) 25
  rw [hw2] at he3
  obtain ⟨y0, y1, y2, yf0, yf1, yf2, yl⟩ := he3.facts
  clear hb2 hg2 he3 hM
  go_upto_region 4 with (fail)
  generalize w2.alloc (.cells #[.int .i64 0, .string ⟨#[]⟩, .slice none 0 0] 25) = W3 at *
  clear hw2
  go_wp2_with fail
  refine bodyPost_ret (v := .tuple #[.agg #[.int .i64 0, .string ⟨#[]⟩, .slice none 0 0], .bool false]) (by simp [results, Try.results16, go_sem, *]) rfl ?_
  exact ⟨ex_grown0 Hg3.out (Nat.le_refl _), .inr ⟨0, ⟨#[]⟩, rfl, noRead_nil _⟩⟩

set_option maxRecDepth 100000 in
set_option maxHeartbeats 2000000 in
theorem ex_other (n : Nat) (R m : Nat) (s : ByteArray) (c : UInt8) (l : List UInt8) (w : World) (hc : Cur w R s m) (hl : s.data.toList = c :: l) (hs : s.size ≤ 1048576) (hm : m + (n + 1) = 20) (hk : kindB c = 0) :
    Calls Try.prog 16 #[.pointer (some ⟨R, 0, none⟩)] w (ExPost R (c :: l) (n + 1) w) := by
  have hR := blk_lt hc
  have hc0 := hc.alloc (.cells #[.int .i64 0, .string .empty, .slice none 0 0] 25)
  have hb0 := BxE.new w 0 .empty (.slice none 0 0) 25
  have hg0 := World.grownBy_alloc w (.cells #[.int .i64 0, .string .empty, .slice none 0 0] 25) (some R)
  have hm20 : m + 1 ≤ 20 := by omega
  have hm1 : m ≤ 1000 := by omega
  have Hm := Lib.hid hm
  have Hl := Lib.hid hl
  have Hs := Lib.hid (show s.size ≤ maxLen from by unfold maxLen; omega)
  have Hs2 := Lib.hid hs
  clear hm hl hs
  go_enter Try.func16, Try.ntmps16
  go_wp2_with fail
  refine (admitC_any R m s _ hc0 hm1).mono ?_
  rintro e w1 ⟨rfl, hM⟩
  rw [decide_eq_true hm20]
  have Hc1 := Lib.hid hM.1
  have Hb1 := Lib.hid (hb0.grown hM.2.1 (by intro e; injection e with e; omega))
  have Hg1 := Lib.hid (grown_then hg0 hM.2.1)
  have hz1 : Hid (w1.heap.size = w.heap.size + 1) := Lib.hid (by have := hM.2.2; rw [World.size_alloc] at this; exact this)
  clear hM hc0 hb0 hg0
  go_wp2_with fail
  refine (kind_cons R (m + 1) s c l _ Hc1.out Hl.out Hs.out).mono ?_
  rintro e w2 ⟨rfl, hM⟩
  have hw2 : w2.heap.size = w.heap.size + 1 := by have := hM.2.2; have := hz1.out; omega
  have hb2 := Hb1.out.grown hM.2.1 (by intro e; injection e with e; omega)
  have hg2 := grown_then Hg1.out hM.2.1
  have hc2 := hM.1
  clear hM
  rw [hk]
  have hA := World.grownBy_alloc w2 (.cells #[.int .i64 0, .string ⟨#[]⟩, .slice none 0 0] 25) (some R)
  have Hg3 := Lib.hid (grown_then hg2 hA)
  have Hb3 := Lib.hid (hb2.alloc (.cells #[.int .i64 0, .string ⟨#[]⟩, .slice none 0 0] 25))
  have Hc3 := Lib.hid (hc2.alloc (.cells #[.int .i64 0, .string ⟨#[]⟩, .slice none 0 0] 25))
  have he3 := BxE.new w2 0 ⟨#[]⟩ (.slice none 0 0) 25
  rw [hw2] at he3
  have He3 := Lib.hid he3
  have Hw3 := Lib.hid (show (w2.alloc (.cells #[.int .i64 0, .string ⟨#[]⟩, .slice none 0 0] 25)).heap.size = w.heap.size + 1 + 1 from by simp [hw2])
  have Hw2 := Lib.hid hw2
  have hll : l.length ≤ 1048576 := by have h1 := congrArg List.length Hl.out; have h2 := Hs2.out; rw [Array.length_toList, List.length_cons] at h1; have e : s.data.size = s.size := rfl; omega
  have hmn : m + 1 + n = 20 := by have := Hm.out; omega
  clear hb2 hg2 hc2 hA he3
  obtain ⟨x0, x1, x2, xf0, xf1, xf2, xl⟩ := Hb3.out.facts
  obtain ⟨y0, y1, y2, yf0, yf1, yf2, yl⟩ := He3.out.facts
  have Hk := Lib.hid hk
  clear hk
  go_upto_region 4 with (fail)
  generalize w2.alloc (.cells #[.int .i64 0, .string ⟨#[]⟩, .slice none 0 0] 25) = W3 at *
  clear Hw2 Hw3 hw2
  go_wp2_with fail
  refine bodyPost_ret (v := .tuple #[.agg #[.int .i64 0, .string ⟨#[]⟩, .slice none 0 0], .bool false]) (by simp [results, Try.results16, go_sem, *]) rfl ?_
  exact ⟨ex_grown0 Hg3.out (Nat.le_refl _), .inr ⟨0, ⟨#[]⟩, rfl, noRead_hd fun k hk e => by subst e; exact absurd Hk.out (by rcases hk with rfl | rfl | rfl | rfl | rfl | rfl | rfl <;> decide)⟩⟩

set_option maxRecDepth 100000 in
set_option maxHeartbeats 2000000 in
theorem ex_text (n : Nat) (R m : Nat) (s : ByteArray) (l : List UInt8) (w : World) (hc : Cur w R s m) (hl : s.data.toList = 39 :: l) (hs : s.size ≤ 1048576) (hm : m + (n + 1) = 20) :
    Calls Try.prog 16 #[.pointer (some ⟨R, 0, none⟩)] w (ExPost R (39 :: l) (n + 1) w) := by
  have hR := blk_lt hc
  have hc0 := hc.alloc (.cells #[.int .i64 0, .string .empty, .slice none 0 0] 25)
  have hb0 := BxE.new w 0 .empty (.slice none 0 0) 25
  have hg0 := World.grownBy_alloc w (.cells #[.int .i64 0, .string .empty, .slice none 0 0] 25) (some R)
  have hm20 : m + 1 ≤ 20 := by omega
  have hm1 : m ≤ 1000 := by omega
  have Hm := Lib.hid hm
  have Hl := Lib.hid hl
  have Hs := Lib.hid (show s.size ≤ maxLen from by unfold maxLen; omega)
  have Hs2 := Lib.hid hs
  clear hm hl hs
  go_enter Try.func16, Try.ntmps16
  go_wp2_with fail
  refine (admitC_any R m s _ hc0 hm1).mono ?_
  rintro e w1 ⟨rfl, hM⟩
  rw [decide_eq_true hm20]
  have Hc1 := Lib.hid hM.1
  have Hb1 := Lib.hid (hb0.grown hM.2.1 (by intro e; injection e with e; omega))
  have Hg1 := Lib.hid (grown_then hg0 hM.2.1)
  have hz1 : Hid (w1.heap.size = w.heap.size + 1) := Lib.hid (by have := hM.2.2; rw [World.size_alloc] at this; exact this)
  clear hM hc0 hb0 hg0
  go_wp2_with fail
  refine (kind_cons R (m + 1) s 39 l _ Hc1.out Hl.out Hs.out).mono ?_
  rintro e w2 ⟨rfl, hM⟩
  have hw2 : w2.heap.size = w.heap.size + 1 := by have := hM.2.2; have := hz1.out; omega
  have hb2 := Hb1.out.grown hM.2.1 (by intro e; injection e with e; omega)
  have hg2 := grown_then Hg1.out hM.2.1
  have hc2 := hM.1
  clear hM
  rw [show kindB 39 = 1 from rfl]
  have hA := World.grownBy_alloc w2 (.cells #[.int .i64 1, .string ⟨#[]⟩, .slice none 0 0] 25) (some R)
  have Hg3 := Lib.hid (grown_then hg2 hA)
  have Hb3 := Lib.hid (hb2.alloc (.cells #[.int .i64 1, .string ⟨#[]⟩, .slice none 0 0] 25))
  have Hc3 := Lib.hid (hc2.alloc (.cells #[.int .i64 1, .string ⟨#[]⟩, .slice none 0 0] 25))
  have he3 := BxE.new w2 1 ⟨#[]⟩ (.slice none 0 0) 25
  rw [hw2] at he3
  have He3 := Lib.hid he3
  have Hw3 := Lib.hid (show (w2.alloc (.cells #[.int .i64 1, .string ⟨#[]⟩, .slice none 0 0] 25)).heap.size = w.heap.size + 1 + 1 from by simp [hw2])
  have Hw2 := Lib.hid hw2
  have hll : l.length ≤ 1048576 := by have h1 := congrArg List.length Hl.out; have h2 := Hs2.out; rw [Array.length_toList, List.length_cons] at h1; have e : s.data.size = s.size := rfl; omega
  have hmn : m + 1 + n = 20 := by have := Hm.out; omega
  clear hb2 hg2 hc2 hA he3
  have H9 := Lib.hid hmn
  clear hmn
  go_wp2_with fail
  by_cases hq : (39 : UInt8) ∈ l
  · obtain ⟨x, y, hxy, hx⟩ := find_quote hq
    have Hxy := Lib.hid hxy
    clear hxy hq hw2
    refine (untilH R (m + 1) ⟨l.toArray⟩ x y _ Hc3.out (by rw [bdat]; exact Hxy.out) hx (by rw [bsz]; unfold maxLen; omega)).mono ?_
    rintro e w4 ⟨rfl, hc4, hg4⟩
    have Hc4 := Lib.hid hc4
    clear hc4
    obtain ⟨x0, x1, x2, xf0, xf1, xf2, xl⟩ := (Hb3.out.grown hg4 (by intro e; injection e with e; omega)).facts
    obtain ⟨y0, y1, y2, yf0, yf1, yf2, yl⟩ := (He3.out.grown hg4 (by intro e; injection e with e; omega)).facts
    have Hg4 := Lib.hid (grown_then Hg3.out hg4)
    clear hg4
    go_wp2_with fail
    refine bodyPost_ret (v := .tuple #[.agg #[.int .i64 1, .string ⟨x.toArray⟩, .slice none 0 0], .bool true]) (by simp [results, Try.results16, go_sem, *]) rfl ?_
    exact ⟨ex_grown Hg4.out (Nat.le_refl _) (by omega), .inl ⟨1, ⟨x.toArray⟩, .nil, none, 0, .nil, 0, y, rfl, cop_nil _ _, by rw [show 20 - (n + 1) + (Fo.nil.size + 1) = m + 1 from by have := H9.out; simp only [Fo.size]; omega]; exact ex_cur Hc4.out (by omega) (by omega), .inl ⟨rfl, rfl, by rw [bdat]; exact hx⟩, trivial, by rw [fm1_hd, Hxy.out]; simp [hdB, tlB], by simp only [Fo.size]; omega⟩⟩
  · have Hq := Lib.hid hq
    clear hq hw2
    refine (untilM R (m + 1) ⟨l.toArray⟩ _ Hc3.out (by rw [bdat]; exact Hq.out)).mono ?_
    rintro e w4 ⟨rfl, hg4⟩
    obtain ⟨x0, x1, x2, xf0, xf1, xf2, xl⟩ := (Hb3.out.grown hg4 (by intro e; injection e with e; omega)).facts
    obtain ⟨y0, y1, y2, yf0, yf1, yf2, yl⟩ := (He3.out.grown hg4 (by intro e; injection e with e; omega)).facts
    have Hg4 := Lib.hid (grown_then Hg3.out hg4)
    clear hg4
    go_wp2_with fail
    refine bodyPost_ret (v := .tuple #[.agg #[.int .i64 1, .string ⟨l.toArray⟩, .slice none 0 0], .bool false]) (by simp [results, Try.results16, go_sem, *]) rfl ?_
    exact ⟨ex_grown Hg4.out (Nat.le_refl _) (by omega), .inr ⟨1, ⟨l.toArray⟩, rfl, noRead_kids (K := 1) (fun k hk e => hd_k hk (by omega) e) fun s' ks tail _ _ e => absurd (show (39 : UInt8) ∈ l by rw [e]; simp [tlB]) Hq.out⟩⟩

set_option maxRecDepth 100000 in
set_option maxHeartbeats 2000000 in
theorem ex_join (n : Nat) (ih : ∀ n', n' ≤ n → ExC n') (R m : Nat) (s : ByteArray) (l : List UInt8) (w : World) (hc : Cur w R s m) (hl : s.data.toList = 40 :: l) (hs : s.size ≤ 1048576) (hm : m + (n + 1) = 20) :
    Calls Try.prog 16 #[.pointer (some ⟨R, 0, none⟩)] w (ExPost R (40 :: l) (n + 1) w) := by
  have hR := blk_lt hc
  have hc0 := hc.alloc (.cells #[.int .i64 0, .string .empty, .slice none 0 0] 25)
  have hb0 := BxE.new w 0 .empty (.slice none 0 0) 25
  have hg0 := World.grownBy_alloc w (.cells #[.int .i64 0, .string .empty, .slice none 0 0] 25) (some R)
  have hm20 : m + 1 ≤ 20 := by omega
  have hm1 : m ≤ 1000 := by omega
  have Hm := Lib.hid hm
  have Hl := Lib.hid hl
  have Hs := Lib.hid (show s.size ≤ maxLen from by unfold maxLen; omega)
  have Hs2 := Lib.hid hs
  clear hm hl hs
  go_enter Try.func16, Try.ntmps16
  go_wp2_with fail
  refine (admitC_any R m s _ hc0 hm1).mono ?_
  rintro e w1 ⟨rfl, hM⟩
  rw [decide_eq_true hm20]
  have Hc1 := Lib.hid hM.1
  have Hb1 := Lib.hid (hb0.grown hM.2.1 (by intro e; injection e with e; omega))
  have Hg1 := Lib.hid (grown_then hg0 hM.2.1)
  have hz1 : Hid (w1.heap.size = w.heap.size + 1) := Lib.hid (by have := hM.2.2; rw [World.size_alloc] at this; exact this)
  clear hM hc0 hb0 hg0
  go_wp2_with fail
  refine (kind_cons R (m + 1) s 40 l _ Hc1.out Hl.out Hs.out).mono ?_
  rintro e w2 ⟨rfl, hM⟩
  have hw2 : w2.heap.size = w.heap.size + 1 := by have := hM.2.2; have := hz1.out; omega
  have hb2 := Hb1.out.grown hM.2.1 (by intro e; injection e with e; omega)
  have hg2 := grown_then Hg1.out hM.2.1
  have hc2 := hM.1
  clear hM
  rw [show kindB 40 = 3 from rfl]
  have hA := World.grownBy_alloc w2 (.cells #[.int .i64 3, .string ⟨#[]⟩, .slice none 0 0] 25) (some R)
  have Hg3 := Lib.hid (grown_then hg2 hA)
  have Hb3 := Lib.hid (hb2.alloc (.cells #[.int .i64 3, .string ⟨#[]⟩, .slice none 0 0] 25))
  have Hc3 := Lib.hid (hc2.alloc (.cells #[.int .i64 3, .string ⟨#[]⟩, .slice none 0 0] 25))
  have he3 := BxE.new w2 3 ⟨#[]⟩ (.slice none 0 0) 25
  rw [hw2] at he3
  have He3 := Lib.hid he3
  have Hw3 := Lib.hid (show (w2.alloc (.cells #[.int .i64 3, .string ⟨#[]⟩, .slice none 0 0] 25)).heap.size = w.heap.size + 1 + 1 from by simp [hw2])
  have Hw2 := Lib.hid hw2
  have hll : l.length ≤ 1048576 := by have h1 := congrArg List.length Hl.out; have h2 := Hs2.out; rw [Array.length_toList, List.length_cons] at h1; have e : s.data.size = s.size := rfl; omega
  have hmn : m + 1 + n = 20 := by have := Hm.out; omega
  clear hb2 hg2 hc2 hA he3
  go_wp2_with fail
  clear hw2
  refine (ku_of n ih R (m + 1) ⟨l.toArray⟩ l _ Hc3.out (bdat l) (by rw [bsz]; exact hll) hmn).mono ?_
  rintro e w4 ⟨hg4, ⟨f, a, c, bk, g, tail, rfl, hcx, hcur, htx, htl, hfz⟩ | ⟨rfl, hno⟩⟩
  · have Hcx := Lib.hid hcx
    have Hcur := Lib.hid hcur
    have Htx := Lib.hid (And.intro htx htl)
    have H9 := Lib.hid hmn
    clear hcx hcur htx htl hmn
    obtain ⟨x0, x1, x2, xf0, xf1, xf2, xl⟩ := (Hb3.out.grown hg4 (by intro e; injection e with e; omega)).facts
    obtain ⟨y0, y1, y2, yf0, yf1, yf2, yl⟩ := (He3.out.grown hg4 (by intro e; injection e with e; omega)).facts
    have Hg4 := Lib.hid (grown_then Hg3.out hg4)
    clear hg4
    go_wp2_with fail
    refine bodyPost_ret (v := .tuple #[.agg #[.int .i64 3, .string ⟨#[]⟩, .slice a f.len c], .bool true]) (by simp [results, Try.results16, go_sem, *]) rfl ?_
    have hb3 := Hw3.out
    exact ⟨ex_grown Hg4.out (Nat.le_refl _) (by omega), .inl ⟨3, ⟨#[]⟩, f, a, c, bk, g, tail, rfl, ex_cop Hcx.out (by omega) (by omega) (by omega), by rw [show 20 - (n + 1) + (f.size + 1) = 20 - n + f.size from by have := H9.out; omega]; exact ex_cur Hcur.out (by omega) (by omega), .inr (.inl ⟨rfl, rfl⟩), Htx.out.1, by rw [fm1_hd, Htx.out.2]; simp [hdB, tlB], by omega⟩⟩
  · have Hno := Lib.hid hno
    clear hno
    obtain ⟨x0, x1, x2, xf0, xf1, xf2, xl⟩ := (Hb3.out.grown hg4 (by intro e; injection e with e; omega)).facts
    obtain ⟨y0, y1, y2, yf0, yf1, yf2, yl⟩ := (He3.out.grown hg4 (by intro e; injection e with e; omega)).facts
    have Hg4 := Lib.hid (grown_then Hg3.out hg4)
    clear hg4
    go_wp2_with fail
    refine bodyPost_ret (v := .tuple #[.agg #[.int .i64 3, .string ⟨#[]⟩, .slice none 0 0], .bool false]) (by simp [results, Try.results16, go_sem, *]) rfl ?_
    exact ⟨ex_grown Hg4.out (Nat.le_refl _) (by omega), .inr ⟨3, ⟨#[]⟩, rfl, noRead_kids (K := 3) (fun k hk e => hd_k hk (by omega) e) fun s' ks tail _ h2 e => Hno.out ks tail h2 (by rw [e]; simp [tlB])⟩⟩

set_option maxRecDepth 100000 in
set_option maxHeartbeats 2000000 in
theorem ex_same (n : Nat) (ih : ∀ n', n' ≤ n → ExC n') (R m : Nat) (s : ByteArray) (l : List UInt8) (w : World) (hc : Cur w R s m) (hl : s.data.toList = 91 :: l) (hs : s.size ≤ 1048576) (hm : m + (n + 1) = 20) :
    Calls Try.prog 16 #[.pointer (some ⟨R, 0, none⟩)] w (ExPost R (91 :: l) (n + 1) w) := by
  have hR := blk_lt hc
  have hc0 := hc.alloc (.cells #[.int .i64 0, .string .empty, .slice none 0 0] 25)
  have hb0 := BxE.new w 0 .empty (.slice none 0 0) 25
  have hg0 := World.grownBy_alloc w (.cells #[.int .i64 0, .string .empty, .slice none 0 0] 25) (some R)
  have hm20 : m + 1 ≤ 20 := by omega
  have hm1 : m ≤ 1000 := by omega
  have Hm := Lib.hid hm
  have Hl := Lib.hid hl
  have Hs := Lib.hid (show s.size ≤ maxLen from by unfold maxLen; omega)
  have Hs2 := Lib.hid hs
  clear hm hl hs
  go_enter Try.func16, Try.ntmps16
  go_wp2_with fail
  refine (admitC_any R m s _ hc0 hm1).mono ?_
  rintro e w1 ⟨rfl, hM⟩
  rw [decide_eq_true hm20]
  have Hc1 := Lib.hid hM.1
  have Hb1 := Lib.hid (hb0.grown hM.2.1 (by intro e; injection e with e; omega))
  have Hg1 := Lib.hid (grown_then hg0 hM.2.1)
  have hz1 : Hid (w1.heap.size = w.heap.size + 1) := Lib.hid (by have := hM.2.2; rw [World.size_alloc] at this; exact this)
  clear hM hc0 hb0 hg0
  go_wp2_with fail
  refine (kind_cons R (m + 1) s 91 l _ Hc1.out Hl.out Hs.out).mono ?_
  rintro e w2 ⟨rfl, hM⟩
  have hw2 : w2.heap.size = w.heap.size + 1 := by have := hM.2.2; have := hz1.out; omega
  have hb2 := Hb1.out.grown hM.2.1 (by intro e; injection e with e; omega)
  have hg2 := grown_then Hg1.out hM.2.1
  have hc2 := hM.1
  clear hM
  rw [show kindB 91 = 4 from rfl]
  have hA := World.grownBy_alloc w2 (.cells #[.int .i64 4, .string ⟨#[]⟩, .slice none 0 0] 25) (some R)
  have Hg3 := Lib.hid (grown_then hg2 hA)
  have Hb3 := Lib.hid (hb2.alloc (.cells #[.int .i64 4, .string ⟨#[]⟩, .slice none 0 0] 25))
  have Hc3 := Lib.hid (hc2.alloc (.cells #[.int .i64 4, .string ⟨#[]⟩, .slice none 0 0] 25))
  have he3 := BxE.new w2 4 ⟨#[]⟩ (.slice none 0 0) 25
  rw [hw2] at he3
  have He3 := Lib.hid he3
  have Hw3 := Lib.hid (show (w2.alloc (.cells #[.int .i64 4, .string ⟨#[]⟩, .slice none 0 0] 25)).heap.size = w.heap.size + 1 + 1 from by simp [hw2])
  have Hw2 := Lib.hid hw2
  have hll : l.length ≤ 1048576 := by have h1 := congrArg List.length Hl.out; have h2 := Hs2.out; rw [Array.length_toList, List.length_cons] at h1; have e : s.data.size = s.size := rfl; omega
  have hmn : m + 1 + n = 20 := by have := Hm.out; omega
  clear hb2 hg2 hc2 hA he3
  have hA4 := World.grownBy_alloc (w2.alloc (.cells #[.int .i64 4, .string ⟨#[]⟩, .slice none 0 0] 25)) (.cells #[.string ⟨#[61]⟩, .string ⟨#[63]⟩, .string ⟨#[58]⟩, .string ⟨#[93]⟩] 9) (some R)
  have Hg3 := Lib.hid (grown_then Hg3.out hA4)
  have Hb3 := Lib.hid (Hb3.out.alloc (.cells #[.string ⟨#[61]⟩, .string ⟨#[63]⟩, .string ⟨#[58]⟩, .string ⟨#[93]⟩] 9))
  have He3 := Lib.hid (He3.out.alloc (.cells #[.string ⟨#[61]⟩, .string ⟨#[63]⟩, .string ⟨#[58]⟩, .string ⟨#[93]⟩] 9))
  have Hc3 := Lib.hid (Hc3.out.alloc (.cells #[.string ⟨#[61]⟩, .string ⟨#[63]⟩, .string ⟨#[58]⟩, .string ⟨#[93]⟩] 9))
  have hms := heap_alloc_new (w2.alloc (.cells #[.int .i64 4, .string ⟨#[]⟩, .slice none 0 0] 25)) (.cells #[.string ⟨#[61]⟩, .string ⟨#[63]⟩, .string ⟨#[58]⟩, .string ⟨#[93]⟩] 9)
  rw [Hw3.out] at hms
  have Hms : Hid (∀ j u, ([[61], [63], [58], [93]] : List (List UInt8))[j]? = some u → ((w2.alloc (.cells #[.int .i64 4, .string ⟨#[]⟩, .slice none 0 0] 25)).alloc (.cells #[.string ⟨#[61]⟩, .string ⟨#[63]⟩, .string ⟨#[58]⟩, .string ⟨#[93]⟩] 9)).cell? ⟨w.heap.size + 1 + 1, j, none⟩ = some (.string ⟨u.toArray⟩)) := Lib.hid fun j u hu => by
    rw [cell_of_row _ _ _ _ _ _ hms]
    match j, hu with
    | 0, hu => cases hu; rfl
    | 1, hu => cases hu; rfl
    | 2, hu => cases hu; rfl
    | 3, hu => cases hu; rfl
    | j + 4, hu => simp at hu
  have Hw4 : Hid (((w2.alloc (.cells #[.int .i64 4, .string ⟨#[]⟩, .slice none 0 0] 25)).alloc (.cells #[.string ⟨#[61]⟩, .string ⟨#[63]⟩, .string ⟨#[58]⟩, .string ⟨#[93]⟩] 9)).heap.size = w.heap.size + 1 + 1 + 1) := Lib.hid (by rw [World.size_alloc, Hw3.out])
  have hx3 : w.heap.size + 1 + 1 < ((w2.alloc (.cells #[.int .i64 4, .string ⟨#[]⟩, .slice none 0 0] 25)).alloc (.cells #[.string ⟨#[61]⟩, .string ⟨#[63]⟩, .string ⟨#[58]⟩, .string ⟨#[93]⟩] 9)).heap.size := by have := Hw4.out; omega
  have H9 := Lib.hid hmn
  clear hms hA4 hmn
  go_wp2_with fail
  clear hw2
  refine (kb_of n ih R (m + 1) (w.heap.size + 1 + 1) ⟨l.toArray⟩ l [[61], [63], [58], [93]] _ Hc3.out (bdat l) (by rw [bsz]; exact hll) H9.out Hms.out hx3 (by omega) (by decide) (by decide)).mono ?_
  rintro e w4 ⟨hg4, ⟨f, a, c, bk, g, tail, rfl, hcx, hcur, htx, hfl, htl, hfz⟩ | ⟨rfl, hno⟩⟩
  · have Hcx := Lib.hid hcx
    have Hcur := Lib.hid hcur
    have Htx := Lib.hid (And.intro htx (And.intro hfl htl))
    clear hcx hcur htx htl hfl
    obtain ⟨x0, x1, x2, xf0, xf1, xf2, xl⟩ := (Hb3.out.grown hg4 (by intro e; injection e with e; omega)).facts
    obtain ⟨y0, y1, y2, yf0, yf1, yf2, yl⟩ := (He3.out.grown hg4 (by intro e; injection e with e; omega)).facts
    have Hg4 := Lib.hid (grown_then Hg3.out hg4)
    clear hg4
    go_wp2_with fail
    refine bodyPost_ret (v := .tuple #[.agg #[.int .i64 4, .string ⟨#[]⟩, .slice a f.len c], .bool true]) (by simp [results, Try.results16, go_sem, *]) rfl ?_
    have hb3 := Hw4.out
    exact ⟨ex_grown Hg4.out (Nat.le_refl _) (by omega), .inl ⟨4, ⟨#[]⟩, f, a, c, bk, g, tail, rfl, ex_cop Hcx.out (by omega) (by omega) (by omega), by rw [show 20 - (n + 1) + (f.size + 1) = 20 - n + f.size from by have := H9.out; omega]; exact ex_cur Hcur.out (by omega) (by omega), .inr (.inr (.inl ⟨rfl, Htx.out.2.1, rfl⟩)), Htx.out.1, by rw [fm1_hd, Htx.out.2.2]; simp [hdB, tlB], by omega⟩⟩
  · have Hno := Lib.hid hno
    clear hno
    obtain ⟨x0, x1, x2, xf0, xf1, xf2, xl⟩ := (Hb3.out.grown hg4 (by intro e; injection e with e; omega)).facts
    obtain ⟨y0, y1, y2, yf0, yf1, yf2, yl⟩ := (He3.out.grown hg4 (by intro e; injection e with e; omega)).facts
    have Hg4 := Lib.hid (grown_then Hg3.out hg4)
    clear hg4
    go_wp2_with fail
    refine bodyPost_ret (v := .tuple #[.agg #[.int .i64 4, .string ⟨#[]⟩, .slice none 0 0], .bool false]) (by simp [results, Try.results16, go_sem, *]) rfl ?_
    exact ⟨ex_grown Hg4.out (Nat.le_refl _) (by omega), .inr ⟨4, ⟨#[]⟩, rfl, noRead_kids (K := 4) (fun k hk e => hd_k hk (by omega) e) fun s' ks tail h1 h2 e => Hno.out ks tail h2 (by rcases h1 with ⟨h, _⟩ | ⟨h, _⟩ | ⟨_, h, _⟩ | ⟨h, _⟩ <;> first | exact h | omega) (by rw [e]; simp [tlB])⟩⟩

set_option maxRecDepth 100000 in
set_option maxHeartbeats 2000000 in
theorem ex_read (n : Nat) (ih : ∀ n', n' ≤ n → ExC n') (R m : Nat) (s : ByteArray) (l : List UInt8) (w : World) (hc : Cur w R s m) (hl : s.data.toList = 64 :: l) (hs : s.size ≤ 1048576) (hm : m + (n + 1) = 20) :
    Calls Try.prog 16 #[.pointer (some ⟨R, 0, none⟩)] w (ExPost R (64 :: l) (n + 1) w) := by
  have hR := blk_lt hc
  have hc0 := hc.alloc (.cells #[.int .i64 0, .string .empty, .slice none 0 0] 25)
  have hb0 := BxE.new w 0 .empty (.slice none 0 0) 25
  have hg0 := World.grownBy_alloc w (.cells #[.int .i64 0, .string .empty, .slice none 0 0] 25) (some R)
  have hm20 : m + 1 ≤ 20 := by omega
  have hm1 : m ≤ 1000 := by omega
  have Hm := Lib.hid hm
  have Hl := Lib.hid hl
  have Hs := Lib.hid (show s.size ≤ maxLen from by unfold maxLen; omega)
  have Hs2 := Lib.hid hs
  clear hm hl hs
  go_enter Try.func16, Try.ntmps16
  go_wp2_with fail
  refine (admitC_any R m s _ hc0 hm1).mono ?_
  rintro e w1 ⟨rfl, hM⟩
  rw [decide_eq_true hm20]
  have Hc1 := Lib.hid hM.1
  have Hb1 := Lib.hid (hb0.grown hM.2.1 (by intro e; injection e with e; omega))
  have Hg1 := Lib.hid (grown_then hg0 hM.2.1)
  have hz1 : Hid (w1.heap.size = w.heap.size + 1) := Lib.hid (by have := hM.2.2; rw [World.size_alloc] at this; exact this)
  clear hM hc0 hb0 hg0
  go_wp2_with fail
  refine (kind_cons R (m + 1) s 64 l _ Hc1.out Hl.out Hs.out).mono ?_
  rintro e w2 ⟨rfl, hM⟩
  have hw2 : w2.heap.size = w.heap.size + 1 := by have := hM.2.2; have := hz1.out; omega
  have hb2 := Hb1.out.grown hM.2.1 (by intro e; injection e with e; omega)
  have hg2 := grown_then Hg1.out hM.2.1
  have hc2 := hM.1
  clear hM
  rw [show kindB 64 = 2 from rfl]
  have hA := World.grownBy_alloc w2 (.cells #[.int .i64 2, .string ⟨#[]⟩, .slice none 0 0] 25) (some R)
  have Hg3 := Lib.hid (grown_then hg2 hA)
  have Hb3 := Lib.hid (hb2.alloc (.cells #[.int .i64 2, .string ⟨#[]⟩, .slice none 0 0] 25))
  have Hc3 := Lib.hid (hc2.alloc (.cells #[.int .i64 2, .string ⟨#[]⟩, .slice none 0 0] 25))
  have he3 := BxE.new w2 2 ⟨#[]⟩ (.slice none 0 0) 25
  rw [hw2] at he3
  have He3 := Lib.hid he3
  have Hw3 := Lib.hid (show (w2.alloc (.cells #[.int .i64 2, .string ⟨#[]⟩, .slice none 0 0] 25)).heap.size = w.heap.size + 1 + 1 from by simp [hw2])
  have Hw2 := Lib.hid hw2
  have hll : l.length ≤ 1048576 := by have h1 := congrArg List.length Hl.out; have h2 := Hs2.out; rw [Array.length_toList, List.length_cons] at h1; have e : s.data.size = s.size := rfl; omega
  have hmn : m + 1 + n = 20 := by have := Hm.out; omega
  clear hb2 hg2 hc2 hA he3
  have hA4 := World.grownBy_alloc (w2.alloc (.cells #[.int .i64 2, .string ⟨#[]⟩, .slice none 0 0] 25)) (.cells #[.string ⟨#[]⟩] 9) (some R)
  have Hg3 := Lib.hid (grown_then Hg3.out hA4)
  have Hb3 := Lib.hid (Hb3.out.alloc (.cells #[.string ⟨#[]⟩] 9))
  have He3 := Lib.hid (He3.out.alloc (.cells #[.string ⟨#[]⟩] 9))
  have Hc3 := Lib.hid (Hc3.out.alloc (.cells #[.string ⟨#[]⟩] 9))
  have hms := heap_alloc_new (w2.alloc (.cells #[.int .i64 2, .string ⟨#[]⟩, .slice none 0 0] 25)) (.cells #[.string ⟨#[]⟩] 9)
  rw [Hw3.out] at hms
  have Hms : Hid (∀ j u, ([[]] : List (List UInt8))[j]? = some u → ((w2.alloc (.cells #[.int .i64 2, .string ⟨#[]⟩, .slice none 0 0] 25)).alloc (.cells #[.string ⟨#[]⟩] 9)).cell? ⟨w.heap.size + 1 + 1, j, none⟩ = some (.string ⟨u.toArray⟩)) := Lib.hid fun j u hu => by
    rw [cell_of_row _ _ _ _ _ _ hms]
    match j, hu with
    | 0, hu => cases hu; rfl
    | j + 1, hu => simp at hu
  have Hw4 : Hid (((w2.alloc (.cells #[.int .i64 2, .string ⟨#[]⟩, .slice none 0 0] 25)).alloc (.cells #[.string ⟨#[]⟩] 9)).heap.size = w.heap.size + 1 + 1 + 1) := Lib.hid (by rw [World.size_alloc, Hw3.out])
  have hx3 : w.heap.size + 1 + 1 < ((w2.alloc (.cells #[.int .i64 2, .string ⟨#[]⟩, .slice none 0 0] 25)).alloc (.cells #[.string ⟨#[]⟩] 9)).heap.size := by have := Hw4.out; omega
  have H9 := Lib.hid hmn
  clear hms hA4 hmn
  go_wp2_with fail
  clear hw2
  refine (kb_of n ih R (m + 1) (w.heap.size + 1 + 1) ⟨l.toArray⟩ l [[]] _ Hc3.out (bdat l) (by rw [bsz]; exact hll) H9.out Hms.out hx3 (by omega) (by decide) (by decide)).mono ?_
  rintro e w4 ⟨hg4, ⟨f, a, c, bk, g, tail, rfl, hcx, hcur, htx, hfl, htl, hfz⟩ | ⟨rfl, hno⟩⟩
  · have Hcx := Lib.hid hcx
    have Hcur := Lib.hid hcur
    have Htx := Lib.hid (And.intro htx (And.intro hfl htl))
    clear hcx hcur htx htl hfl
    obtain ⟨x0, x1, x2, xf0, xf1, xf2, xl⟩ := (Hb3.out.grown hg4 (by intro e; injection e with e; omega)).facts
    obtain ⟨y0, y1, y2, yf0, yf1, yf2, yl⟩ := (He3.out.grown hg4 (by intro e; injection e with e; omega)).facts
    have Hg4 := Lib.hid (grown_then Hg3.out hg4)
    clear hg4
    go_wp2_with fail
    refine bodyPost_ret (v := .tuple #[.agg #[.int .i64 2, .string ⟨#[]⟩, .slice a f.len c], .bool true]) (by simp [results, Try.results16, go_sem, *]) rfl ?_
    have hb3 := Hw4.out
    exact ⟨ex_grown Hg4.out (Nat.le_refl _) (by omega), .inl ⟨2, ⟨#[]⟩, f, a, c, bk, g, tail, rfl, ex_cop Hcx.out (by omega) (by omega) (by omega), by rw [show 20 - (n + 1) + (f.size + 1) = 20 - n + f.size from by have := H9.out; omega]; exact ex_cur Hcur.out (by omega) (by omega), .inr (.inr (.inr ⟨by omega, Htx.out.2.1, rfl⟩)), Htx.out.1, by rw [fm1_hd, Htx.out.2.2]; rw [tlB_op (by omega), fmS_empties]; simp [hdB, chrB], by omega⟩⟩
  · have Hno := Lib.hid hno
    clear hno
    obtain ⟨x0, x1, x2, xf0, xf1, xf2, xl⟩ := (Hb3.out.grown hg4 (by intro e; injection e with e; omega)).facts
    obtain ⟨y0, y1, y2, yf0, yf1, yf2, yl⟩ := (He3.out.grown hg4 (by intro e; injection e with e; omega)).facts
    have Hg4 := Lib.hid (grown_then Hg3.out hg4)
    clear hg4
    go_wp2_with fail
    refine bodyPost_ret (v := .tuple #[.agg #[.int .i64 2, .string ⟨#[]⟩, .slice none 0 0], .bool false]) (by simp [results, Try.results16, go_sem, *]) rfl ?_
    exact ⟨ex_grown Hg4.out (Nat.le_refl _) (by omega), .inr ⟨2, ⟨#[]⟩, rfl, noRead_kids (K := 2) (fun k hk e => hd_k hk (by omega) e) fun s' ks tail h1 h2 e => Hno.out ks tail h2 (txN_op (by omega) h1).1 (by rw [e, tlB_op (by omega), fmS_empties])⟩⟩

set_option maxRecDepth 100000 in
set_option maxHeartbeats 2000000 in
theorem ex_first (n : Nat) (ih : ∀ n', n' ≤ n → ExC n') (R m : Nat) (s : ByteArray) (l : List UInt8) (w : World) (hc : Cur w R s m) (hl : s.data.toList = 60 :: l) (hs : s.size ≤ 1048576) (hm : m + (n + 1) = 20) :
    Calls Try.prog 16 #[.pointer (some ⟨R, 0, none⟩)] w (ExPost R (60 :: l) (n + 1) w) := by
  have hR := blk_lt hc
  have hc0 := hc.alloc (.cells #[.int .i64 0, .string .empty, .slice none 0 0] 25)
  have hb0 := BxE.new w 0 .empty (.slice none 0 0) 25
  have hg0 := World.grownBy_alloc w (.cells #[.int .i64 0, .string .empty, .slice none 0 0] 25) (some R)
  have hm20 : m + 1 ≤ 20 := by omega
  have hm1 : m ≤ 1000 := by omega
  have Hm := Lib.hid hm
  have Hl := Lib.hid hl
  have Hs := Lib.hid (show s.size ≤ maxLen from by unfold maxLen; omega)
  have Hs2 := Lib.hid hs
  clear hm hl hs
  go_enter Try.func16, Try.ntmps16
  go_wp2_with fail
  refine (admitC_any R m s _ hc0 hm1).mono ?_
  rintro e w1 ⟨rfl, hM⟩
  rw [decide_eq_true hm20]
  have Hc1 := Lib.hid hM.1
  have Hb1 := Lib.hid (hb0.grown hM.2.1 (by intro e; injection e with e; omega))
  have Hg1 := Lib.hid (grown_then hg0 hM.2.1)
  have hz1 : Hid (w1.heap.size = w.heap.size + 1) := Lib.hid (by have := hM.2.2; rw [World.size_alloc] at this; exact this)
  clear hM hc0 hb0 hg0
  go_wp2_with fail
  refine (kind_cons R (m + 1) s 60 l _ Hc1.out Hl.out Hs.out).mono ?_
  rintro e w2 ⟨rfl, hM⟩
  have hw2 : w2.heap.size = w.heap.size + 1 := by have := hM.2.2; have := hz1.out; omega
  have hb2 := Hb1.out.grown hM.2.1 (by intro e; injection e with e; omega)
  have hg2 := grown_then Hg1.out hM.2.1
  have hc2 := hM.1
  clear hM
  rw [show kindB 60 = 5 from rfl]
  have hA := World.grownBy_alloc w2 (.cells #[.int .i64 5, .string ⟨#[]⟩, .slice none 0 0] 25) (some R)
  have Hg3 := Lib.hid (grown_then hg2 hA)
  have Hb3 := Lib.hid (hb2.alloc (.cells #[.int .i64 5, .string ⟨#[]⟩, .slice none 0 0] 25))
  have Hc3 := Lib.hid (hc2.alloc (.cells #[.int .i64 5, .string ⟨#[]⟩, .slice none 0 0] 25))
  have he3 := BxE.new w2 5 ⟨#[]⟩ (.slice none 0 0) 25
  rw [hw2] at he3
  have He3 := Lib.hid he3
  have Hw3 := Lib.hid (show (w2.alloc (.cells #[.int .i64 5, .string ⟨#[]⟩, .slice none 0 0] 25)).heap.size = w.heap.size + 1 + 1 from by simp [hw2])
  have Hw2 := Lib.hid hw2
  have hll : l.length ≤ 1048576 := by have h1 := congrArg List.length Hl.out; have h2 := Hs2.out; rw [Array.length_toList, List.length_cons] at h1; have e : s.data.size = s.size := rfl; omega
  have hmn : m + 1 + n = 20 := by have := Hm.out; omega
  clear hb2 hg2 hc2 hA he3
  have hA4 := World.grownBy_alloc (w2.alloc (.cells #[.int .i64 5, .string ⟨#[]⟩, .slice none 0 0] 25)) (.cells #[.string ⟨#[]⟩] 9) (some R)
  have Hg3 := Lib.hid (grown_then Hg3.out hA4)
  have Hb3 := Lib.hid (Hb3.out.alloc (.cells #[.string ⟨#[]⟩] 9))
  have He3 := Lib.hid (He3.out.alloc (.cells #[.string ⟨#[]⟩] 9))
  have Hc3 := Lib.hid (Hc3.out.alloc (.cells #[.string ⟨#[]⟩] 9))
  have hms := heap_alloc_new (w2.alloc (.cells #[.int .i64 5, .string ⟨#[]⟩, .slice none 0 0] 25)) (.cells #[.string ⟨#[]⟩] 9)
  rw [Hw3.out] at hms
  have Hms : Hid (∀ j u, ([[]] : List (List UInt8))[j]? = some u → ((w2.alloc (.cells #[.int .i64 5, .string ⟨#[]⟩, .slice none 0 0] 25)).alloc (.cells #[.string ⟨#[]⟩] 9)).cell? ⟨w.heap.size + 1 + 1, j, none⟩ = some (.string ⟨u.toArray⟩)) := Lib.hid fun j u hu => by
    rw [cell_of_row _ _ _ _ _ _ hms]
    match j, hu with
    | 0, hu => cases hu; rfl
    | j + 1, hu => simp at hu
  have Hw4 : Hid (((w2.alloc (.cells #[.int .i64 5, .string ⟨#[]⟩, .slice none 0 0] 25)).alloc (.cells #[.string ⟨#[]⟩] 9)).heap.size = w.heap.size + 1 + 1 + 1) := Lib.hid (by rw [World.size_alloc, Hw3.out])
  have hx3 : w.heap.size + 1 + 1 < ((w2.alloc (.cells #[.int .i64 5, .string ⟨#[]⟩, .slice none 0 0] 25)).alloc (.cells #[.string ⟨#[]⟩] 9)).heap.size := by have := Hw4.out; omega
  have H9 := Lib.hid hmn
  clear hms hA4 hmn
  go_wp2_with fail
  clear hw2
  refine (kb_of n ih R (m + 1) (w.heap.size + 1 + 1) ⟨l.toArray⟩ l [[]] _ Hc3.out (bdat l) (by rw [bsz]; exact hll) H9.out Hms.out hx3 (by omega) (by decide) (by decide)).mono ?_
  rintro e w4 ⟨hg4, ⟨f, a, c, bk, g, tail, rfl, hcx, hcur, htx, hfl, htl, hfz⟩ | ⟨rfl, hno⟩⟩
  · have Hcx := Lib.hid hcx
    have Hcur := Lib.hid hcur
    have Htx := Lib.hid (And.intro htx (And.intro hfl htl))
    clear hcx hcur htx htl hfl
    obtain ⟨x0, x1, x2, xf0, xf1, xf2, xl⟩ := (Hb3.out.grown hg4 (by intro e; injection e with e; omega)).facts
    obtain ⟨y0, y1, y2, yf0, yf1, yf2, yl⟩ := (He3.out.grown hg4 (by intro e; injection e with e; omega)).facts
    have Hg4 := Lib.hid (grown_then Hg3.out hg4)
    clear hg4
    go_wp2_with fail
    refine bodyPost_ret (v := .tuple #[.agg #[.int .i64 5, .string ⟨#[]⟩, .slice a f.len c], .bool true]) (by simp [results, Try.results16, go_sem, *]) rfl ?_
    have hb3 := Hw4.out
    exact ⟨ex_grown Hg4.out (Nat.le_refl _) (by omega), .inl ⟨5, ⟨#[]⟩, f, a, c, bk, g, tail, rfl, ex_cop Hcx.out (by omega) (by omega) (by omega), by rw [show 20 - (n + 1) + (f.size + 1) = 20 - n + f.size from by have := H9.out; omega]; exact ex_cur Hcur.out (by omega) (by omega), .inr (.inr (.inr ⟨by omega, Htx.out.2.1, rfl⟩)), Htx.out.1, by rw [fm1_hd, Htx.out.2.2]; rw [tlB_op (by omega), fmS_empties]; simp [hdB, chrB], by omega⟩⟩
  · have Hno := Lib.hid hno
    clear hno
    obtain ⟨x0, x1, x2, xf0, xf1, xf2, xl⟩ := (Hb3.out.grown hg4 (by intro e; injection e with e; omega)).facts
    obtain ⟨y0, y1, y2, yf0, yf1, yf2, yl⟩ := (He3.out.grown hg4 (by intro e; injection e with e; omega)).facts
    have Hg4 := Lib.hid (grown_then Hg3.out hg4)
    clear hg4
    go_wp2_with fail
    refine bodyPost_ret (v := .tuple #[.agg #[.int .i64 5, .string ⟨#[]⟩, .slice none 0 0], .bool false]) (by simp [results, Try.results16, go_sem, *]) rfl ?_
    exact ⟨ex_grown Hg4.out (Nat.le_refl _) (by omega), .inr ⟨5, ⟨#[]⟩, rfl, noRead_kids (K := 5) (fun k hk e => hd_k hk (by omega) e) fun s' ks tail h1 h2 e => Hno.out ks tail h2 (txN_op (by omega) h1).1 (by rw [e, tlB_op (by omega), fmS_empties])⟩⟩

set_option maxRecDepth 100000 in
set_option maxHeartbeats 2000000 in
theorem ex_rest (n : Nat) (ih : ∀ n', n' ≤ n → ExC n') (R m : Nat) (s : ByteArray) (l : List UInt8) (w : World) (hc : Cur w R s m) (hl : s.data.toList = 62 :: l) (hs : s.size ≤ 1048576) (hm : m + (n + 1) = 20) :
    Calls Try.prog 16 #[.pointer (some ⟨R, 0, none⟩)] w (ExPost R (62 :: l) (n + 1) w) := by
  have hR := blk_lt hc
  have hc0 := hc.alloc (.cells #[.int .i64 0, .string .empty, .slice none 0 0] 25)
  have hb0 := BxE.new w 0 .empty (.slice none 0 0) 25
  have hg0 := World.grownBy_alloc w (.cells #[.int .i64 0, .string .empty, .slice none 0 0] 25) (some R)
  have hm20 : m + 1 ≤ 20 := by omega
  have hm1 : m ≤ 1000 := by omega
  have Hm := Lib.hid hm
  have Hl := Lib.hid hl
  have Hs := Lib.hid (show s.size ≤ maxLen from by unfold maxLen; omega)
  have Hs2 := Lib.hid hs
  clear hm hl hs
  go_enter Try.func16, Try.ntmps16
  go_wp2_with fail
  refine (admitC_any R m s _ hc0 hm1).mono ?_
  rintro e w1 ⟨rfl, hM⟩
  rw [decide_eq_true hm20]
  have Hc1 := Lib.hid hM.1
  have Hb1 := Lib.hid (hb0.grown hM.2.1 (by intro e; injection e with e; omega))
  have Hg1 := Lib.hid (grown_then hg0 hM.2.1)
  have hz1 : Hid (w1.heap.size = w.heap.size + 1) := Lib.hid (by have := hM.2.2; rw [World.size_alloc] at this; exact this)
  clear hM hc0 hb0 hg0
  go_wp2_with fail
  refine (kind_cons R (m + 1) s 62 l _ Hc1.out Hl.out Hs.out).mono ?_
  rintro e w2 ⟨rfl, hM⟩
  have hw2 : w2.heap.size = w.heap.size + 1 := by have := hM.2.2; have := hz1.out; omega
  have hb2 := Hb1.out.grown hM.2.1 (by intro e; injection e with e; omega)
  have hg2 := grown_then Hg1.out hM.2.1
  have hc2 := hM.1
  clear hM
  rw [show kindB 62 = 6 from rfl]
  have hA := World.grownBy_alloc w2 (.cells #[.int .i64 6, .string ⟨#[]⟩, .slice none 0 0] 25) (some R)
  have Hg3 := Lib.hid (grown_then hg2 hA)
  have Hb3 := Lib.hid (hb2.alloc (.cells #[.int .i64 6, .string ⟨#[]⟩, .slice none 0 0] 25))
  have Hc3 := Lib.hid (hc2.alloc (.cells #[.int .i64 6, .string ⟨#[]⟩, .slice none 0 0] 25))
  have he3 := BxE.new w2 6 ⟨#[]⟩ (.slice none 0 0) 25
  rw [hw2] at he3
  have He3 := Lib.hid he3
  have Hw3 := Lib.hid (show (w2.alloc (.cells #[.int .i64 6, .string ⟨#[]⟩, .slice none 0 0] 25)).heap.size = w.heap.size + 1 + 1 from by simp [hw2])
  have Hw2 := Lib.hid hw2
  have hll : l.length ≤ 1048576 := by have h1 := congrArg List.length Hl.out; have h2 := Hs2.out; rw [Array.length_toList, List.length_cons] at h1; have e : s.data.size = s.size := rfl; omega
  have hmn : m + 1 + n = 20 := by have := Hm.out; omega
  clear hb2 hg2 hc2 hA he3
  have hA4 := World.grownBy_alloc (w2.alloc (.cells #[.int .i64 6, .string ⟨#[]⟩, .slice none 0 0] 25)) (.cells #[.string ⟨#[]⟩] 9) (some R)
  have Hg3 := Lib.hid (grown_then Hg3.out hA4)
  have Hb3 := Lib.hid (Hb3.out.alloc (.cells #[.string ⟨#[]⟩] 9))
  have He3 := Lib.hid (He3.out.alloc (.cells #[.string ⟨#[]⟩] 9))
  have Hc3 := Lib.hid (Hc3.out.alloc (.cells #[.string ⟨#[]⟩] 9))
  have hms := heap_alloc_new (w2.alloc (.cells #[.int .i64 6, .string ⟨#[]⟩, .slice none 0 0] 25)) (.cells #[.string ⟨#[]⟩] 9)
  rw [Hw3.out] at hms
  have Hms : Hid (∀ j u, ([[]] : List (List UInt8))[j]? = some u → ((w2.alloc (.cells #[.int .i64 6, .string ⟨#[]⟩, .slice none 0 0] 25)).alloc (.cells #[.string ⟨#[]⟩] 9)).cell? ⟨w.heap.size + 1 + 1, j, none⟩ = some (.string ⟨u.toArray⟩)) := Lib.hid fun j u hu => by
    rw [cell_of_row _ _ _ _ _ _ hms]
    match j, hu with
    | 0, hu => cases hu; rfl
    | j + 1, hu => simp at hu
  have Hw4 : Hid (((w2.alloc (.cells #[.int .i64 6, .string ⟨#[]⟩, .slice none 0 0] 25)).alloc (.cells #[.string ⟨#[]⟩] 9)).heap.size = w.heap.size + 1 + 1 + 1) := Lib.hid (by rw [World.size_alloc, Hw3.out])
  have hx3 : w.heap.size + 1 + 1 < ((w2.alloc (.cells #[.int .i64 6, .string ⟨#[]⟩, .slice none 0 0] 25)).alloc (.cells #[.string ⟨#[]⟩] 9)).heap.size := by have := Hw4.out; omega
  have H9 := Lib.hid hmn
  clear hms hA4 hmn
  go_wp2_with fail
  clear hw2
  refine (kb_of n ih R (m + 1) (w.heap.size + 1 + 1) ⟨l.toArray⟩ l [[]] _ Hc3.out (bdat l) (by rw [bsz]; exact hll) H9.out Hms.out hx3 (by omega) (by decide) (by decide)).mono ?_
  rintro e w4 ⟨hg4, ⟨f, a, c, bk, g, tail, rfl, hcx, hcur, htx, hfl, htl, hfz⟩ | ⟨rfl, hno⟩⟩
  · have Hcx := Lib.hid hcx
    have Hcur := Lib.hid hcur
    have Htx := Lib.hid (And.intro htx (And.intro hfl htl))
    clear hcx hcur htx htl hfl
    obtain ⟨x0, x1, x2, xf0, xf1, xf2, xl⟩ := (Hb3.out.grown hg4 (by intro e; injection e with e; omega)).facts
    obtain ⟨y0, y1, y2, yf0, yf1, yf2, yl⟩ := (He3.out.grown hg4 (by intro e; injection e with e; omega)).facts
    have Hg4 := Lib.hid (grown_then Hg3.out hg4)
    clear hg4
    go_wp2_with fail
    refine bodyPost_ret (v := .tuple #[.agg #[.int .i64 6, .string ⟨#[]⟩, .slice a f.len c], .bool true]) (by simp [results, Try.results16, go_sem, *]) rfl ?_
    have hb3 := Hw4.out
    exact ⟨ex_grown Hg4.out (Nat.le_refl _) (by omega), .inl ⟨6, ⟨#[]⟩, f, a, c, bk, g, tail, rfl, ex_cop Hcx.out (by omega) (by omega) (by omega), by rw [show 20 - (n + 1) + (f.size + 1) = 20 - n + f.size from by have := H9.out; omega]; exact ex_cur Hcur.out (by omega) (by omega), .inr (.inr (.inr ⟨by omega, Htx.out.2.1, rfl⟩)), Htx.out.1, by rw [fm1_hd, Htx.out.2.2]; rw [tlB_op (by omega), fmS_empties]; simp [hdB, chrB], by omega⟩⟩
  · have Hno := Lib.hid hno
    clear hno
    obtain ⟨x0, x1, x2, xf0, xf1, xf2, xl⟩ := (Hb3.out.grown hg4 (by intro e; injection e with e; omega)).facts
    obtain ⟨y0, y1, y2, yf0, yf1, yf2, yl⟩ := (He3.out.grown hg4 (by intro e; injection e with e; omega)).facts
    have Hg4 := Lib.hid (grown_then Hg3.out hg4)
    clear hg4
    go_wp2_with fail
    refine bodyPost_ret (v := .tuple #[.agg #[.int .i64 6, .string ⟨#[]⟩, .slice none 0 0], .bool false]) (by simp [results, Try.results16, go_sem, *]) rfl ?_
    exact ⟨ex_grown Hg4.out (Nat.le_refl _) (by omega), .inr ⟨6, ⟨#[]⟩, rfl, noRead_kids (K := 6) (fun k hk e => hd_k hk (by omega) e) fun s' ks tail h1 h2 e => Hno.out ks tail h2 (txN_op (by omega) h1).1 (by rw [e, tlB_op (by omega), fmS_empties])⟩⟩

set_option maxRecDepth 100000 in
set_option maxHeartbeats 2000000 in
theorem ex_count (n : Nat) (ih : ∀ n', n' ≤ n → ExC n') (R m : Nat) (s : ByteArray) (l : List UInt8) (w : World) (hc : Cur w R s m) (hl : s.data.toList = 35 :: l) (hs : s.size ≤ 1048576) (hm : m + (n + 1) = 20) :
    Calls Try.prog 16 #[.pointer (some ⟨R, 0, none⟩)] w (ExPost R (35 :: l) (n + 1) w) := by
  have hR := blk_lt hc
  have hc0 := hc.alloc (.cells #[.int .i64 0, .string .empty, .slice none 0 0] 25)
  have hb0 := BxE.new w 0 .empty (.slice none 0 0) 25
  have hg0 := World.grownBy_alloc w (.cells #[.int .i64 0, .string .empty, .slice none 0 0] 25) (some R)
  have hm20 : m + 1 ≤ 20 := by omega
  have hm1 : m ≤ 1000 := by omega
  have Hm := Lib.hid hm
  have Hl := Lib.hid hl
  have Hs := Lib.hid (show s.size ≤ maxLen from by unfold maxLen; omega)
  have Hs2 := Lib.hid hs
  clear hm hl hs
  go_enter Try.func16, Try.ntmps16
  go_wp2_with fail
  refine (admitC_any R m s _ hc0 hm1).mono ?_
  rintro e w1 ⟨rfl, hM⟩
  rw [decide_eq_true hm20]
  have Hc1 := Lib.hid hM.1
  have Hb1 := Lib.hid (hb0.grown hM.2.1 (by intro e; injection e with e; omega))
  have Hg1 := Lib.hid (grown_then hg0 hM.2.1)
  have hz1 : Hid (w1.heap.size = w.heap.size + 1) := Lib.hid (by have := hM.2.2; rw [World.size_alloc] at this; exact this)
  clear hM hc0 hb0 hg0
  go_wp2_with fail
  refine (kind_cons R (m + 1) s 35 l _ Hc1.out Hl.out Hs.out).mono ?_
  rintro e w2 ⟨rfl, hM⟩
  have hw2 : w2.heap.size = w.heap.size + 1 := by have := hM.2.2; have := hz1.out; omega
  have hb2 := Hb1.out.grown hM.2.1 (by intro e; injection e with e; omega)
  have hg2 := grown_then Hg1.out hM.2.1
  have hc2 := hM.1
  clear hM
  rw [show kindB 35 = 7 from rfl]
  have hA := World.grownBy_alloc w2 (.cells #[.int .i64 7, .string ⟨#[]⟩, .slice none 0 0] 25) (some R)
  have Hg3 := Lib.hid (grown_then hg2 hA)
  have Hb3 := Lib.hid (hb2.alloc (.cells #[.int .i64 7, .string ⟨#[]⟩, .slice none 0 0] 25))
  have Hc3 := Lib.hid (hc2.alloc (.cells #[.int .i64 7, .string ⟨#[]⟩, .slice none 0 0] 25))
  have he3 := BxE.new w2 7 ⟨#[]⟩ (.slice none 0 0) 25
  rw [hw2] at he3
  have He3 := Lib.hid he3
  have Hw3 := Lib.hid (show (w2.alloc (.cells #[.int .i64 7, .string ⟨#[]⟩, .slice none 0 0] 25)).heap.size = w.heap.size + 1 + 1 from by simp [hw2])
  have Hw2 := Lib.hid hw2
  have hll : l.length ≤ 1048576 := by have h1 := congrArg List.length Hl.out; have h2 := Hs2.out; rw [Array.length_toList, List.length_cons] at h1; have e : s.data.size = s.size := rfl; omega
  have hmn : m + 1 + n = 20 := by have := Hm.out; omega
  clear hb2 hg2 hc2 hA he3
  have hA4 := World.grownBy_alloc (w2.alloc (.cells #[.int .i64 7, .string ⟨#[]⟩, .slice none 0 0] 25)) (.cells #[.string ⟨#[]⟩] 9) (some R)
  have Hg3 := Lib.hid (grown_then Hg3.out hA4)
  have Hb3 := Lib.hid (Hb3.out.alloc (.cells #[.string ⟨#[]⟩] 9))
  have He3 := Lib.hid (He3.out.alloc (.cells #[.string ⟨#[]⟩] 9))
  have Hc3 := Lib.hid (Hc3.out.alloc (.cells #[.string ⟨#[]⟩] 9))
  have hms := heap_alloc_new (w2.alloc (.cells #[.int .i64 7, .string ⟨#[]⟩, .slice none 0 0] 25)) (.cells #[.string ⟨#[]⟩] 9)
  rw [Hw3.out] at hms
  have Hms : Hid (∀ j u, ([[]] : List (List UInt8))[j]? = some u → ((w2.alloc (.cells #[.int .i64 7, .string ⟨#[]⟩, .slice none 0 0] 25)).alloc (.cells #[.string ⟨#[]⟩] 9)).cell? ⟨w.heap.size + 1 + 1, j, none⟩ = some (.string ⟨u.toArray⟩)) := Lib.hid fun j u hu => by
    rw [cell_of_row _ _ _ _ _ _ hms]
    match j, hu with
    | 0, hu => cases hu; rfl
    | j + 1, hu => simp at hu
  have Hw4 : Hid (((w2.alloc (.cells #[.int .i64 7, .string ⟨#[]⟩, .slice none 0 0] 25)).alloc (.cells #[.string ⟨#[]⟩] 9)).heap.size = w.heap.size + 1 + 1 + 1) := Lib.hid (by rw [World.size_alloc, Hw3.out])
  have hx3 : w.heap.size + 1 + 1 < ((w2.alloc (.cells #[.int .i64 7, .string ⟨#[]⟩, .slice none 0 0] 25)).alloc (.cells #[.string ⟨#[]⟩] 9)).heap.size := by have := Hw4.out; omega
  have H9 := Lib.hid hmn
  clear hms hA4 hmn
  go_wp2_with fail
  clear hw2
  refine (kb_of n ih R (m + 1) (w.heap.size + 1 + 1) ⟨l.toArray⟩ l [[]] _ Hc3.out (bdat l) (by rw [bsz]; exact hll) H9.out Hms.out hx3 (by omega) (by decide) (by decide)).mono ?_
  rintro e w4 ⟨hg4, ⟨f, a, c, bk, g, tail, rfl, hcx, hcur, htx, hfl, htl, hfz⟩ | ⟨rfl, hno⟩⟩
  · have Hcx := Lib.hid hcx
    have Hcur := Lib.hid hcur
    have Htx := Lib.hid (And.intro htx (And.intro hfl htl))
    clear hcx hcur htx htl hfl
    obtain ⟨x0, x1, x2, xf0, xf1, xf2, xl⟩ := (Hb3.out.grown hg4 (by intro e; injection e with e; omega)).facts
    obtain ⟨y0, y1, y2, yf0, yf1, yf2, yl⟩ := (He3.out.grown hg4 (by intro e; injection e with e; omega)).facts
    have Hg4 := Lib.hid (grown_then Hg3.out hg4)
    clear hg4
    go_wp2_with fail
    refine bodyPost_ret (v := .tuple #[.agg #[.int .i64 7, .string ⟨#[]⟩, .slice a f.len c], .bool true]) (by simp [results, Try.results16, go_sem, *]) rfl ?_
    have hb3 := Hw4.out
    exact ⟨ex_grown Hg4.out (Nat.le_refl _) (by omega), .inl ⟨7, ⟨#[]⟩, f, a, c, bk, g, tail, rfl, ex_cop Hcx.out (by omega) (by omega) (by omega), by rw [show 20 - (n + 1) + (f.size + 1) = 20 - n + f.size from by have := H9.out; omega]; exact ex_cur Hcur.out (by omega) (by omega), .inr (.inr (.inr ⟨by omega, Htx.out.2.1, rfl⟩)), Htx.out.1, by rw [fm1_hd, Htx.out.2.2]; rw [tlB_op (by omega), fmS_empties]; simp [hdB, chrB], by omega⟩⟩
  · have Hno := Lib.hid hno
    clear hno
    obtain ⟨x0, x1, x2, xf0, xf1, xf2, xl⟩ := (Hb3.out.grown hg4 (by intro e; injection e with e; omega)).facts
    obtain ⟨y0, y1, y2, yf0, yf1, yf2, yl⟩ := (He3.out.grown hg4 (by intro e; injection e with e; omega)).facts
    have Hg4 := Lib.hid (grown_then Hg3.out hg4)
    clear hg4
    go_wp2_with fail
    refine bodyPost_ret (v := .tuple #[.agg #[.int .i64 7, .string ⟨#[]⟩, .slice none 0 0], .bool false]) (by simp [results, Try.results16, go_sem, *]) rfl ?_
    exact ⟨ex_grown Hg4.out (Nat.le_refl _) (by omega), .inr ⟨7, ⟨#[]⟩, rfl, noRead_kids (K := 7) (fun k hk e => hd_k hk (by omega) e) fun s' ks tail h1 h2 e => Hno.out ks tail h2 (txN_op (by omega) h1).1 (by rw [e, tlB_op (by omega), fmS_empties])⟩⟩

theorem ex_all (N : Nat) : ∀ n, n ≤ N → ExC n := by
  induction N with
  | zero => intro n hn; obtain rfl : n = 0 := by omega
            exact ex_zero
  | succ N ih =>
    intro n hn
    by_cases h0 : n = 0
    · subst h0; exact ex_zero
    obtain ⟨n', rfl⟩ : ∃ n', n = n' + 1 := ⟨n - 1, by omega⟩
    have ih' : ∀ n2, n2 ≤ n' → ExC n2 := fun n2 h => ih n2 (by omega)
    intro R m s l w hc hl hs hm
    cases l with
    | nil => exact ex_nil n' R m s w hc hl hs hm
    | cons c l =>
      by_cases h1 : c = 39
      · subst h1; exact ex_text n' R m s l w hc hl hs hm
      by_cases h2 : c = 64
      · subst h2; exact ex_read n' ih' R m s l w hc hl hs hm
      by_cases h3 : c = 40
      · subst h3; exact ex_join n' ih' R m s l w hc hl hs hm
      by_cases h4 : c = 91
      · subst h4; exact ex_same n' ih' R m s l w hc hl hs hm
      by_cases h5 : c = 60
      · subst h5; exact ex_first n' ih' R m s l w hc hl hs hm
      by_cases h6 : c = 62
      · subst h6; exact ex_rest n' ih' R m s l w hc hl hs hm
      by_cases h7 : c = 35
      · subst h7; exact ex_count n' ih' R m s l w hc hl hs hm
      exact ex_other n' R m s c l w hc hl hs hm (by unfold kindB; rw [if_neg h1, if_neg h2, if_neg h3, if_neg h4, if_neg h5, if_neg h6, if_neg h7])
end Go.Proofs.Ytecekkmagldpoaa
