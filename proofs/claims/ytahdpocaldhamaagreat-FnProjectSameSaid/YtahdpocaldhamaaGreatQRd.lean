/-
  The random source of the laws: what 'pick' and 'of' answer, and what they leave.
-/
import Derived.Test.YtahdpocaldhamaaGreatGone
import Derived.Test.YtahdpocaldhamaaGreatProg
import Derived.Deep.QuietTactic
import Derived.BigQuiet
import Derived.IntWalk
import Derived.Laws.BitsAllLaws
import Derived.Laws.BitsLemmas
namespace Go.Proofs.YtahdpocaldhamaaGreat
set_option linter.unusedVariables false
open Go.RowKit

/-- the slice at a of n bytes is readable below block B -/
def BytesAt (w : World) (B : Nat) (a : Option Addr) (n : Nat) : Prop :=
  0 < n → ∃ b off, a = some ⟨b, off, none⟩ ∧ b < B ∧ ∀ i, i < n → ∃ z : Int, 0 ≤ z ∧ z ≤ 255 ∧ w.cell? ⟨b, off + i, none⟩ = some (.int .u8 z)

/-- block R is a reader: its bytes (at most 2000) lie below B, it has been asked p times -/
structure Rd (w : World) (B R : Nat) (a : Option Addr) (n c p : Nat) : Prop where
  le : B ≤ R
  bytes : BytesAt w B a n
  small : n ≤ 2000
  b : w.cell? ⟨R, 0, none⟩ = some (.slice a n c)
  p : w.cell? ⟨R, 1, none⟩ = some (.int .i64 p)
  fb : w.frozen? ⟨R, 0, none⟩ = false
  fp : w.frozen? ⟨R, 1, none⟩ = false
  two : ∀ i, w.cell? ⟨R, i + 2, none⟩ = none

theorem ofInt_i64 (a : Nat) (ha : a < 9223372036854775808) : (BitVec.ofInt 64 (a : Int)).toNat = a := by
  rw [BitVec.ofInt_natCast, BitVec.toNat_ofNat]; exact Nat.mod_eq_of_lt (by omega)
theorem i64_xor_nat (a b : Nat) (ha : a < 9223372036854775808) (hb : b < 9223372036854775808) : bits .xor .i64 (a : Int) (b : Int) = ((a ^^^ b : Nat) : Int) := by
  have hx : a ^^^ b < 2 ^ 63 := Nat.xor_lt_two_pow (by omega) (by omega)
  show IntKind.i64.wrap ((BitVec.ofInt 64 (a : Int) ^^^ BitVec.ofInt 64 (b : Int)).toNat : Int) = _
  rw [BitVec.toNat_xor, ofInt_i64 a ha, ofInt_i64 b hb, IntKind.wrap_i64]
  omega
theorem xor_pos (a b : Int) (ha : 0 ≤ a) (hb : 0 ≤ b) (ha2 : a ≤ 1099511627776) (hb2 : b ≤ 1099511627776) : 0 ≤ bits .xor .i64 a b := by
  obtain ⟨x, rfl⟩ := Int.eq_ofNat_of_zero_le ha
  obtain ⟨y, rfl⟩ := Int.eq_ofNat_of_zero_le hb
  rw [i64_xor_nat x y (by omega) (by omega)]
  exact Int.natCast_nonneg _

/-- what pick leaves: a number below m, the reader asked once more -/
def PickPost (m : Int) (R p : Nat) (w : World) (e : Ending) (w' : World) : Prop :=
  (∃ x : Int, e = .returned (.int .i64 x) ∧ 0 ≤ x ∧ (1 ≤ m → x < m) ∧ (m < 1 → x = 0)) ∧ ∃ k, w' = (w.setCell ⟨R, 1, none⟩ (.int .i64 ((p : Int) + 1))).drewN k

theorem tmod_nat (p n : Nat) : (p : Int).tmod (n : Int) = ((p % n : Nat) : Int) := rfl
theorem tdiv_nat (p n : Nat) : (p : Int).tdiv (n : Int) = ((p / n : Nat) : Int) := rfl

set_option maxHeartbeats 1000000 in
theorem pick_far (n c p b off R r1 r2 d : Nat) (m z1 z2 : Int) (w : World) (hn : n ≤ 2000) (hn0 : 0 < n) (hp : p ≤ 1073741824) (hm1 : 1 ≤ m) (hm2 : m ≤ 1048576) (hnp : n ≤ p) (hbR : b < R)
    (hr1 : r1 < n) (hr2 : r2 < n) (hd : d ≤ 1073741824) (e1 : (p : Int).tmod n = (r1 : Int)) (e2 : ((p : Int) * 7 + 3).tmod n = (r2 : Int)) (e3 : (p : Int).tdiv n = (d : Int))
    (hb : w.cell? ⟨R, 0, none⟩ = some (.slice (some ⟨b, off, none⟩) n c)) (hpc : w.cell? ⟨R, 1, none⟩ = some (.int .i64 p)) (hf : w.frozen? ⟨R, 1, none⟩ = false)
    (h1 : w.cell? ⟨b, off + r1, none⟩ = some (.int .u8 z1)) (h2 : w.cell? ⟨b, off + r2, none⟩ = some (.int .u8 z2)) (h10 : 0 ≤ z1) (h11 : z1 ≤ 255) (h20 : 0 ≤ z2) (h21 : z2 ≤ 255) :
    Calls Tryz.prog 24 #[.pointer (some ⟨R, 0, none⟩), .int .i64 m] w fun e w' =>
      PickPost m R p w e w' := by
  have hz : ((n : Int) == 0) = false := by simp; omega
  have hm0 : decide (m < 1) = false := by simp; omega
  have g1 : (w.setCell ⟨R, 1, none⟩ (.int .i64 ((p : Int) + 1))).cell? ⟨b, off + r1, none⟩ = some (.int .u8 z1) := (World.cell?_setCell_other w _ _ _ (by simp; try omega)).trans h1
  have g2 : (w.setCell ⟨R, 1, none⟩ (.int .i64 ((p : Int) + 1))).cell? ⟨b, off + r2, none⟩ = some (.int .u8 z2) := (World.cell?_setCell_other w _ _ _ (by simp; try omega)).trans h2
  have hlt : ¬ p < n := by omega
  have hn1 : ¬ n = 0 := by omega
  have hn2 : ((n : Int) = 0) = False := by simp; omega
  have hr1' : (r1 : Int) < (n : Int) := by omega
  have hr2' : (r2 : Int) < (n : Int) := by omega
  have i1 : IntKind.i64.wrap (z1 * 131) = z1 * 131 := IntWalk.i64_in _ (by omega)
  have i2 : IntKind.i64.wrap ((p : Int) * 7) = (p : Int) * 7 := IntWalk.i64_in _ (by omega)
  have i3 : IntKind.i64.wrap ((p : Int) * 7 + 3) = (p : Int) * 7 + 3 := IntWalk.i64_in _ (by omega)
  have i4 : IntKind.i64.wrap (z2 * 1117) = z2 * 1117 := IntWalk.i64_in _ (by omega)
  have i5 : IntKind.i64.wrap (z1 * 131 + z2 * 1117) = z1 * 131 + z2 * 1117 := IntWalk.i64_in _ (by omega)
  have i6 : IntKind.i64.wrap ((p : Int) * 29) = (p : Int) * 29 := IntWalk.i64_in _ (by omega)
  have i7 : IntKind.i64.wrap (z1 * 131 + z2 * 1117 + (p : Int) * 29) = z1 * 131 + z2 * 1117 + (p : Int) * 29 := IntWalk.i64_in _ (by omega)
  have i8 : IntKind.i64.wrap ((d : Int) * 53) = (d : Int) * 53 := IntWalk.i64_in _ (by omega)
  have i9 : IntKind.i64.wrap (z1 * 131 + z2 * 1117 + (p : Int) * 29 + (d : Int) * 53) = z1 * 131 + z2 * 1117 + (p : Int) * 29 + (d : Int) * 53 := IntWalk.i64_in _ (by omega)
  have j1 : IntKind.i64.wrap z1 = z1 := IntWalk.i64_in _ (by omega)
  have j2 : IntKind.i64.wrap z2 = z2 := IntWalk.i64_in _ (by omega)
  have j3 : IntKind.i64.wrap (r1 : Int) = (r1 : Int) := IntWalk.i64_in _ (by omega)
  have j4 : IntKind.i64.wrap (r2 : Int) = (r2 : Int) := IntWalk.i64_in _ (by omega)
  have j5 : IntKind.i64.wrap (d : Int) = (d : Int) := IntWalk.i64_in _ (by omega)
  go_enter Tryz.func24, Tryz.ntmps24
  go_wp2_with fail
  go_quiet (fail)
  go_wp2
  go_ret
  exact ⟨⟨_, rfl, Int.tmod_nonneg _ (xor_pos _ _ (by omega) (by omega) (by omega) (by omega)), fun _ => Int.tmod_lt_of_pos _ (by omega), fun h => absurd h (by omega)⟩, _, rfl⟩

set_option maxHeartbeats 1000000 in
theorem pick_near (n c p b off R : Nat) (m z1 : Int) (w : World) (hn : n ≤ 2000) (hp : p ≤ 1073741824) (hm1 : 1 ≤ m) (hm2 : m ≤ 1048576) (hnp : p < n) (hbR : b < R)
    (hb : w.cell? ⟨R, 0, none⟩ = some (.slice (some ⟨b, off, none⟩) n c)) (hpc : w.cell? ⟨R, 1, none⟩ = some (.int .i64 p)) (hf : w.frozen? ⟨R, 1, none⟩ = false)
    (h1 : w.cell? ⟨b, off + p, none⟩ = some (.int .u8 z1)) (h10 : 0 ≤ z1) (h11 : z1 ≤ 255) :
    Calls Tryz.prog 24 #[.pointer (some ⟨R, 0, none⟩), .int .i64 m] w fun e w' =>
      PickPost m R p w e w' := by
  have hz : ((n : Int) == 0) = false := by simp; omega
  have hm0 : decide (m < 1) = false := by simp; omega
  have g1 : (w.setCell ⟨R, 1, none⟩ (.int .i64 ((p : Int) + 1))).cell? ⟨b, off + p, none⟩ = some (.int .u8 z1) := (World.cell?_setCell_other w _ _ _ (by simp; try omega)).trans h1
  have hnp' : (p : Int) < (n : Int) := by omega
  have hm3 : (m = 0) = False := by simp; omega
  go_enter Tryz.func24, Tryz.ntmps24
  go_wp2
  go_ret
  exact ⟨⟨_, rfl, Int.emod_nonneg _ (by omega), fun _ => Int.emod_lt_of_pos _ (by omega), fun h => absurd h (by omega)⟩, 0, rfl⟩

set_option maxHeartbeats 1000000 in
theorem pick_low (n c p R : Nat) (a : Option Addr) (m : Int) (w : World) (hp : p ≤ 1073741824) (hm1 : m < 1)
    (hb : w.cell? ⟨R, 0, none⟩ = some (.slice a n c)) (hpc : w.cell? ⟨R, 1, none⟩ = some (.int .i64 p)) (hf : w.frozen? ⟨R, 1, none⟩ = false) :
    Calls Tryz.prog 24 #[.pointer (some ⟨R, 0, none⟩), .int .i64 m] w fun e w' =>
      PickPost m R p w e w' := by
  have hm0 : decide (m < 1) = true := by simp; omega
  go_enter Tryz.func24, Tryz.ntmps24
  go_wp2
  go_ret
  exact ⟨⟨_, rfl, by omega, fun h => absurd h (by omega), fun _ => rfl⟩, 0, rfl⟩

set_option maxHeartbeats 1000000 in
theorem pick_none (c p R : Nat) (a : Option Addr) (m : Int) (w : World) (hp : p ≤ 1073741824) (hm1 : 1 ≤ m)
    (hb : w.cell? ⟨R, 0, none⟩ = some (.slice a 0 c)) (hpc : w.cell? ⟨R, 1, none⟩ = some (.int .i64 p)) (hf : w.frozen? ⟨R, 1, none⟩ = false) :
    Calls Tryz.prog 24 #[.pointer (some ⟨R, 0, none⟩), .int .i64 m] w fun e w' =>
      PickPost m R p w e w' := by
  have hm0 : decide (m < 1) = false := by simp; omega
  go_enter Tryz.func24, Tryz.ntmps24
  go_wp2
  go_ret
  exact ⟨⟨_, rfl, by omega, fun _ => by omega, fun h => absurd h (by omega)⟩, 0, rfl⟩

theorem pick_any {n c p B R : Nat} {a : Option Addr} {m : Int} {w : World} (h : Rd w B R a n c p) (hp : p ≤ 1073741824) (hm : m ≤ 1048576) :
    Calls Tryz.prog 24 #[.pointer (some ⟨R, 0, none⟩), .int .i64 m] w fun e w' => PickPost m R p w e w' := by
  by_cases h1 : m < 1
  · exact pick_low n c p R a m w hp h1 h.b h.p h.fp
  by_cases h0 : n = 0
  · subst h0
    exact pick_none c p R a m w hp (by omega) h.b h.p h.fp
  obtain ⟨b, off, rfl, hb, hz⟩ := h.bytes (by omega)
  have hle := h.le
  by_cases hnp : p < n
  · obtain ⟨z1, h10, h11, hc⟩ := hz p hnp
    exact pick_near n c p b off R m z1 w h.small hp (by omega) hm hnp (by omega) h.b h.p h.fp hc h10 h11
  · have k1 : p % n < n := Nat.mod_lt _ (by omega)
    have k2 : (p * 7 + 3) % n < n := Nat.mod_lt _ (by omega)
    obtain ⟨z1, h10, h11, hc1⟩ := hz _ k1
    obtain ⟨z2, h20, h21, hc2⟩ := hz _ k2
    have hd : p / n ≤ p := Nat.div_le_self _ _
    exact pick_far n c p b off R _ _ _ m z1 z2 w h.small (by omega) hp (by omega) hm (by omega) (by omega) k1 k2 (by omega) (tmod_nat p n) (by exact_mod_cast tmod_nat (p * 7 + 3) n) (tdiv_nat p n) h.b h.p h.fp hc1 hc2 h10 h11 h20 h21

/-- what a drawing function leaves: the reader, asked at most k times more; of what was there only the reader has turned -/
structure Step (w w' : World) (B R : Nat) (a : Option Addr) (n c p q k : Nat) : Prop where
  rd : Rd w' B R a n c q
  lo : p ≤ q
  hi : q ≤ p + k
  grown : w.grownBy w' (some R)
  lt : R < w.heap.size

section
variable {w w' w'' : World} {B R n c p q r k l : Nat} {a : Option Addr}
theorem BytesAt.keep (h : BytesAt w B a n) (hk : ∀ i : Addr, i.block < B → w'.cell? i = w.cell? i) : BytesAt w' B a n := fun hn => by
  obtain ⟨b, off, ha, hb, hz⟩ := h hn
  refine ⟨b, off, ha, hb, fun i hi => ?_⟩
  obtain ⟨z, h0, h1, hc⟩ := hz i hi
  exact ⟨z, h0, h1, (hk ⟨b, off + i, none⟩ hb).trans hc⟩
theorem Rd.lt (h : Rd w B R a n c p) : R < w.heap.size := World.block_lt_of_cell? w _ h.b
/-- a reader stays a reader where its block and what lies below stay -/
theorem Rd.keep (h : Rd w B R a n c p) (hk : ∀ i, w'.cell? ⟨R, i, none⟩ = w.cell? ⟨R, i, none⟩) (hf : ∀ i, w'.frozen? ⟨R, i, none⟩ = w.frozen? ⟨R, i, none⟩) (hb : ∀ i : Addr, i.block < B → w'.cell? i = w.cell? i) : Rd w' B R a n c p :=
  ⟨h.le, h.bytes.keep hb, h.small, (hk 0).trans h.b, (hk 1).trans h.p, (hf 0).trans h.fb, (hf 1).trans h.fp, fun i => (hk (i + 2)).trans (h.two i)⟩
theorem Rd.below (h : Rd w B R a n c p) {D : Nat} (hb : Below D w w') (hR : R < D) : Rd w' B R a n c p :=
  h.keep (fun i => hb.cell (p := ⟨R, i, none⟩) hR) (fun i => hb.frozen (p := ⟨R, i, none⟩) hR) (fun i hi => hb.cell (by have := h.le; omega))
theorem Rd.alloc (h : Rd w B R a n c p) (o : Obj) : Rd (w.alloc o) B R a n c p := h.below (D := w.heap.size) ((Below.refl _ _).alloc (Nat.le_refl _) o) h.lt
theorem Rd.drewN (h : Rd w B R a n c p) (k : Nat) : Rd (w.drewN k) B R a n c p := ⟨h.le, h.bytes, h.small, h.b, h.p, h.fb, h.fp, h.two⟩
/-- the reader asked once -/
theorem Rd.asked (h : Rd w B R a n c p) : Rd (w.setCell ⟨R, 1, none⟩ (.int .i64 ((p : Int) + 1))) B R a n c (p + 1) :=
  ⟨h.le, h.bytes.keep fun i hi => World.cell?_setCell_other w _ _ _ (by rintro rfl; have := h.le; simp at hi; omega), h.small,
    (World.cell?_setCell_other w _ _ _ (by simp)).trans h.b, by rw [World.cell?_setCell_same' _ _ _ (by rw [h.p]; rfl)]; rfl, by rw [World.frozen?_setCell]; exact h.fb, by rw [World.frozen?_setCell]; exact h.fp, fun i => (World.cell?_setCell_other w _ _ _ (by simp)).trans (h.two i)⟩

theorem Rd.made (T : TypeId) (hb : BytesAt w w.heap.size a n) (hs : n ≤ 2000) : Rd (w.alloc (.cells #[.slice a n c, .int .i64 0] T)) w.heap.size w.heap.size a n c 0 :=
  ⟨Nat.le_refl _, hb.keep fun i hi => World.cell?_alloc_lt w _ i hi, hs, by rw [cell_of_row _ _ _ _ _ _ (heap_alloc_new w _)]; rfl, by rw [cell_of_row _ _ _ _ _ _ (heap_alloc_new w _)]; rfl,
    blk_frozen (heap_alloc_new w _) 0, blk_frozen (heap_alloc_new w _) 1, fun i => by rw [cell_of_row _ _ _ _ _ _ (heap_alloc_new w _)]; rfl⟩
theorem BytesAt.fewer {m : Nat} (h : BytesAt w B a n) (hm : m ≤ n) : BytesAt w B a m := fun hn => by
  obtain ⟨b, off, ha, hb, hz⟩ := h (by omega)
  exact ⟨b, off, ha, hb, fun i hi => hz i (by omega)⟩

theorem grown_below {row : Option Nat} (h : w.grownBy w' row) (hb : Below w'.heap.size w' w'') : w.grownBy w'' row :=
  ⟨hb.os.trans h.os, hb.tape.trans h.tape, hb.output.trans h.output, Nat.le_trans h.size hb.size, fun i hi hne => (hb.block i (Nat.lt_of_lt_of_le hi h.size)).trans (h.block i hi hne)⟩
theorem grown_trans {row : Option Nat} (h : w.grownBy w' row) (k : w'.grownBy w'' row) : w.grownBy w'' row :=
  ⟨k.os.trans h.os, k.tape.trans h.tape, k.output.trans h.output, Nat.le_trans h.size k.size, fun i hi hne => (k.block i (Nat.lt_of_lt_of_le hi h.size) hne).trans (h.block i hi hne)⟩

theorem Step.refl (h : Rd w B R a n c p) : Step w w B R a n c p p 0 := ⟨h, Nat.le_refl _, Nat.le_refl _, World.grownBy.refl w _, h.lt⟩
theorem Step.trans (h : Step w w' B R a n c p q k) (h' : Step w' w'' B R a n c q r l) : Step w w'' B R a n c p r (k + l) :=
  ⟨h'.rd, by have := h.lo; have := h'.lo; omega, by have := h.hi; have := h'.hi; omega, grown_trans h.grown h'.grown, h.lt⟩
theorem Step.more (h : Step w w' B R a n c p q k) (hl : k ≤ l) : Step w w' B R a n c p q l := ⟨h.rd, h.lo, by have := h.hi; omega, h.grown, h.lt⟩
theorem Step.alloc (h : Step w w' B R a n c p q k) (o : Obj) : Step w (w'.alloc o) B R a n c p q k := ⟨h.rd.alloc o, h.lo, h.hi, grown_alloc h.grown o, h.lt⟩
theorem Step.drewN (h : Step w w' B R a n c p q k) (m : Nat) : Step w (w'.drewN m) B R a n c p q k := ⟨h.rd.drewN m, h.lo, h.hi, grown_drewN h.grown m, h.lt⟩
theorem Step.below (h : Step w w' B R a n c p q k) (hb : Below w'.heap.size w' w'') : Step w w'' B R a n c p q k :=
  ⟨h.rd.below hb h.rd.lt, h.lo, h.hi, grown_below h.grown hb, h.lt⟩
theorem Step.pick (h : Rd w B R a n c p) (j : Nat) : Step w ((w.setCell ⟨R, 1, none⟩ (.int .i64 ((p : Int) + 1))).drewN j) B R a n c p (p + 1) 1 :=
  ⟨h.asked.drewN j, by omega, by omega, grown_drewN (grown_set (World.grownBy.refl w _) (.inl rfl) _) j, h.lt⟩
/-- what lay below the reader's block number .. stays -/
theorem Step.cell (h : Step w w' B R a n c p q k) {i : Addr} (hi : i.block < w.heap.size) (hne : i.block ≠ R) : w'.cell? i = w.cell? i :=
  World.cell?_of_block (h.grown.block i.block hi (fun e => hne (by injection e)))
theorem Step.toBelow (h : Step w w' B R a n c p q k) {D : Nat} (hD : D ≤ R) (hs : D ≤ w.heap.size) : Below D w w' :=
  (Below.refl D w).grown h.grown hs (fun k e => by injection e with e; omega)
/-- a list of files that is readable stays so where the reader is asked -/
theorem FilesAt.step {b : Option Addr} {m : Nat} {fs : List Fl} (h : FilesAt w w.heap.size b m fs) (hr : Rd w B R a n c p) (hs : Step w w' B R a n c p q k) : FilesAt w' w'.heap.size b m fs := by
  refine ⟨h.1, fun hm => ?_⟩
  obtain ⟨g, off, hb, hg, hc⟩ := h.2 hm
  have hne : g ≠ R := by
    rintro rfl
    obtain ⟨g2, off2, p2, t2, e, _, _, h1, _⟩ := h.get hm
    rw [hb] at e
    simp only [Option.some.injEq, Addr.mk.injEq, and_true] at e
    obtain ⟨rfl, rfl⟩ := e
    match off, h1 with
    | 0, h1 => rw [show (0 + 0 * 2 : Nat) = 0 from rfl, hr.b] at h1; simp at h1
    | 1, h1 => rw [show (1 + 0 * 2 : Nat) = 1 from rfl, hr.p] at h1; simp at h1
    | i + 2, h1 => rw [show (i + 2 + 0 * 2 : Nat) = i + 2 from by omega, hr.two] at h1; simp at h1
  exact ⟨g, off, hb, Nat.lt_of_lt_of_le hg hs.grown.size, fun j u hu => (hs.cell (i := ⟨g, off + j, none⟩) hg hne).trans (hc j u hu)⟩
end

/-- pick, for its callers: a number below m, a step of the reader -/
def PickS (m : Int) (w : World) (B R : Nat) (a : Option Addr) (n c p : Nat) (e : Ending) (w' : World) : Prop :=
  (∃ x : Nat, e = .returned (.int .i64 (x : Int)) ∧ (1 ≤ m → (x : Int) < m) ∧ (m < 1 → x = 0)) ∧ Step w w' B R a n c p (p + 1) 1
theorem pick_step {n c p B R : Nat} {a : Option Addr} {m : Int} {w : World} (h : Rd w B R a n c p) (hp : p ≤ 1073741824) (hm : m ≤ 1048576) :
    Calls Tryz.prog 24 #[.pointer (some ⟨R, 0, none⟩), .int .i64 m] w fun e w' => PickS m w B R a n c p e w' := by
  refine (pick_any h hp hm).mono ?_
  rintro e w1 ⟨⟨x, rfl, h0, hlt, hz⟩, k, rfl⟩
  obtain ⟨x, rfl⟩ := Int.eq_ofNat_of_zero_le h0
  exact ⟨⟨x, rfl, hlt, fun h => by have := hz h; omega⟩, Step.pick h k⟩
end Go.Proofs.YtahdpocaldhamaaGreat
