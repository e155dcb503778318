/-
  The reference's reading of an expression: l2Quote, l2Four, l2Join, l2Parse.
-/
import Derived.Test.YtecekkmagldpoaaGone
import Derived.Deep.DeepCutAuto
import Derived.Deep.QuietTactic
import Derived.BigQuiet
namespace Go.Proofs.Ytecekkmagldpoaa
set_option linter.unusedVariables false
set_option linter.unusedSimpArgs false
open Go.RowKit

/-- what a reader of the reference leaves -/
def RdPost (s : ByteArray) (at_ d : Nat) (W : Int → ByteArray → Fo → Int → Prop) (w : World) (e : Ending) (w' : World) : Prop :=
  ∃ k s' ks a c next, e = .returned (.tuple #[.agg #[.int .i64 k, .string s', .slice a (Fo.len ks) c], .int .i64 next]) ∧ Below w.heap.size w w' ∧ KP w' w.heap.size w'.heap.size ks a ks.len ∧ ks.len ≤ c ∧ NOk d k s' ks ∧ -1 ≤ next ∧ next ≤ s.size ∧ (0 ≤ next → at_ < next) ∧ W k s' ks next
def LpC (d : Nat) : Prop := ∀ (s : ByteArray) (at_ : Nat) (w : World), s.size ≤ 1048576 → at_ ≤ s.size →
  Calls Try.prog 23 #[.string s, .int .i64 at_, .int .i64 d] w (RdPost s at_ d (Want (s.data.toList.drop at_) d at_) w)
theorem take_more {l : List UInt8} {j : Nat} {c : UInt8} (h : l[j]? = some c) {x : UInt8} (h1 : x ∉ l.take j) (h2 : c ≠ x) : x ∉ l.take (j + 1) := by
  rw [List.take_add_one, h]
  simp only [Option.toList_some, List.mem_append, List.mem_singleton]
  rintro (h3 | h3)
  · exact h1 h3
  · exact h2 h3.symm
theorem bget {s : ByteArray} {j : Nat} (h : j < s.size) : s.data.toList[j]? = some s[j] := by
  have hl : j < s.data.toList.length := by rw [Array.length_toList]; exact h
  rw [List.getElem?_eq_getElem hl]
  congr 1
theorem ext_mid {s : ByteArray} {i j : Nat} (h : i ≤ j) (hj : j ≤ s.size) : s.extract i j = ⟨((s.data.toList.drop i).take (j - i)).toArray⟩ := by
  refine ba_ext ?_
  rw [ByteArray.data_extract, Array.toList_extract, List.extract_eq_take_drop]
theorem bsz (l : List UInt8) : (⟨l.toArray⟩ : ByteArray).size = l.length := by show l.toArray.size = _; simp
theorem take_drop_quote {s : ByteArray} {i j : Nat} (h : i ≤ j) (hj : j < s.size) (hq : s[j] = 39) : s.data.toList.drop i = (s.data.toList.drop i).take (j - i) ++ 39 :: s.data.toList.drop (j + 1) := by
  have hl : j < s.data.toList.length := by rw [Array.length_toList]; exact hj
  have h1 : s.data.toList.drop j = 39 :: s.data.toList.drop (j + 1) := by
    rw [List.drop_eq_getElem_cons hl]
    have := bget hj
    rw [List.getElem?_eq_getElem hl] at this
    rw [Option.some.inj this, hq]
  rw [← h1, show j = i + (j - i) from by omega, ← List.drop_drop, show i + (j - i) - i = j - i from by omega, List.take_append_drop]
theorem rd_set {w w4 : World} {B : Nat} {x y z : Value} (hB : Below w.heap.size w w4) (hb : w.heap.size ≤ B) : Below w.heap.size w (((w4.setCell ⟨B, 0, none⟩ x).setCell ⟨B, 1, none⟩ y).setCell ⟨B, 2, none⟩ z) := ((hB.setCell hb _).setCell hb _).setCell hb _

set_option maxHeartbeats 1000000 in
theorem quoteS_any (s : ByteArray) (at_ d : Nat) (w : World) (hs : s.size ≤ 1048576) (ha : at_ < s.size) :
    Calls Try.prog 39 #[.string s, .int .i64 at_] w (RdPost s at_ d (Want (39 :: s.data.toList.drop (at_ + 1)) d at_) w) := by
  have hb0 := BxE.new w 0 .empty (.slice none 0 0) 25
  have hA := (Below.refl w.heap.size w).alloc (Nat.le_refl _) (.cells #[.int .i64 0, .string .empty, .slice none 0 0] 25)
  have ha1 : (at_ : Int) + 1 ≤ (s.size : Int) := by omega
  have ha0 : (0 : Int) ≤ (at_ : Int) := by omega
  have HA := Lib.hid hA
  have Hb0 := Lib.hid hb0
  clear hb0 hA
  go_enter Try.func39, Try.ntmps39
  go_wp2_with fail
  go_loop [6] (fun i => ∃ j : Nat, at_ + 1 ≤ j ∧ j ≤ s.size ∧ i = .int .i64 j ∧ (39 : UInt8) ∉ (s.data.toList.drop (at_ + 1)).take (j - (at_ + 1))) (fun i => s.size - (intOf i).toNat)
  case atStart => exact ⟨at_ + 1, Nat.le_refl _, by omega, by go_num, by simp⟩
  case round =>
    obtain ⟨j, hj1, hj2, rfl, hno⟩ := hrel
    have Hno := Lib.hid hno
    obtain ⟨x0, x1, x2, xf0, xf1, xf2, xl⟩ := Hb0.out.facts
    clear hno
    by_cases hlt : j < s.size
    · have hj0 : (0 : Int) ≤ (j : Int) := by omega
      have hjn : (j : Int) < (s.size : Int) := by omega
      by_cases hq : s[j] = 39
      · have hqn : s[j].toNat = 39 := by rw [hq]; rfl
        have hjle : (j : Int) ≤ (s.size : Int) := by omega
        have hij : (at_ : Int) + 1 ≤ (j : Int) := by omega
        have Hq := Lib.hid hq
        clear hq
        have hd : ((s[j].toNat : Int) == 39) = true := by rw [hqn]; rfl
        clear hqn
        go_wp2_with fail
        refine bodyPost_ret (v := .tuple #[.agg #[.int .i64 1, .string (s.extract (at_ + 1) j), .slice none 0 0], .int .i64 (j + 1)]) (by simp [results, Try.results39, go_sem, *]) rfl ?_
        have hx := take_drop_quote hj1 hlt Hq.out
        refine ⟨1, s.extract (at_ + 1) j, .nil, none, 0, (j : Int) + 1, rfl, (Below.refl w.heap.size w).alloc (Nat.le_refl _) _, KP.nil, Nat.le_refl _, ⟨by have := Bd_pos d; simp only [Fo.size]; omega, by rw [ext_mid (by omega) (by omega), bsz]; simp; omega, trivial, Nat.zero_le _⟩, by omega, by omega, by omega, ?_⟩
        rw [hx, ext_mid (by omega) (by omega)]
        have hw := want_text (d := d) (at_ := at_) (y := s.data.toList.drop (j + 1)) Hno.out
        have hxl : ((s.data.toList.drop (at_ + 1)).take (j - (at_ + 1))).length = j - (at_ + 1) := by rw [List.length_take, List.length_drop, Array.length_toList]; have : s.data.size = s.size := rfl; omega
        rw [hxl, show (at_ : Int) + 1 + ((j - (at_ + 1) : Nat) : Int) + 1 = (j : Int) + 1 from by omega] at hw
        exact hw
      · have hqn : ¬ s[j].toNat = 39 := fun h => hq (UInt8.toNat_inj.1 (by rw [h]; rfl))
        have hd : ((s[j].toNat : Int) == 39) = false := beq_eq_false_iff_ne.2 (by omega)
        have Hq := Lib.hid hq
        clear hq hqn
        go_wp2_with fail
        go_round
        case rel => exact ⟨j + 1, by omega, by omega, by go_num, by rw [show j + 1 - (at_ + 1) = j - (at_ + 1) + 1 from by omega]; exact take_more (by rw [List.getElem?_drop, show at_ + 1 + (j - (at_ + 1)) = j from by omega]; exact bget hlt) Hno.out Hq.out⟩
        case measure => simp [intOf]; omega
    · have hjn : ¬ (j : Int) < (s.size : Int) := by omega
      have hje : Hid (j = s.size) := Lib.hid (by omega)
      go_wp2_with fail
      refine bodyPost_ret (v := .tuple #[.agg #[.int .i64 0, .string ⟨#[]⟩, .slice none 0 0], .int .i64 (-1)]) (by simp [results, Try.results39, go_sem, *]) rfl ?_
      refine ⟨0, ⟨#[]⟩, .nil, none, 0, -1, rfl, (Below.refl w.heap.size w).alloc (Nat.le_refl _) _, KP.nil, Nat.le_refl _, nok_zero _ _, by omega, by omega, by omega, want_noquote ?_⟩
      have := Hno.out
      rw [hje.out, List.take_of_length_le (by rw [List.length_drop, Array.length_toList]; exact Nat.le_refl _)] at this
      exact this

theorem snoc_n (k : Int) (s : ByteArray) (ks : Fo) : Fo.snoc .nil k s ks = .node k s ks .nil := rfl
theorem snoc_c (k' : Int) (s' : ByteArray) (ks' r : Fo) (k : Int) (s : ByteArray) (ks : Fo) : Fo.snoc (.node k' s' ks' r) k s ks = .node k' s' ks' (r.snoc k s ks) := rfl
theorem bdrop {s : ByteArray} {j : Nat} (h : j < s.size) : s.data.toList.drop j = s[j] :: s.data.toList.drop (j + 1) := by
  have hl : j < s.data.toList.length := by rw [Array.length_toList]; exact h
  rw [List.drop_eq_getElem_cons hl]
  have := bget h
  rw [List.getElem?_eq_getElem hl] at this
  rw [Option.some.inj this]
theorem bdrop_all {s : ByteArray} {j : Nat} (h : s.size ≤ j) : s.data.toList.drop j = [] := List.drop_of_length_le (by rw [Array.length_toList]; exact h)
theorem nok_kids {d : Nat} {k : Int} {f : Fo} (h1 : f.size ≤ f.len * Bd d) (h2 : f.Fits) (h3 : f.len ≤ 5) : NOk (d + 1) k ⟨#[]⟩ f := by
  refine ⟨?_, Nat.zero_le _, h2, h3⟩
  have := Nat.mul_le_mul_right (Bd d) h3
  simp only [Bd]
  omega
theorem snoc_room {d : Nat} {f : Fo} {k : Int} {s : ByteArray} {ks : Fo} (h1 : f.size ≤ f.len * Bd d) (h : NOk d k s ks) : (f.snoc k s ks).size ≤ (f.snoc k s ks).len * Bd d := by
  rw [Fo.snoc_size, Fo.snoc_len, Nat.add_mul, Nat.one_mul]
  have := h.1
  omega
theorem snoc_fit {d : Nat} {f : Fo} {k : Int} {s : ByteArray} {ks : Fo} (h1 : f.Fits) (h : NOk d k s ks) : (f.snoc k s ks).Fits := Fo.snoc_fits h1 (by have := h.2.1; unfold maxLen; omega) (by have := h.2.2.2; unfold maxLen; omega) h.2.2.1

theorem sp4_len {j : Nat} {m : List UInt8} (h : sp4[j]? = some m) : m ≠ [] := by
  have hj : j < 4 := (List.getElem?_eq_some_iff.1 h).1
  rcases (by omega : j = 0 ∨ j = 1 ∨ j = 2 ∨ j = 3) with rfl | rfl | rfl | rfl <;> (cases h; simp)
theorem four_end {s : ByteArray} {n j : Nat} (h : s.size ≤ n) : ∀ (nx : Nat) (m t : List UInt8), (n : Int) = nx → sp4[j]? = some m → s.data.toList.drop nx ≠ m ++ t := by
  intro nx m t e hm he
  rw [bdrop_all (by omega)] at he
  exact sp4_len hm (List.append_eq_nil_iff.1 he.symm).1
theorem four_bad {s : ByteArray} {n j : Nat} {c : UInt8} (hn : n < s.size) (h : s[n] ≠ c) (hj : sp4[j]? = some [c]) : ∀ (nx : Nat) (m t : List UInt8), (n : Int) = nx → sp4[j]? = some m → s.data.toList.drop nx ≠ m ++ t := by
  intro nx m t e hm he
  obtain rfl : n = nx := by omega
  rw [hj] at hm
  cases hm
  rw [bdrop hn] at he
  injection he with he _
  exact h he

set_option maxRecDepth 100000 in
set_option maxHeartbeats 8000000 in
theorem four_of (d : Nat) (ih : LpC d) (s : ByteArray) (at0 : Nat) (w : World) (hs : s.size ≤ 1048576) (ha : at0 ≤ s.size) :
    Calls Try.prog 40 #[.string s, .int .i64 at0, .int .i64 d] w (RdPost s at0 (d + 1) (Want4 (s.data.toList.drop at0) d at0) w) := by
  have hb6 := (BxE.new w 0 .empty (.slice none 0 0) 25).alloc (.cells #[.int .i64 4, .string ⟨#[]⟩, .slice none 0 0] 25)
  have hb8 := BxE.new (w.alloc (.cells #[.int .i64 0, .string .empty, .slice none 0 0] 25)) 4 ⟨#[]⟩ (.slice none 0 0) 25
  rw [World.size_alloc] at hb8
  have hA := ((Below.refl w.heap.size w).alloc (Nat.le_refl _) (.cells #[.int .i64 0, .string .empty, .slice none 0 0] 25)).alloc (by simp) (.cells #[.int .i64 4, .string ⟨#[]⟩, .slice none 0 0] 25)
  have hz8 : ((w.alloc (.cells #[.int .i64 0, .string .empty, .slice none 0 0] 25)).alloc (.cells #[.int .i64 4, .string ⟨#[]⟩, .slice none 0 0] 25)).heap.size = w.heap.size + 1 + 1 := by simp
  have HA := Lib.hid hA
  have Hb6 := Lib.hid hb6
  have Hb8 := Lib.hid hb8
  have Hih := Lib.hid ih
  have Hz8 := Lib.hid hz8
  clear hb6 hb8 hA ih hz8
  go_enter Try.func40, Try.ntmps40
  go_wp2_with fail
  go_loopw [1, 9] (fun p i wr => ∃ (j at_ : Nat) (f : Fo) (v : Value), j ≤ 4 ∧ f.len = j ∧ i = .int .i64 j ∧ p = .int .i64 at_ ∧ at0 ≤ at_ ∧ (j = 4 → at0 < at_) ∧ at_ ≤ s.size ∧ OwnT wr (w.heap.size + 1 + 1) v f ∧ BxE wr (w.heap.size + 1) 4 ⟨#[]⟩ v 25 ∧ BxE wr w.heap.size 0 .empty (.slice none 0 0) 25 ∧ f.size ≤ f.len * Bd d ∧ f.Fits ∧ R4 s.data.toList at0 d f at_ ∧ Below w.heap.size w wr) (fun _ i _ => 4 - (intOf i).toNat)
  case atStart => exact ⟨0, at0, .nil, .slice none 0 0, Nat.zero_le _, rfl, rfl, rfl, Nat.le_refl _, by omega, ha, OwnT.nil _ _, Hb8.out, Hb6.out, Nat.zero_le _, trivial, r4_start, HA.out⟩
  case round =>
    obtain ⟨j, at_, f, v, hj, hfj, rfl, rfl, hat0, hat4, hats, hown, hb8, hb6, hfz, hff, hr4, hB⟩ := hrel
    have hwl := blk_lt hb8
    have hlo := hown.lt
    have Hown := Lib.hid hown
    have Hb8 := Lib.hid hb8
    have Hb6 := Lib.hid hb6
    have Hff := Lib.hid (And.intro hff (And.intro hr4 hB))
    have Hlo := Lib.hid hlo
    clear hown hb8 hb6 hff hr4 hB hlo
    rcases (by omega : j = 0 ∨ j = 1 ∨ j = 2 ∨ j = 3 ∨ j = 4) with rfl | rfl | rfl | rfl | rfl
    · have hfl4 : f.len < 4 := by omega
      have Hfj := Lib.hid hfj
      have Hfz := Lib.hid hfz
      clear hfj hfz
      go_wp2_with fail
      refine (Hih.out s at_ wr hs hats).mono ?_
      rintro e w2 ⟨k3, s3, ks3, a3, c3, nx, rfl, hB2, hk3, hc3, hn3, hx1, hx2, hx3, hw3⟩
      have hAA := (Below.refl w2.heap.size w2).alloc (Nat.le_refl _) (.cells #[.int .i64 k3, .string s3, .slice a3 ks3.len c3] 25)
      have hBA := hB2.trans (hAA.mono hB2.size)
      have hk3 := hk3.next hAA
      have hbx := BxE.new w2 k3 s3 (.slice a3 ks3.len c3) 25
      have hOA := Hown.out.below hBA
      have hb8A := Hb8.out.next hBA
      have hb6A := Hb6.out.next hBA
      have hs2 := hB2.size
      have hBW := Hff.out.2.2.trans (hBA.mono Hff.out.2.2.size)
      go_upto_region 6 with (fail)
      have hVl : w2.heap.size < (w2.alloc (.cells #[.int .i64 k3, .string s3, .slice a3 ks3.len c3] 25)).heap.size := by simp
      generalize w2.alloc (.cells #[.int .i64 k3, .string s3, .slice a3 ks3.len c3] 25) = V at *
      have Hk3 := Lib.hid (And.intro hk3 (And.intro hc3 (And.intro hn3 hw3)))
      have HOA := Lib.hid hOA
      obtain ⟨x0, x1, x2, xf0, xf1, xf2, xl⟩ := hb6A.facts
      obtain ⟨y0, y1, y2, yf0, yf1, yf2, yl⟩ := hb8A.facts
      obtain ⟨z0, z1, z2, zf0, zf1, zf2, zl⟩ := hbx.facts
      have Hb6A := Lib.hid hb6A
      have Hb8A := Lib.hid hb8A
      have Hbx := Lib.hid hbx
      have HBW := Lib.hid hBW
      clear hAA hBA hk3 hc3 hn3 hw3 hOA hb6A hb8A hbx hB2 hBW
      by_cases h0 : nx < 0
      · have hd0 : decide (nx < 0) = true := decide_eq_true h0
        go_wp2_with fail
        go_quiet (fail)
        go_wp2_with fail
        refine bodyPost_ret (v := .tuple #[.agg #[.int .i64 0, .string ⟨#[]⟩, .slice none 0 0], .int .i64 (-1)]) (by simp [results, Try.results40, go_sem, *]) rfl ?_
        refine ⟨0, ⟨#[]⟩, .nil, none, 0, -1, rfl, rd_set (below_drewN HBW.out _) (Nat.le_refl _), KP.nil, Nat.le_refl _, nok_zero _ _, by omega, by omega, by omega, r4_fail Hff.out.2.1 hfl4 Hk3.out.2.2.2 (fun n m t e => by omega)⟩
      have hd0 : decide (nx < 0) = false := decide_eq_false h0
      obtain ⟨n, rfl⟩ : ∃ n : Nat, nx = n := ⟨nx.toNat, by omega⟩
      by_cases h1 : n < s.size
      case neg =>
        have hd1 : decide (s.size ≤ n) = true := decide_eq_true (by omega)
        have Hn := Lib.hid h1
        clear h1
        go_wp2_with fail
        go_quiet (fail)
        go_wp2_with fail
        refine bodyPost_ret (v := .tuple #[.agg #[.int .i64 0, .string ⟨#[]⟩, .slice none 0 0], .int .i64 (-1)]) (by simp [results, Try.results40, go_sem, *]) rfl ?_
        refine ⟨0, ⟨#[]⟩, .nil, none, 0, -1, rfl, rd_set (below_drewN HBW.out _) (Nat.le_refl _), KP.nil, Nat.le_refl _, nok_zero _ _, by omega, by omega, by omega, r4_fail Hff.out.2.1 hfl4 Hk3.out.2.2.2 (four_end (by have := Hn.out; omega))⟩
      have hd1 : decide (s.size ≤ n) = false := decide_eq_false (by omega)
      have hn0 : (0 : Int) ≤ (n : Int) := by omega
      have hn1 : (n : Int) < (s.size : Int) := by omega
      by_cases h2 : s[n] = 61
      case neg =>
        have h2n : ¬ s[n].toNat = 61 := fun h => h2 (UInt8.toNat_inj.1 (by rw [h]; rfl))
        have hd2 : ((s[n].toNat : Int) != (((⟨#[61, 63, 58, 93]⟩ : ByteArray)[0]'(by decide)).toNat : Int)) = true := by show ((s[n].toNat : Int) != (61 : Int)) = true; simp; omega
        have Hn := Lib.hid h2
        clear h2 h2n
        go_wp2_with fail
        go_quiet (fail)
        go_wp2_with fail
        refine bodyPost_ret (v := .tuple #[.agg #[.int .i64 0, .string ⟨#[]⟩, .slice none 0 0], .int .i64 (-1)]) (by simp [results, Try.results40, go_sem, *]) rfl ?_
        refine ⟨0, ⟨#[]⟩, .nil, none, 0, -1, rfl, rd_set (below_drewN HBW.out _) (Nat.le_refl _), KP.nil, Nat.le_refl _, nok_zero _ _, by omega, by omega, by omega, r4_fail Hff.out.2.1 hfl4 Hk3.out.2.2.2 (four_bad (by omega) Hn.out (by rw [Hfj.out]; rfl))⟩
      have hd2 : ((s[n].toNat : Int) != (((⟨#[61, 63, 58, 93]⟩ : ByteArray)[0]'(by decide)).toNat : Int)) = false := by rw [h2]; rfl
      have Hn := Lib.hid h2
      clear h2
      have hlo := Hlo.out
      go_wp2_with fail
      go_quiet (fail)
      have hO2 : OwnT (V.drewN nq) (w.heap.size + 1 + 1) v f := HOA.out.drewN nq
      have hk2 : KP (V.drewN nq) wr.heap.size (V.drewN nq).heap.size ks3 a3 ks3.len := Hk3.out.1.keep (Nat.le_refl _) (Nat.le_refl _) fun _ _ _ => rfl
      have hb2 : BxE (V.drewN nq) (w.heap.size + 1) 4 ⟨#[]⟩ v 25 := Hb8A.out
      have hb3 : BxE (V.drewN nq) w.heap.size 0 .empty (.slice none 0 0) 25 := Hb6A.out
      have hb4 : BxE (V.drewN nq) w2.heap.size k3 s3 (.slice a3 ks3.len c3) 25 := Hbx.out
      have hB4 : Below w.heap.size w (V.drewN nq) := below_drewN HBW.out nq
      have hz4 : w2.heap.size < (V.drewN nq).heap.size := hVl
      clear HOA Hb8A Hb6A Hbx HBW x0 x1 x2 xf0 xf1 xf2 xl y0 y1 y2 yf0 yf1 yf2 yl z0 z1 z2 zf0 zf1 zf2 zl hVl
      obtain ⟨hc3, hn3, hw3⟩ := Hk3.out.2
      clear Hk3
      generalize V.drewN nq = V2 at *
      obtain ⟨y0, y1, y2, yf0, yf1, yf2, yl⟩ := hb2.facts
      obtain ⟨z0, z1, z2, zf0, zf1, zf2, zl⟩ := hb4.facts
      have HH := Lib.hid (And.intro hO2 (And.intro hk2 (And.intro hb2 (And.intro hb3 (And.intro hB4 (And.intro hn3 hw3))))))
      have Hfl := Lib.hid (show f.len ≤ 1000000000 from by omega)
      clear hO2 hk2 hb2 hb3 hB4 hn3 hw3 hb4
      go_wp2_with (at_builtin; refine wpList_append_node rfl _ _ rfl (w.heap.size + 1 + 1) v f rfl (HH.out.1.alloc _) V2.heap.size 1 rfl k3 s3 ks3 a3 ks3.len c3 wr.heap.size V2.heap.size (heap_alloc_new V2 _) hc3 (HH.out.2.1.alloc (Nat.le_refl _) _) (by omega) (by simp) (fun g hg => .inl (by have := hlo g hg; omega)) Hfl.out (by simp; omega) ?_; intro v6 w6 hown6 hgrow6 ho6; obtain ⟨gv, cv, rfl, hgv1, hgv2⟩ := hown6.some (by rw [Fo.snoc_len]; omega); obtain ⟨q0, q1, q2, qf0, qf1, qf2, ql⟩ := ((HH.out.2.2.1.alloc (.cells #[.int .i64 k3, .string s3, .slice a3 ks3.len c3] 25)).grown hgrow6 (fun e => by have := hlo _ e; omega)).facts)
      have hb86 := ((HH.out.2.2.1.alloc (.cells #[.int .i64 k3, .string s3, .slice a3 ks3.len c3] 25)).grown hgrow6 (fun e => by have := hlo _ e; omega)).set2 (.slice (some ⟨gv, 0, none⟩) (f.snoc k3 s3 ks3).len cv)
      have hb66 := ((HH.out.2.2.2.1.alloc (.cells #[.int .i64 k3, .string s3, .slice a3 ks3.len c3] 25)).grown hgrow6 (fun e => by have := hlo _ e; omega)).other (g' := w.heap.size + 1) (by omega) 2 (.slice (some ⟨gv, 0, none⟩) (f.snoc k3 s3 ks3).len cv)
      have hB6 : Below w.heap.size w (w6.setCell ⟨w.heap.size + 1, 2, none⟩ (.slice (some ⟨gv, 0, none⟩) (f.snoc k3 s3 ks3).len cv)) := (((HH.out.2.2.2.2.1.alloc (by omega) _).grown hgrow6 (by simp; omega) (fun g' e => by have := (hlo _ e).1; omega))).setCell (Nat.le_succ _) _
      exact ⟨⟨0 + 1, n + 1, f.snoc k3 s3 ks3, _, by omega, by rw [Fo.snoc_len, Hfj.out], by rfl, by go_num, by omega, by omega, by omega, hown6.setCell (by omega) _ _, hb86, hb66, snoc_room Hfz.out HH.out.2.2.2.2.2.1, snoc_fit Hff.out.1 HH.out.2.2.2.2.2.1, r4_step (sn := Fo.snoc) snoc_n snoc_c Hff.out.2.1 hfl4 HH.out.2.2.2.2.2.2, hB6⟩, by simp [intOf]⟩
    · have hfl4 : f.len < 4 := by omega
      have Hfj := Lib.hid hfj
      have Hfz := Lib.hid hfz
      clear hfj hfz
      go_wp2_with fail
      refine (Hih.out s at_ wr hs hats).mono ?_
      rintro e w2 ⟨k3, s3, ks3, a3, c3, nx, rfl, hB2, hk3, hc3, hn3, hx1, hx2, hx3, hw3⟩
      have hAA := (Below.refl w2.heap.size w2).alloc (Nat.le_refl _) (.cells #[.int .i64 k3, .string s3, .slice a3 ks3.len c3] 25)
      have hBA := hB2.trans (hAA.mono hB2.size)
      have hk3 := hk3.next hAA
      have hbx := BxE.new w2 k3 s3 (.slice a3 ks3.len c3) 25
      have hOA := Hown.out.below hBA
      have hb8A := Hb8.out.next hBA
      have hb6A := Hb6.out.next hBA
      have hs2 := hB2.size
      have hBW := Hff.out.2.2.trans (hBA.mono Hff.out.2.2.size)
      go_upto_region 6 with (fail)
      have hVl : w2.heap.size < (w2.alloc (.cells #[.int .i64 k3, .string s3, .slice a3 ks3.len c3] 25)).heap.size := by simp
      generalize w2.alloc (.cells #[.int .i64 k3, .string s3, .slice a3 ks3.len c3] 25) = V at *
      have Hk3 := Lib.hid (And.intro hk3 (And.intro hc3 (And.intro hn3 hw3)))
      have HOA := Lib.hid hOA
      obtain ⟨x0, x1, x2, xf0, xf1, xf2, xl⟩ := hb6A.facts
      obtain ⟨y0, y1, y2, yf0, yf1, yf2, yl⟩ := hb8A.facts
      obtain ⟨z0, z1, z2, zf0, zf1, zf2, zl⟩ := hbx.facts
      have Hb6A := Lib.hid hb6A
      have Hb8A := Lib.hid hb8A
      have Hbx := Lib.hid hbx
      have HBW := Lib.hid hBW
      clear hAA hBA hk3 hc3 hn3 hw3 hOA hb6A hb8A hbx hB2 hBW
      by_cases h0 : nx < 0
      · have hd0 : decide (nx < 0) = true := decide_eq_true h0
        go_wp2_with fail
        go_quiet (fail)
        go_wp2_with fail
        refine bodyPost_ret (v := .tuple #[.agg #[.int .i64 0, .string ⟨#[]⟩, .slice none 0 0], .int .i64 (-1)]) (by simp [results, Try.results40, go_sem, *]) rfl ?_
        refine ⟨0, ⟨#[]⟩, .nil, none, 0, -1, rfl, rd_set (below_drewN HBW.out _) (Nat.le_refl _), KP.nil, Nat.le_refl _, nok_zero _ _, by omega, by omega, by omega, r4_fail Hff.out.2.1 hfl4 Hk3.out.2.2.2 (fun n m t e => by omega)⟩
      have hd0 : decide (nx < 0) = false := decide_eq_false h0
      obtain ⟨n, rfl⟩ : ∃ n : Nat, nx = n := ⟨nx.toNat, by omega⟩
      by_cases h1 : n < s.size
      case neg =>
        have hd1 : decide (s.size ≤ n) = true := decide_eq_true (by omega)
        have Hn := Lib.hid h1
        clear h1
        go_wp2_with fail
        go_quiet (fail)
        go_wp2_with fail
        refine bodyPost_ret (v := .tuple #[.agg #[.int .i64 0, .string ⟨#[]⟩, .slice none 0 0], .int .i64 (-1)]) (by simp [results, Try.results40, go_sem, *]) rfl ?_
        refine ⟨0, ⟨#[]⟩, .nil, none, 0, -1, rfl, rd_set (below_drewN HBW.out _) (Nat.le_refl _), KP.nil, Nat.le_refl _, nok_zero _ _, by omega, by omega, by omega, r4_fail Hff.out.2.1 hfl4 Hk3.out.2.2.2 (four_end (by have := Hn.out; omega))⟩
      have hd1 : decide (s.size ≤ n) = false := decide_eq_false (by omega)
      have hn0 : (0 : Int) ≤ (n : Int) := by omega
      have hn1 : (n : Int) < (s.size : Int) := by omega
      by_cases h2 : s[n] = 63
      case neg =>
        have h2n : ¬ s[n].toNat = 63 := fun h => h2 (UInt8.toNat_inj.1 (by rw [h]; rfl))
        have hd2 : ((s[n].toNat : Int) != (((⟨#[61, 63, 58, 93]⟩ : ByteArray)[1]'(by decide)).toNat : Int)) = true := by show ((s[n].toNat : Int) != (63 : Int)) = true; simp; omega
        have Hn := Lib.hid h2
        clear h2 h2n
        go_wp2_with fail
        go_quiet (fail)
        go_wp2_with fail
        refine bodyPost_ret (v := .tuple #[.agg #[.int .i64 0, .string ⟨#[]⟩, .slice none 0 0], .int .i64 (-1)]) (by simp [results, Try.results40, go_sem, *]) rfl ?_
        refine ⟨0, ⟨#[]⟩, .nil, none, 0, -1, rfl, rd_set (below_drewN HBW.out _) (Nat.le_refl _), KP.nil, Nat.le_refl _, nok_zero _ _, by omega, by omega, by omega, r4_fail Hff.out.2.1 hfl4 Hk3.out.2.2.2 (four_bad (by omega) Hn.out (by rw [Hfj.out]; rfl))⟩
      have hd2 : ((s[n].toNat : Int) != (((⟨#[61, 63, 58, 93]⟩ : ByteArray)[1]'(by decide)).toNat : Int)) = false := by rw [h2]; rfl
      have Hn := Lib.hid h2
      clear h2
      have hlo := Hlo.out
      go_wp2_with fail
      go_quiet (fail)
      have hO2 : OwnT (V.drewN nq) (w.heap.size + 1 + 1) v f := HOA.out.drewN nq
      have hk2 : KP (V.drewN nq) wr.heap.size (V.drewN nq).heap.size ks3 a3 ks3.len := Hk3.out.1.keep (Nat.le_refl _) (Nat.le_refl _) fun _ _ _ => rfl
      have hb2 : BxE (V.drewN nq) (w.heap.size + 1) 4 ⟨#[]⟩ v 25 := Hb8A.out
      have hb3 : BxE (V.drewN nq) w.heap.size 0 .empty (.slice none 0 0) 25 := Hb6A.out
      have hb4 : BxE (V.drewN nq) w2.heap.size k3 s3 (.slice a3 ks3.len c3) 25 := Hbx.out
      have hB4 : Below w.heap.size w (V.drewN nq) := below_drewN HBW.out nq
      have hz4 : w2.heap.size < (V.drewN nq).heap.size := hVl
      clear HOA Hb8A Hb6A Hbx HBW x0 x1 x2 xf0 xf1 xf2 xl y0 y1 y2 yf0 yf1 yf2 yl z0 z1 z2 zf0 zf1 zf2 zl hVl
      obtain ⟨hc3, hn3, hw3⟩ := Hk3.out.2
      clear Hk3
      generalize V.drewN nq = V2 at *
      obtain ⟨y0, y1, y2, yf0, yf1, yf2, yl⟩ := hb2.facts
      obtain ⟨z0, z1, z2, zf0, zf1, zf2, zl⟩ := hb4.facts
      have HH := Lib.hid (And.intro hO2 (And.intro hk2 (And.intro hb2 (And.intro hb3 (And.intro hB4 (And.intro hn3 hw3))))))
      have Hfl := Lib.hid (show f.len ≤ 1000000000 from by omega)
      clear hO2 hk2 hb2 hb3 hB4 hn3 hw3 hb4
      go_wp2_with (at_builtin; refine wpList_append_node rfl _ _ rfl (w.heap.size + 1 + 1) v f rfl (HH.out.1.alloc _) V2.heap.size 1 rfl k3 s3 ks3 a3 ks3.len c3 wr.heap.size V2.heap.size (heap_alloc_new V2 _) hc3 (HH.out.2.1.alloc (Nat.le_refl _) _) (by omega) (by simp) (fun g hg => .inl (by have := hlo g hg; omega)) Hfl.out (by simp; omega) ?_; intro v6 w6 hown6 hgrow6 ho6; obtain ⟨gv, cv, rfl, hgv1, hgv2⟩ := hown6.some (by rw [Fo.snoc_len]; omega); obtain ⟨q0, q1, q2, qf0, qf1, qf2, ql⟩ := ((HH.out.2.2.1.alloc (.cells #[.int .i64 k3, .string s3, .slice a3 ks3.len c3] 25)).grown hgrow6 (fun e => by have := hlo _ e; omega)).facts)
      have hb86 := ((HH.out.2.2.1.alloc (.cells #[.int .i64 k3, .string s3, .slice a3 ks3.len c3] 25)).grown hgrow6 (fun e => by have := hlo _ e; omega)).set2 (.slice (some ⟨gv, 0, none⟩) (f.snoc k3 s3 ks3).len cv)
      have hb66 := ((HH.out.2.2.2.1.alloc (.cells #[.int .i64 k3, .string s3, .slice a3 ks3.len c3] 25)).grown hgrow6 (fun e => by have := hlo _ e; omega)).other (g' := w.heap.size + 1) (by omega) 2 (.slice (some ⟨gv, 0, none⟩) (f.snoc k3 s3 ks3).len cv)
      have hB6 : Below w.heap.size w (w6.setCell ⟨w.heap.size + 1, 2, none⟩ (.slice (some ⟨gv, 0, none⟩) (f.snoc k3 s3 ks3).len cv)) := (((HH.out.2.2.2.2.1.alloc (by omega) _).grown hgrow6 (by simp; omega) (fun g' e => by have := (hlo _ e).1; omega))).setCell (Nat.le_succ _) _
      exact ⟨⟨1 + 1, n + 1, f.snoc k3 s3 ks3, _, by omega, by rw [Fo.snoc_len, Hfj.out], by rfl, by go_num, by omega, by omega, by omega, hown6.setCell (by omega) _ _, hb86, hb66, snoc_room Hfz.out HH.out.2.2.2.2.2.1, snoc_fit Hff.out.1 HH.out.2.2.2.2.2.1, r4_step (sn := Fo.snoc) snoc_n snoc_c Hff.out.2.1 hfl4 HH.out.2.2.2.2.2.2, hB6⟩, by simp [intOf]⟩
    · have hfl4 : f.len < 4 := by omega
      have Hfj := Lib.hid hfj
      have Hfz := Lib.hid hfz
      clear hfj hfz
      go_wp2_with fail
      refine (Hih.out s at_ wr hs hats).mono ?_
      rintro e w2 ⟨k3, s3, ks3, a3, c3, nx, rfl, hB2, hk3, hc3, hn3, hx1, hx2, hx3, hw3⟩
      have hAA := (Below.refl w2.heap.size w2).alloc (Nat.le_refl _) (.cells #[.int .i64 k3, .string s3, .slice a3 ks3.len c3] 25)
      have hBA := hB2.trans (hAA.mono hB2.size)
      have hk3 := hk3.next hAA
      have hbx := BxE.new w2 k3 s3 (.slice a3 ks3.len c3) 25
      have hOA := Hown.out.below hBA
      have hb8A := Hb8.out.next hBA
      have hb6A := Hb6.out.next hBA
      have hs2 := hB2.size
      have hBW := Hff.out.2.2.trans (hBA.mono Hff.out.2.2.size)
      go_upto_region 6 with (fail)
      have hVl : w2.heap.size < (w2.alloc (.cells #[.int .i64 k3, .string s3, .slice a3 ks3.len c3] 25)).heap.size := by simp
      generalize w2.alloc (.cells #[.int .i64 k3, .string s3, .slice a3 ks3.len c3] 25) = V at *
      have Hk3 := Lib.hid (And.intro hk3 (And.intro hc3 (And.intro hn3 hw3)))
      have HOA := Lib.hid hOA
      obtain ⟨x0, x1, x2, xf0, xf1, xf2, xl⟩ := hb6A.facts
      obtain ⟨y0, y1, y2, yf0, yf1, yf2, yl⟩ := hb8A.facts
      obtain ⟨z0, z1, z2, zf0, zf1, zf2, zl⟩ := hbx.facts
      have Hb6A := Lib.hid hb6A
      have Hb8A := Lib.hid hb8A
      have Hbx := Lib.hid hbx
      have HBW := Lib.hid hBW
      clear hAA hBA hk3 hc3 hn3 hw3 hOA hb6A hb8A hbx hB2 hBW
      by_cases h0 : nx < 0
      · have hd0 : decide (nx < 0) = true := decide_eq_true h0
        go_wp2_with fail
        go_quiet (fail)
        go_wp2_with fail
        refine bodyPost_ret (v := .tuple #[.agg #[.int .i64 0, .string ⟨#[]⟩, .slice none 0 0], .int .i64 (-1)]) (by simp [results, Try.results40, go_sem, *]) rfl ?_
        refine ⟨0, ⟨#[]⟩, .nil, none, 0, -1, rfl, rd_set (below_drewN HBW.out _) (Nat.le_refl _), KP.nil, Nat.le_refl _, nok_zero _ _, by omega, by omega, by omega, r4_fail Hff.out.2.1 hfl4 Hk3.out.2.2.2 (fun n m t e => by omega)⟩
      have hd0 : decide (nx < 0) = false := decide_eq_false h0
      obtain ⟨n, rfl⟩ : ∃ n : Nat, nx = n := ⟨nx.toNat, by omega⟩
      by_cases h1 : n < s.size
      case neg =>
        have hd1 : decide (s.size ≤ n) = true := decide_eq_true (by omega)
        have Hn := Lib.hid h1
        clear h1
        go_wp2_with fail
        go_quiet (fail)
        go_wp2_with fail
        refine bodyPost_ret (v := .tuple #[.agg #[.int .i64 0, .string ⟨#[]⟩, .slice none 0 0], .int .i64 (-1)]) (by simp [results, Try.results40, go_sem, *]) rfl ?_
        refine ⟨0, ⟨#[]⟩, .nil, none, 0, -1, rfl, rd_set (below_drewN HBW.out _) (Nat.le_refl _), KP.nil, Nat.le_refl _, nok_zero _ _, by omega, by omega, by omega, r4_fail Hff.out.2.1 hfl4 Hk3.out.2.2.2 (four_end (by have := Hn.out; omega))⟩
      have hd1 : decide (s.size ≤ n) = false := decide_eq_false (by omega)
      have hn0 : (0 : Int) ≤ (n : Int) := by omega
      have hn1 : (n : Int) < (s.size : Int) := by omega
      by_cases h2 : s[n] = 58
      case neg =>
        have h2n : ¬ s[n].toNat = 58 := fun h => h2 (UInt8.toNat_inj.1 (by rw [h]; rfl))
        have hd2 : ((s[n].toNat : Int) != (((⟨#[61, 63, 58, 93]⟩ : ByteArray)[2]'(by decide)).toNat : Int)) = true := by show ((s[n].toNat : Int) != (58 : Int)) = true; simp; omega
        have Hn := Lib.hid h2
        clear h2 h2n
        go_wp2_with fail
        go_quiet (fail)
        go_wp2_with fail
        refine bodyPost_ret (v := .tuple #[.agg #[.int .i64 0, .string ⟨#[]⟩, .slice none 0 0], .int .i64 (-1)]) (by simp [results, Try.results40, go_sem, *]) rfl ?_
        refine ⟨0, ⟨#[]⟩, .nil, none, 0, -1, rfl, rd_set (below_drewN HBW.out _) (Nat.le_refl _), KP.nil, Nat.le_refl _, nok_zero _ _, by omega, by omega, by omega, r4_fail Hff.out.2.1 hfl4 Hk3.out.2.2.2 (four_bad (by omega) Hn.out (by rw [Hfj.out]; rfl))⟩
      have hd2 : ((s[n].toNat : Int) != (((⟨#[61, 63, 58, 93]⟩ : ByteArray)[2]'(by decide)).toNat : Int)) = false := by rw [h2]; rfl
      have Hn := Lib.hid h2
      clear h2
      have hlo := Hlo.out
      go_wp2_with fail
      go_quiet (fail)
      have hO2 : OwnT (V.drewN nq) (w.heap.size + 1 + 1) v f := HOA.out.drewN nq
      have hk2 : KP (V.drewN nq) wr.heap.size (V.drewN nq).heap.size ks3 a3 ks3.len := Hk3.out.1.keep (Nat.le_refl _) (Nat.le_refl _) fun _ _ _ => rfl
      have hb2 : BxE (V.drewN nq) (w.heap.size + 1) 4 ⟨#[]⟩ v 25 := Hb8A.out
      have hb3 : BxE (V.drewN nq) w.heap.size 0 .empty (.slice none 0 0) 25 := Hb6A.out
      have hb4 : BxE (V.drewN nq) w2.heap.size k3 s3 (.slice a3 ks3.len c3) 25 := Hbx.out
      have hB4 : Below w.heap.size w (V.drewN nq) := below_drewN HBW.out nq
      have hz4 : w2.heap.size < (V.drewN nq).heap.size := hVl
      clear HOA Hb8A Hb6A Hbx HBW x0 x1 x2 xf0 xf1 xf2 xl y0 y1 y2 yf0 yf1 yf2 yl z0 z1 z2 zf0 zf1 zf2 zl hVl
      obtain ⟨hc3, hn3, hw3⟩ := Hk3.out.2
      clear Hk3
      generalize V.drewN nq = V2 at *
      obtain ⟨y0, y1, y2, yf0, yf1, yf2, yl⟩ := hb2.facts
      obtain ⟨z0, z1, z2, zf0, zf1, zf2, zl⟩ := hb4.facts
      have HH := Lib.hid (And.intro hO2 (And.intro hk2 (And.intro hb2 (And.intro hb3 (And.intro hB4 (And.intro hn3 hw3))))))
      have Hfl := Lib.hid (show f.len ≤ 1000000000 from by omega)
      clear hO2 hk2 hb2 hb3 hB4 hn3 hw3 hb4
      go_wp2_with (at_builtin; refine wpList_append_node rfl _ _ rfl (w.heap.size + 1 + 1) v f rfl (HH.out.1.alloc _) V2.heap.size 1 rfl k3 s3 ks3 a3 ks3.len c3 wr.heap.size V2.heap.size (heap_alloc_new V2 _) hc3 (HH.out.2.1.alloc (Nat.le_refl _) _) (by omega) (by simp) (fun g hg => .inl (by have := hlo g hg; omega)) Hfl.out (by simp; omega) ?_; intro v6 w6 hown6 hgrow6 ho6; obtain ⟨gv, cv, rfl, hgv1, hgv2⟩ := hown6.some (by rw [Fo.snoc_len]; omega); obtain ⟨q0, q1, q2, qf0, qf1, qf2, ql⟩ := ((HH.out.2.2.1.alloc (.cells #[.int .i64 k3, .string s3, .slice a3 ks3.len c3] 25)).grown hgrow6 (fun e => by have := hlo _ e; omega)).facts)
      have hb86 := ((HH.out.2.2.1.alloc (.cells #[.int .i64 k3, .string s3, .slice a3 ks3.len c3] 25)).grown hgrow6 (fun e => by have := hlo _ e; omega)).set2 (.slice (some ⟨gv, 0, none⟩) (f.snoc k3 s3 ks3).len cv)
      have hb66 := ((HH.out.2.2.2.1.alloc (.cells #[.int .i64 k3, .string s3, .slice a3 ks3.len c3] 25)).grown hgrow6 (fun e => by have := hlo _ e; omega)).other (g' := w.heap.size + 1) (by omega) 2 (.slice (some ⟨gv, 0, none⟩) (f.snoc k3 s3 ks3).len cv)
      have hB6 : Below w.heap.size w (w6.setCell ⟨w.heap.size + 1, 2, none⟩ (.slice (some ⟨gv, 0, none⟩) (f.snoc k3 s3 ks3).len cv)) := (((HH.out.2.2.2.2.1.alloc (by omega) _).grown hgrow6 (by simp; omega) (fun g' e => by have := (hlo _ e).1; omega))).setCell (Nat.le_succ _) _
      exact ⟨⟨2 + 1, n + 1, f.snoc k3 s3 ks3, _, by omega, by rw [Fo.snoc_len, Hfj.out], by rfl, by go_num, by omega, by omega, by omega, hown6.setCell (by omega) _ _, hb86, hb66, snoc_room Hfz.out HH.out.2.2.2.2.2.1, snoc_fit Hff.out.1 HH.out.2.2.2.2.2.1, r4_step (sn := Fo.snoc) snoc_n snoc_c Hff.out.2.1 hfl4 HH.out.2.2.2.2.2.2, hB6⟩, by simp [intOf]⟩
    · have hfl4 : f.len < 4 := by omega
      have Hfj := Lib.hid hfj
      have Hfz := Lib.hid hfz
      clear hfj hfz
      go_wp2_with fail
      refine (Hih.out s at_ wr hs hats).mono ?_
      rintro e w2 ⟨k3, s3, ks3, a3, c3, nx, rfl, hB2, hk3, hc3, hn3, hx1, hx2, hx3, hw3⟩
      have hAA := (Below.refl w2.heap.size w2).alloc (Nat.le_refl _) (.cells #[.int .i64 k3, .string s3, .slice a3 ks3.len c3] 25)
      have hBA := hB2.trans (hAA.mono hB2.size)
      have hk3 := hk3.next hAA
      have hbx := BxE.new w2 k3 s3 (.slice a3 ks3.len c3) 25
      have hOA := Hown.out.below hBA
      have hb8A := Hb8.out.next hBA
      have hb6A := Hb6.out.next hBA
      have hs2 := hB2.size
      have hBW := Hff.out.2.2.trans (hBA.mono Hff.out.2.2.size)
      go_upto_region 6 with (fail)
      have hVl : w2.heap.size < (w2.alloc (.cells #[.int .i64 k3, .string s3, .slice a3 ks3.len c3] 25)).heap.size := by simp
      generalize w2.alloc (.cells #[.int .i64 k3, .string s3, .slice a3 ks3.len c3] 25) = V at *
      have Hk3 := Lib.hid (And.intro hk3 (And.intro hc3 (And.intro hn3 hw3)))
      have HOA := Lib.hid hOA
      obtain ⟨x0, x1, x2, xf0, xf1, xf2, xl⟩ := hb6A.facts
      obtain ⟨y0, y1, y2, yf0, yf1, yf2, yl⟩ := hb8A.facts
      obtain ⟨z0, z1, z2, zf0, zf1, zf2, zl⟩ := hbx.facts
      have Hb6A := Lib.hid hb6A
      have Hb8A := Lib.hid hb8A
      have Hbx := Lib.hid hbx
      have HBW := Lib.hid hBW
      clear hAA hBA hk3 hc3 hn3 hw3 hOA hb6A hb8A hbx hB2 hBW
      by_cases h0 : nx < 0
      · have hd0 : decide (nx < 0) = true := decide_eq_true h0
        go_wp2_with fail
        go_quiet (fail)
        go_wp2_with fail
        refine bodyPost_ret (v := .tuple #[.agg #[.int .i64 0, .string ⟨#[]⟩, .slice none 0 0], .int .i64 (-1)]) (by simp [results, Try.results40, go_sem, *]) rfl ?_
        refine ⟨0, ⟨#[]⟩, .nil, none, 0, -1, rfl, rd_set (below_drewN HBW.out _) (Nat.le_refl _), KP.nil, Nat.le_refl _, nok_zero _ _, by omega, by omega, by omega, r4_fail Hff.out.2.1 hfl4 Hk3.out.2.2.2 (fun n m t e => by omega)⟩
      have hd0 : decide (nx < 0) = false := decide_eq_false h0
      obtain ⟨n, rfl⟩ : ∃ n : Nat, nx = n := ⟨nx.toNat, by omega⟩
      by_cases h1 : n < s.size
      case neg =>
        have hd1 : decide (s.size ≤ n) = true := decide_eq_true (by omega)
        have Hn := Lib.hid h1
        clear h1
        go_wp2_with fail
        go_quiet (fail)
        go_wp2_with fail
        refine bodyPost_ret (v := .tuple #[.agg #[.int .i64 0, .string ⟨#[]⟩, .slice none 0 0], .int .i64 (-1)]) (by simp [results, Try.results40, go_sem, *]) rfl ?_
        refine ⟨0, ⟨#[]⟩, .nil, none, 0, -1, rfl, rd_set (below_drewN HBW.out _) (Nat.le_refl _), KP.nil, Nat.le_refl _, nok_zero _ _, by omega, by omega, by omega, r4_fail Hff.out.2.1 hfl4 Hk3.out.2.2.2 (four_end (by have := Hn.out; omega))⟩
      have hd1 : decide (s.size ≤ n) = false := decide_eq_false (by omega)
      have hn0 : (0 : Int) ≤ (n : Int) := by omega
      have hn1 : (n : Int) < (s.size : Int) := by omega
      by_cases h2 : s[n] = 93
      case neg =>
        have h2n : ¬ s[n].toNat = 93 := fun h => h2 (UInt8.toNat_inj.1 (by rw [h]; rfl))
        have hd2 : ((s[n].toNat : Int) != (((⟨#[61, 63, 58, 93]⟩ : ByteArray)[3]'(by decide)).toNat : Int)) = true := by show ((s[n].toNat : Int) != (93 : Int)) = true; simp; omega
        have Hn := Lib.hid h2
        clear h2 h2n
        go_wp2_with fail
        go_quiet (fail)
        go_wp2_with fail
        refine bodyPost_ret (v := .tuple #[.agg #[.int .i64 0, .string ⟨#[]⟩, .slice none 0 0], .int .i64 (-1)]) (by simp [results, Try.results40, go_sem, *]) rfl ?_
        refine ⟨0, ⟨#[]⟩, .nil, none, 0, -1, rfl, rd_set (below_drewN HBW.out _) (Nat.le_refl _), KP.nil, Nat.le_refl _, nok_zero _ _, by omega, by omega, by omega, r4_fail Hff.out.2.1 hfl4 Hk3.out.2.2.2 (four_bad (by omega) Hn.out (by rw [Hfj.out]; rfl))⟩
      have hd2 : ((s[n].toNat : Int) != (((⟨#[61, 63, 58, 93]⟩ : ByteArray)[3]'(by decide)).toNat : Int)) = false := by rw [h2]; rfl
      have Hn := Lib.hid h2
      clear h2
      have hlo := Hlo.out
      go_wp2_with fail
      go_quiet (fail)
      have hO2 : OwnT (V.drewN nq) (w.heap.size + 1 + 1) v f := HOA.out.drewN nq
      have hk2 : KP (V.drewN nq) wr.heap.size (V.drewN nq).heap.size ks3 a3 ks3.len := Hk3.out.1.keep (Nat.le_refl _) (Nat.le_refl _) fun _ _ _ => rfl
      have hb2 : BxE (V.drewN nq) (w.heap.size + 1) 4 ⟨#[]⟩ v 25 := Hb8A.out
      have hb3 : BxE (V.drewN nq) w.heap.size 0 .empty (.slice none 0 0) 25 := Hb6A.out
      have hb4 : BxE (V.drewN nq) w2.heap.size k3 s3 (.slice a3 ks3.len c3) 25 := Hbx.out
      have hB4 : Below w.heap.size w (V.drewN nq) := below_drewN HBW.out nq
      have hz4 : w2.heap.size < (V.drewN nq).heap.size := hVl
      clear HOA Hb8A Hb6A Hbx HBW x0 x1 x2 xf0 xf1 xf2 xl y0 y1 y2 yf0 yf1 yf2 yl z0 z1 z2 zf0 zf1 zf2 zl hVl
      obtain ⟨hc3, hn3, hw3⟩ := Hk3.out.2
      clear Hk3
      generalize V.drewN nq = V2 at *
      obtain ⟨y0, y1, y2, yf0, yf1, yf2, yl⟩ := hb2.facts
      obtain ⟨z0, z1, z2, zf0, zf1, zf2, zl⟩ := hb4.facts
      have HH := Lib.hid (And.intro hO2 (And.intro hk2 (And.intro hb2 (And.intro hb3 (And.intro hB4 (And.intro hn3 hw3))))))
      have Hfl := Lib.hid (show f.len ≤ 1000000000 from by omega)
      clear hO2 hk2 hb2 hb3 hB4 hn3 hw3 hb4
      go_wp2_with (at_builtin; refine wpList_append_node rfl _ _ rfl (w.heap.size + 1 + 1) v f rfl (HH.out.1.alloc _) V2.heap.size 1 rfl k3 s3 ks3 a3 ks3.len c3 wr.heap.size V2.heap.size (heap_alloc_new V2 _) hc3 (HH.out.2.1.alloc (Nat.le_refl _) _) (by omega) (by simp) (fun g hg => .inl (by have := hlo g hg; omega)) Hfl.out (by simp; omega) ?_; intro v6 w6 hown6 hgrow6 ho6; obtain ⟨gv, cv, rfl, hgv1, hgv2⟩ := hown6.some (by rw [Fo.snoc_len]; omega); obtain ⟨q0, q1, q2, qf0, qf1, qf2, ql⟩ := ((HH.out.2.2.1.alloc (.cells #[.int .i64 k3, .string s3, .slice a3 ks3.len c3] 25)).grown hgrow6 (fun e => by have := hlo _ e; omega)).facts)
      have hb86 := ((HH.out.2.2.1.alloc (.cells #[.int .i64 k3, .string s3, .slice a3 ks3.len c3] 25)).grown hgrow6 (fun e => by have := hlo _ e; omega)).set2 (.slice (some ⟨gv, 0, none⟩) (f.snoc k3 s3 ks3).len cv)
      have hb66 := ((HH.out.2.2.2.1.alloc (.cells #[.int .i64 k3, .string s3, .slice a3 ks3.len c3] 25)).grown hgrow6 (fun e => by have := hlo _ e; omega)).other (g' := w.heap.size + 1) (by omega) 2 (.slice (some ⟨gv, 0, none⟩) (f.snoc k3 s3 ks3).len cv)
      have hB6 : Below w.heap.size w (w6.setCell ⟨w.heap.size + 1, 2, none⟩ (.slice (some ⟨gv, 0, none⟩) (f.snoc k3 s3 ks3).len cv)) := (((HH.out.2.2.2.2.1.alloc (by omega) _).grown hgrow6 (by simp; omega) (fun g' e => by have := (hlo _ e).1; omega))).setCell (Nat.le_succ _) _
      exact ⟨⟨3 + 1, n + 1, f.snoc k3 s3 ks3, _, by omega, by rw [Fo.snoc_len, Hfj.out], by rfl, by go_num, by omega, by omega, by omega, hown6.setCell (by omega) _ _, hb86, hb66, snoc_room Hfz.out HH.out.2.2.2.2.2.1, snoc_fit Hff.out.1 HH.out.2.2.2.2.2.1, r4_step (sn := Fo.snoc) snoc_n snoc_c Hff.out.2.1 hfl4 HH.out.2.2.2.2.2.2, hB6⟩, by simp [intOf]⟩
    · obtain ⟨a, c, rfl, hlc, hcm, hka⟩ := Hown.out.form
      have Hka := Lib.hid (And.intro hka (And.intro hlc hcm))
      have Hfj := Lib.hid hfj
      have Hat := Lib.hid (hat4 rfl)
      obtain ⟨x0, x1, x2, xf0, xf1, xf2, xl⟩ := Hb6.out.facts
      obtain ⟨y0, y1, y2, yf0, yf1, yf2, yl⟩ := Hb8.out.facts
      clear hka hlc hcm hfj
      go_wp2_with fail
      refine bodyPost_ret (v := .tuple #[.agg #[.int .i64 4, .string ⟨#[]⟩, .slice a f.len c], .int .i64 at_]) (by simp [results, Try.results40, go_sem, *]) rfl ?_
      exact ⟨4, ⟨#[]⟩, f, a, c, at_, rfl, rd_set Hff.out.2.2 (Nat.le_refl _), (((Hka.out.1.setCell (g := w.heap.size) (.inl (by omega)) _ _).setCell (g := w.heap.size) (.inl (by omega)) _ _).setCell (g := w.heap.size) (.inl (by omega)) _ _).more (by omega) (by simp [World.setCell]), Hka.out.2.1, nok_kids hfz Hff.out.1 (by have := Hfj.out; omega), by omega, by omega, by have := Hat.out; omega, r4_done Hff.out.2.1 Hfj.out⟩

/-- the measure of l2Join's loop -/
def msJ (n : Nat) (v : Value) : Nat := if intOf v < 0 then 0 else n + 1 - (intOf v).toNat
theorem msJ_lt {n m : Nat} {nx : Int} (h : m < n) (h2 : 0 ≤ nx → (m : Int) < nx) : msJ n (.int .i64 nx) < msJ n (.int .i64 m) := by
  unfold msJ
  have e1 : intOf (.int .i64 nx) = nx := rfl
  have e2 : intOf (.int .i64 (m : Int)) = m := rfl
  rw [e1, e2, if_neg (by omega : ¬ (m : Int) < 0)]
  split <;> omega

set_option maxRecDepth 100000 in
set_option maxHeartbeats 8000000 in
theorem join_of (d : Nat) (ih : LpC d) (s : ByteArray) (at0 : Nat) (w : World) (hs : s.size ≤ 1048576) (ha : at0 ≤ s.size) :
    Calls Try.prog 41 #[.string s, .int .i64 at0, .int .i64 d] w (RdPost s at0 (d + 1) (Want3 (s.data.toList.drop at0) d at0) w) := by
  have hb6 := (BxE.new w 0 .empty (.slice none 0 0) 25).alloc (.cells #[.int .i64 3, .string ⟨#[]⟩, .slice none 0 0] 25)
  have hb8 := BxE.new (w.alloc (.cells #[.int .i64 0, .string .empty, .slice none 0 0] 25)) 3 ⟨#[]⟩ (.slice none 0 0) 25
  rw [World.size_alloc] at hb8
  have hA := ((Below.refl w.heap.size w).alloc (Nat.le_refl _) (.cells #[.int .i64 0, .string .empty, .slice none 0 0] 25)).alloc (by simp) (.cells #[.int .i64 3, .string ⟨#[]⟩, .slice none 0 0] 25)
  have hz8 : ((w.alloc (.cells #[.int .i64 0, .string .empty, .slice none 0 0] 25)).alloc (.cells #[.int .i64 3, .string ⟨#[]⟩, .slice none 0 0] 25)).heap.size = w.heap.size + 1 + 1 := by simp
  have HA := Lib.hid hA
  have Hb6 := Lib.hid hb6
  have Hb8 := Lib.hid hb8
  have Hih := Lib.hid ih
  have Hz8 := Lib.hid hz8
  clear hb6 hb8 hA ih hz8
  go_enter Try.func41, Try.ntmps41
  go_wp2_with fail
  go_loopw [1] (fun p wr => ∃ (at_ : Int) (f : Fo) (v : Value), p = .int .i64 at_ ∧ -1 ≤ at_ ∧ at_ ≤ s.size ∧ f.len ≤ 4 ∧ OwnT wr (w.heap.size + 1 + 1) v f ∧ BxE wr (w.heap.size + 1) 3 ⟨#[]⟩ v 25 ∧ BxE wr w.heap.size 0 .empty (.slice none 0 0) 25 ∧ f.size ≤ f.len * Bd d ∧ f.Fits ∧ R3 s.data.toList at0 d f at_ ∧ Below w.heap.size w wr ∧ (0 ≤ at_ → (at0 : Int) ≤ at_)) (fun p _ => msJ s.size p)
  case atStart => exact ⟨at0, .nil, .slice none 0 0, rfl, by omega, by omega, Nat.zero_le _, OwnT.nil _ _, Hb8.out, Hb6.out, Nat.zero_le _, trivial, r3_start, HA.out, by omega⟩
  case round =>
    obtain ⟨at_, f, v, rfl, hp1, hp2, hfl4, hown, hb8, hb6, hfz, hff, hr3, hB, hat0⟩ := hrel
    have hwl := blk_lt hb8
    have hlo := hown.lt
    have hww := hB.size
    have Hown := Lib.hid hown
    have Hb8 := Lib.hid hb8
    have Hb6 := Lib.hid hb6
    have Hff := Lib.hid (And.intro hff (And.intro hr3 hB))
    have Hlo := Lib.hid hlo
    have hdl : s.data.toList.length = s.size := by rw [Array.length_toList]; rfl
    have Hdl := Lib.hid hdl
    obtain ⟨x0, x1, x2, xf0, xf1, xf2, xl⟩ := hb6.facts
    obtain ⟨y0, y1, y2, yf0, yf1, yf2, yl⟩ := hb8.facts
    clear hown hb8 hb6 hff hr3 hB hlo hdl
    by_cases hneg : at_ < 0
    · have hd0 : decide (0 ≤ at_) = false := decide_eq_false (by omega)
      have hd1 : decide (at_ < 0) = true := decide_eq_true hneg
      go_wp2_with fail
      refine bodyPost_ret (v := .tuple #[.agg #[.int .i64 0, .string ⟨#[]⟩, .slice none 0 0], .int .i64 (-1)]) (by simp [results, Try.results41, go_sem, *]) rfl ?_
      refine ⟨0, ⟨#[]⟩, .nil, none, 0, -1, rfl, rd_set Hff.out.2.2 (Nat.le_refl _), KP.nil, Nat.le_refl _, nok_zero _ _, by omega, by omega, by omega, r3_bad Hff.out.2.1 (.inl hneg)⟩
    obtain ⟨n, rfl⟩ : ∃ n : Nat, at_ = n := ⟨at_.toNat, by omega⟩
    have hn0 : (0 : Int) ≤ (n : Int) := by omega
    have hn00 : (at0 : Int) ≤ (n : Int) := by omega
    by_cases hlt : n < s.size
    case neg =>
      have hd1 : decide (s.size ≤ n) = true := decide_eq_true (by omega)
      have hd2 : decide (n < s.size) = false := decide_eq_false hlt
      go_wp2_with fail
      refine bodyPost_ret (v := .tuple #[.agg #[.int .i64 0, .string ⟨#[]⟩, .slice none 0 0], .int .i64 (-1)]) (by simp [results, Try.results41, go_sem, *]) rfl ?_
      refine ⟨0, ⟨#[]⟩, .nil, none, 0, -1, rfl, rd_set Hff.out.2.2 (Nat.le_refl _), KP.nil, Nat.le_refl _, nok_zero _ _, by omega, by omega, by omega, r3_bad Hff.out.2.1 (.inr (by have := Hdl.out; omega))⟩
    have hn1 : (n : Int) < (s.size : Int) := by omega
    have hd2 : decide (n < s.size) = true := decide_eq_true hlt
    have hd1 : decide (s.size ≤ n) = false := decide_eq_false (by omega)
    by_cases hq : s[n] = 41
    · have hd3 : ((s[n].toNat : Int) != 41) = false := by rw [hq]; rfl
      obtain ⟨a, c, rfl, hlc, hcm, hka⟩ := Hown.out.form
      have Hka := Lib.hid (And.intro hka (And.intro hlc hcm))
      have Hq := Lib.hid hq
      clear hka hlc hcm hq
      go_wp2_with fail
      refine bodyPost_ret (v := .tuple #[.agg #[.int .i64 3, .string ⟨#[]⟩, .slice a f.len c], .int .i64 (n + 1)]) (by simp [results, Try.results41, go_sem, *]) rfl ?_
      exact ⟨3, ⟨#[]⟩, f, a, c, (n : Int) + 1, rfl, rd_set Hff.out.2.2 (Nat.le_refl _), (((Hka.out.1.setCell (g := w.heap.size) (.inl (by omega)) _ _).setCell (g := w.heap.size) (.inl (by omega)) _ _).setCell (g := w.heap.size) (.inl (by omega)) _ _).more (by omega) (by simp [World.setCell]), Hka.out.2.1, nok_kids hfz Hff.out.1 (by omega), by omega, by omega, by omega, r3_done Hff.out.2.1 (by rw [bdrop hlt, Hq.out])⟩
    · have hqn : ¬ s[n].toNat = 41 := fun h => hq (UInt8.toNat_inj.1 (by rw [h]; rfl))
      have hd3 : ((s[n].toNat : Int) != 41) = true := by simp; omega
      clear hqn
      have Hlt := Lib.hid hq
      have hgr1 := World.grownBy_alloc wr (.cells #[.int .i64 0, .string ⟨#[]⟩, .slice none 0 0] 25) (some wr.heap.size)
      have hb9 := BxE.new wr 0 ⟨#[]⟩ (.slice none 0 0) 25
      have Hhd : Hid (∀ t, s.data.toList.drop n ≠ 41 :: t) := Lib.hid fun t h => by rw [bdrop hlt] at h; injection h with h _; exact hq h
      clear hq
      go_wp2_with fail
      refine (Hih.out s n _ hs (by omega)).mono ?_
      rintro e w2 ⟨k3, s3, ks3, a3, c3, nx, rfl, hB2, hk3, hc3, hn3, hx1, hx2, hx3, hw3⟩
      have hb92 := hb9.next hB2
      obtain ⟨z0, z1, z2, zf0, zf1, zf2, zl⟩ := hb92.facts
      have hgr2 := grown_set (grown_set (grown_set (show wr.grownBy w2 (some wr.heap.size) from ⟨hB2.os.trans hgr1.os, hB2.tape.trans hgr1.tape, hB2.output.trans hgr1.output, Nat.le_trans hgr1.size hB2.size, fun k hk hne => (hB2.block k (Nat.lt_of_lt_of_le hk hgr1.size)).trans (hgr1.block k hk hne)⟩) (p := ⟨wr.heap.size, 0, none⟩) (.inl rfl) (.int .i64 k3)) (p := ⟨wr.heap.size, 1, none⟩) (.inl rfl) (.string s3)) (p := ⟨wr.heap.size, 2, none⟩) (.inl rfl) (.slice a3 ks3.len c3)
      have hb9V : BxE (((w2.setCell ⟨wr.heap.size, 0, none⟩ (.int .i64 k3)).setCell ⟨wr.heap.size, 1, none⟩ (.string s3)).setCell ⟨wr.heap.size, 2, none⟩ (.slice a3 ks3.len c3)) wr.heap.size k3 s3 (.slice a3 ks3.len c3) 25 := blk_set (blk_set (blk_set hb92 0 _) 1 _) 2 _
      rw [World.size_alloc] at hk3
      have hk3V := ((hk3.setCell (g := wr.heap.size) (.inl (by omega)) 0 (.int .i64 k3)).setCell (g := wr.heap.size) (.inl (by omega)) 1 (.string s3)).setCell (g := wr.heap.size) (.inl (by omega)) 2 (.slice a3 ks3.len c3)
      have hszV : wr.heap.size + 1 ≤ w2.heap.size ∧ (((w2.setCell ⟨wr.heap.size, 0, none⟩ (.int .i64 k3)).setCell ⟨wr.heap.size, 1, none⟩ (.string s3)).setCell ⟨wr.heap.size, 2, none⟩ (.slice a3 ks3.len c3)).heap.size = w2.heap.size := ⟨by have := hB2.size; rw [World.size_alloc] at this; omega, by simp [World.setCell]⟩
      go_upto_region 5 with (fail)
      generalize ((w2.setCell ⟨wr.heap.size, 0, none⟩ (.int .i64 k3)).setCell ⟨wr.heap.size, 1, none⟩ (.string s3)).setCell ⟨wr.heap.size, 2, none⟩ (.slice a3 ks3.len c3) = V2 at *
      have hO2 := Hown.out.grown hgr2 (fun g e => by injection e with e; exact .inr (by omega))
      have hb2 := Hb8.out.grown hgr2 (by intro e; injection e with e; omega)
      have hb3 := Hb6.out.grown hgr2 (by intro e; injection e with e; omega)
      have hB4 : Below w.heap.size w V2 := Hff.out.2.2.grown hgr2 Hff.out.2.2.size fun k e => by injection e with e; have := Hff.out.2.2.size; omega
      have hz4 : w2.heap.size ≤ V2.heap.size := by omega
      have hz5 : wr.heap.size + 1 ≤ w2.heap.size := hszV.1
      clear z0 z1 z2 zf0 zf1 zf2 zl hgr1 hgr2 hb9 hb92 hk3 hB2 hszV
      obtain ⟨y0, y1, y2, yf0, yf1, yf2, yl⟩ := hb2.facts
      obtain ⟨z0, z1, z2, zf0, zf1, zf2, zl⟩ := hb9V.facts
      have HH := Lib.hid (And.intro hO2 (And.intro hk3V (And.intro hb2 (And.intro hb3 (And.intro hB4 (And.intro hn3 hw3))))))
      have Hfl := Lib.hid (show f.len ≤ 1000000000 from by omega)
      have hlo := Hlo.out
      clear hO2 hk3V hb2 hb3 hB4 hn3 hw3 hb9V
      by_cases h5 : f.len < 4
      · have hd5 : ¬ (4 : Int) < ((f.snoc k3 s3 ks3).len : Int) := by rw [Fo.snoc_len]; omega
        go_wp2_with (at_builtin; refine wpList_append_node rfl _ _ rfl (w.heap.size + 1 + 1) v f rfl (HH.out.1.alloc _) V2.heap.size 1 rfl k3 s3 ks3 a3 ks3.len c3 (wr.heap.size + 1) w2.heap.size (heap_alloc_new V2 _) hc3 (HH.out.2.1.alloc hz4 _) (by omega) (by simp; omega) (fun g hg => .inl (by have := hlo g hg; omega)) Hfl.out (by simp; omega) ?_; intro v6 w6 hown6 hgrow6 ho6; obtain ⟨gv, cv, rfl, hgv1, hgv2⟩ := hown6.some (by rw [Fo.snoc_len]; omega); obtain ⟨q0, q1, q2, qf0, qf1, qf2, ql⟩ := ((HH.out.2.2.1.alloc (.cells #[.int .i64 k3, .string s3, .slice a3 ks3.len c3] 25)).grown hgrow6 (fun e => by have := hlo _ e; omega)).facts)
        have hb86 := ((HH.out.2.2.1.alloc (.cells #[.int .i64 k3, .string s3, .slice a3 ks3.len c3] 25)).grown hgrow6 (fun e => by have := hlo _ e; omega)).set2 (.slice (some ⟨gv, 0, none⟩) (f.snoc k3 s3 ks3).len cv)
        have hb66 := ((HH.out.2.2.2.1.alloc (.cells #[.int .i64 k3, .string s3, .slice a3 ks3.len c3] 25)).grown hgrow6 (fun e => by have := hlo _ e; omega)).other (g' := w.heap.size + 1) (by omega) 2 (.slice (some ⟨gv, 0, none⟩) (f.snoc k3 s3 ks3).len cv)
        have hB6 : Below w.heap.size w (w6.setCell ⟨w.heap.size + 1, 2, none⟩ (.slice (some ⟨gv, 0, none⟩) (f.snoc k3 s3 ks3).len cv)) := (((HH.out.2.2.2.2.1.alloc (by omega) _).grown hgrow6 (by simp; omega) (fun g' e => by have := (hlo _ e).1; omega))).setCell (Nat.le_succ _) _
        exact ⟨⟨nx, f.snoc k3 s3 ks3, _, rfl, hx1, hx2, by rw [Fo.snoc_len]; omega, hown6.setCell (by omega) _ _, hb86, hb66, snoc_room hfz HH.out.2.2.2.2.2.1, snoc_fit Hff.out.1 HH.out.2.2.2.2.2.1, r3_step (sn := Fo.snoc) snoc_n snoc_c Hff.out.2.1 HH.out.2.2.2.2.2.2 Hhd.out, hB6, by omega⟩, msJ_lt hlt hx3⟩
      · have hd5 : (4 : Int) < ((f.snoc k3 s3 ks3).len : Int) := by rw [Fo.snoc_len]; omega
        go_wp2_with (at_builtin; refine wpList_append_node rfl _ _ rfl (w.heap.size + 1 + 1) v f rfl (HH.out.1.alloc _) V2.heap.size 1 rfl k3 s3 ks3 a3 ks3.len c3 (wr.heap.size + 1) w2.heap.size (heap_alloc_new V2 _) hc3 (HH.out.2.1.alloc hz4 _) (by omega) (by simp; omega) (fun g hg => .inl (by have := hlo g hg; omega)) Hfl.out (by simp; omega) ?_; intro v6 w6 hown6 hgrow6 ho6; obtain ⟨gv, cv, rfl, hgv1, hgv2⟩ := hown6.some (by rw [Fo.snoc_len]; omega); obtain ⟨q0, q1, q2, qf0, qf1, qf2, ql⟩ := ((HH.out.2.2.1.alloc (.cells #[.int .i64 k3, .string s3, .slice a3 ks3.len c3] 25)).grown hgrow6 (fun e => by have := hlo _ e; omega)).facts; obtain ⟨u0, u1, u2, uf0, uf1, uf2, ul⟩ := ((HH.out.2.2.2.1.alloc (.cells #[.int .i64 k3, .string s3, .slice a3 ks3.len c3] 25)).grown hgrow6 (fun e => by have := hlo _ e; omega)).facts)
        have hb86 := ((HH.out.2.2.1.alloc (.cells #[.int .i64 k3, .string s3, .slice a3 ks3.len c3] 25)).grown hgrow6 (fun e => by have := hlo _ e; omega)).set2 (.slice (some ⟨gv, 0, none⟩) (f.snoc k3 s3 ks3).len cv)
        have hb66 := ((HH.out.2.2.2.1.alloc (.cells #[.int .i64 k3, .string s3, .slice a3 ks3.len c3] 25)).grown hgrow6 (fun e => by have := hlo _ e; omega)).other (g' := w.heap.size + 1) (by omega) 2 (.slice (some ⟨gv, 0, none⟩) (f.snoc k3 s3 ks3).len cv)
        have hB6 : Below w.heap.size w (w6.setCell ⟨w.heap.size + 1, 2, none⟩ (.slice (some ⟨gv, 0, none⟩) (f.snoc k3 s3 ks3).len cv)) := (((HH.out.2.2.2.2.1.alloc (by omega) _).grown hgrow6 (by simp; omega) (fun g' e => by have := (hlo _ e).1; omega))).setCell (Nat.le_succ _) _
        refine bodyPost_ret (v := .tuple #[.agg #[.int .i64 0, .string ⟨#[]⟩, .slice none 0 0], .int .i64 (-1)]) (by simp [results, Try.results41, go_sem, *]) rfl ?_
        refine ⟨0, ⟨#[]⟩, .nil, none, 0, -1, rfl, rd_set hB6 (Nat.le_refl _), KP.nil, Nat.le_refl _, nok_zero _ _, by omega, by omega, by omega, r3_long (r3_step (sn := Fo.snoc) snoc_n snoc_c Hff.out.2.1 HH.out.2.2.2.2.2.2 Hhd.out) (by rw [Fo.snoc_len]; omega)⟩
end Go.Proofs.Ytecekkmagldpoaa
