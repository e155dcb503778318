/-
  The program's ParseExpr.
-/
import Derived.Test.YtecekkmagldpoaaQParE
namespace Go.Proofs.Ytecekkmagldpoaa
set_option linter.unusedVariables false
set_option linter.unusedSimpArgs false
open Go.RowKit

theorem node_txN {k : Int} {s : ByteArray} {n : Nat} (h : nodeB k s n = true) : TxN k s n := by
  rcases node_kinds h with ⟨h1, h2, h3⟩ | ⟨h1, h2, h3⟩ | ⟨h1, h2, h3⟩ | ⟨h1, h2, h3⟩
  · refine .inl ⟨h1, h2, fun h4 => ?_⟩
    unfold plainB noQ at h3
    simp only [Bool.and_eq_true, List.all_eq_true, decide_eq_true_eq] at h3
    exact h3.1 39 h4 rfl
  · exact .inr (.inl ⟨h1, h3⟩)
  · exact .inr (.inr (.inl ⟨h1, h2, h3⟩))
  · exact .inr (.inr (.inr ⟨h1, h2, h3⟩))
theorem good_tx : ∀ {f : Fo}, good f = true → Tx f
  | .nil, _ => trivial
  | .node k s ks r, h => by
    simp only [good, Bool.and_eq_true] at h
    exact ⟨node_txN h.1.1, good_tx h.1.2, good_tx h.2⟩
theorem valid_tx {k : Int} {s : ByteArray} {ks : Fo} (h : validE k s ks = true) : TxN k s ks.len ∧ Tx ks ∧ ks.size + 1 ≤ 20 := by
  obtain ⟨h1, h2, h3⟩ := valid_good h
  exact ⟨node_txN h1, good_tx h2, h3⟩
theorem txN_text {k : Int} {s : ByteArray} {ks : Fo} {t : List UInt8} (h : TxN k s ks.len) (hk : t = fm1 k s ks) : s.size ≤ t.length ∧ ∃ seps, (fmS ks seps).length ≤ t.length := by
  subst hk
  rw [fm1_hd]
  rcases h with ⟨rfl, h0, _⟩ | ⟨rfl, rfl⟩ | ⟨rfl, _, rfl⟩ | ⟨hk, _, rfl⟩
  · have e : s.data.size = s.size := rfl
    rw [len_zero h0]
    exact ⟨by simp [tlB]; omega, [], by simp [fmS]⟩
  · exact ⟨by simp, [], by simp [tlB]; omega⟩
  · exact ⟨by simp, [[61], [63], [58], [93]], by simp [tlB]⟩
  · refine ⟨by simp, [], ?_⟩
    unfold tlB
    rw [if_neg (by omega), if_neg (by omega), if_neg (by omega)]
    simp
theorem tx_fits : ∀ {f : Fo} {seps : List (List UInt8)}, Tx f → (fmS f seps).length ≤ maxLen → f.size ≤ maxLen → f.Fits
  | .nil, _, _, _, _ => trivial
  | .node k s ks r, seps, h, hl, hz => by
    rw [fmS_node, List.length_append, List.length_append] at hl
    obtain ⟨h1, sp, h2⟩ := txN_text h.1 rfl
    have h3 := Fo.size_len ks
    simp only [Fo.size] at hz
    exact ⟨by omega, by omega, tx_fits (seps := sp) h.2.1 (by omega) (by omega), tx_fits (seps := seps.tail) h.2.2 (by omega) (by omega)⟩
theorem reads_fits {l : List UInt8} {n : Nat} {k : Int} {s : ByteArray} {ks : Fo} {t : List UInt8} (h : Reads1 l n k s ks t) (hn : n ≤ 20) (hl : l.length ≤ 1048576) : s.size ≤ maxLen ∧ ks.Fits ∧ ks.len ≤ maxLen := by
  obtain ⟨h1, h2, h3, h4⟩ := h
  obtain ⟨h5, sp, h6⟩ := txN_text h1 rfl
  have h7 := Fo.size_len ks
  rw [h3, List.length_append] at hl
  exact ⟨by unfold maxLen; omega, tx_fits (seps := sp) h2 (by unfold maxLen; omega) (by unfold maxLen; omega), by unfold maxLen; omega⟩
theorem CopX.any {w w' : World} {base c g : Nat} {f bk : Fo} {a : Option Addr} (h : CopX w base f a c bk g) (hg : w.grownBy w' none) : CopX w' base f a c bk g := by
  obtain ⟨h1, h2, h3, h4, h5, h6, h7⟩ := h
  exact ⟨h1, h2, h3.keep (Nat.le_refl _) hg.size fun p h8 h9 => World.cell?_of_block (hg.block p.block h9 (fun e => by cases e)), h4.keep fun x hx hxs => hg.block x hxs (fun e => by cases e), h5, fun x hx => ⟨(h6 x hx).1, Nat.lt_of_lt_of_le (h6 x hx).2 hg.size⟩, h7⟩
/-- what ParseExpr leaves -/
def PePost (l : List UInt8) (w : World) (e : Ending) (w' : World) : Prop :=
  Below w.heap.size w w' ∧
  ((∃ k s ks a c bk g, e = .returned (.tuple #[.agg #[.int .i64 k, .string s, .slice a (Fo.len ks) c], .bool true]) ∧ CopX w' w.heap.size ks a c bk g ∧ validE k s ks = true ∧ l = fm1 k s ks) ∨
   (e = .returned (.tuple #[.agg #[.int .i64 0, .string ⟨#[]⟩, .slice none 0 0], .bool false]) ∧ ∀ k s ks, validE k s ks = true → l ≠ fm1 k s ks))
theorem pe_set {w w4 : World} {B : Nat} {x y z : Value} (hB : Below w.heap.size w w4) (hb : w.heap.size ≤ B) : Below w.heap.size w (((w4.setCell ⟨B, 0, none⟩ x).setCell ⟨B, 1, none⟩ y).setCell ⟨B, 2, none⟩ z) := ((hB.setCell hb _).setCell hb _).setCell hb _
theorem no_other {l : List UInt8} {k : Int} {s : ByteArray} {ks : Fo} {t : List UInt8} (h : Reads1 l 20 k s ks t) (hn : t ≠ [] ∨ validE k s ks = false) : ∀ k s ks, validE k s ks = true → l ≠ fm1 k s ks := by
  intro k' s' ks' hv e
  obtain ⟨h1, h2, h3⟩ := valid_tx hv
  obtain ⟨rfl, rfl, rfl, h4⟩ := u1 h.1 h.2.1 h1 h2 (t' := []) (by rw [← h.2.2.1, e, List.append_nil])
  rcases hn with hn | hn
  · exact hn h4
  · rw [hn] at hv; cases hv

set_option maxRecDepth 100000 in
set_option maxHeartbeats 2000000 in
theorem parseI_any (s : ByteArray) (l : List UInt8) (w : World) (hl : s.data.toList = l) (hs : s.size ≤ 1048576) :
    Calls Try.prog 6 #[.string s] w (PePost l w) := by
  have hll : l.length ≤ 1048576 := by rw [← hl, Array.length_toList]; exact hs
  have hb0 := BxE.new w 0 .empty (.slice none 0 0) 25
  have hA0 := (Below.refl w.heap.size w).alloc (Nat.le_refl _) (.cells #[.int .i64 0, .string .empty, .slice none 0 0] 25)
  have hcA : Cur ((w.alloc (.cells #[.int .i64 0, .string .empty, .slice none 0 0] 25)).alloc (.cells #[.string s, .int .i64 0] 41)) (w.heap.size + 1) s 0 := by
    have := heap_alloc_new (w.alloc (.cells #[.int .i64 0, .string .empty, .slice none 0 0] 25)) (.cells #[.string s, .int .i64 0] 41)
    rw [World.size_alloc] at this
    exact this
  have hbA := hb0.alloc (.cells #[.string s, .int .i64 0] 41)
  have hA1 := hA0.alloc (by simp) (.cells #[.string s, .int .i64 0] 41)
  have Hw1 := Lib.hid (show ((w.alloc (.cells #[.int .i64 0, .string .empty, .slice none 0 0] 25)).alloc (.cells #[.string s, .int .i64 0] 41)).heap.size = w.heap.size + 1 + 1 from by simp)
  have He := Lib.hid (ex_all 20 20 (Nat.le_refl _) (w.heap.size + 1) 0 s l _ hcA hl hs rfl)
  have HA1 := Lib.hid hA1
  have HbA := Lib.hid hbA
  clear hb0 hA0 hcA hbA hA1 hl hs
  go_enter Try.func6, Try.ntmps6
  go_wp2_with fail
  refine He.out.mono ?_
  rintro e w2 ⟨hg2, ⟨k, s', ks, a, c, bk, g, tail, rfl, hcx, hcur, hr1⟩ | ⟨k, s', rfl, hno⟩⟩
  · have hB2 := below_grown HA1.out hg2 (by omega)
    have hb2 := HbA.out.grown hg2 (by intro e; injection e with e; omega)
    have hw2 := hg2.size
    rw [Hw1.out] at hw2
    have hA3 := World.grownBy_alloc w2 (.cells #[.int .i64 k, .string s', .slice a ks.len c] 25) none
    have Hcx := Lib.hid (hcx.any hA3)
    have hcur3 := hcur.alloc (.cells #[.int .i64 k, .string s', .slice a ks.len c] 25)
    have hB3 := hB2.alloc hB2.size (.cells #[.int .i64 k, .string s', .slice a ks.len c] 25)
    have hb3 := hb2.alloc (.cells #[.int .i64 k, .string s', .slice a ks.len c] 25)
    have he3 := BxE.new w2 k s' (.slice a ks.len c) 25
    have hw3 : w.heap.size + 1 + 1 ≤ (w2.alloc (.cells #[.int .i64 k, .string s', .slice a ks.len c] 25)).heap.size := by simp; omega
    have Hr1 := Lib.hid hr1
    clear hcx hcur hr1 hg2 hA3 hb2 hB2
    go_upto_region 3 with (fail)
    generalize w2.alloc (.cells #[.int .i64 k, .string s', .slice a ks.len c] 25) = W3 at *
    obtain ⟨x0, x1, x2, xf0, xf1, xf2, xl⟩ := hb3.facts
    obtain ⟨y0, y1, y2, yf0, yf1, yf2, yl⟩ := he3.facts
    obtain ⟨c0, c1, cf0, cf1, cl⟩ := hcur3.facts
    have HB3 := Lib.hid hB3
    have Hb3 := Lib.hid hb3
    have He3 := Lib.hid he3
    clear hB3 hb3 he3 hcur3
    by_cases ht : tail = []
    · subst ht
      have hte : ((⟨([] : List UInt8).toArray⟩ : ByteArray).toList == ([] : List UInt8)) = true := by rw [Lib.toList_data]; rfl
      obtain ⟨f1, f2, f3⟩ := reads_fits Hr1.out (by omega) hll
      have Hv := Lib.hid (validI_expr k s' ks a ks.len c W3 (Hcx.out.2.2.1.more (Nat.zero_le _) (Nat.le_refl _)) f1 f2 f3)
      clear f2
      go_wp2_with fail
      refine Hv.out.mono ?_
      rintro e w4 ⟨rfl, hB4⟩
      obtain ⟨x0, x1, x2, xf0, xf1, xf2, xl⟩ := (Hb3.out.next hB4).facts
      obtain ⟨y0, y1, y2, yf0, yf1, yf2, yl⟩ := (He3.out.next hB4).facts
      have HB4 := Lib.hid (HB3.out.trans (hB4.mono HB3.out.size))
      have Hcx4 := Lib.hid (Hcx.out.any (grown_of_below hB4))
      clear hB4 c0 c1 cf0 cf1 cl
      by_cases hv : validE k s' ks = true
      · rw [hv]
        have Hvv := Lib.hid hv
        clear hv
        go_wp2_with fail
        refine bodyPost_ret (v := .tuple #[.agg #[.int .i64 k, .string s', .slice a ks.len c], .bool true]) (by simp [results, Try.results6, go_sem, *]) rfl ?_
        exact ⟨pe_set HB4.out (Nat.le_refl _), .inl ⟨k, s', ks, a, c, bk, g, rfl, (((Hcx4.out.setCell (by have := Hw1.out; omega) _ _).setCell (by have := Hw1.out; omega) _ _).setCell (by have := Hw1.out; omega) _ _).mono (by have := Hw1.out; omega), Hvv.out, by have := Hr1.out.2.2.1; rwa [List.append_nil] at this⟩⟩
      · rw [Bool.eq_false_iff.2 hv]
        have Hvv := Lib.hid (Bool.eq_false_iff.2 hv)
        clear hv
        go_wp2_with fail
        refine bodyPost_ret (v := .tuple #[.agg #[.int .i64 0, .string ⟨#[]⟩, .slice none 0 0], .bool false]) (by simp [results, Try.results6, go_sem, *]) rfl ?_
        exact ⟨pe_set HB4.out (Nat.le_refl _), .inr ⟨rfl, no_other Hr1.out (.inr Hvv.out)⟩⟩
    · have hte : ((⟨tail.toArray⟩ : ByteArray).toList == ([] : List UInt8)) = false := by
        rw [Lib.toList_data]
        exact beq_eq_false_iff_ne.2 (by simpa using ht)
      have Ht := Lib.hid ht
      clear ht
      go_wp2_with fail
      refine bodyPost_ret (v := .tuple #[.agg #[.int .i64 0, .string ⟨#[]⟩, .slice none 0 0], .bool false]) (by simp [results, Try.results6, go_sem, *]) rfl ?_
      exact ⟨pe_set HB3.out (Nat.le_refl _), .inr ⟨rfl, no_other Hr1.out (.inl Ht.out)⟩⟩
  · have hB2 := below_grown HA1.out hg2 (by omega)
    have hb2 := HbA.out.grown hg2 (by intro e; injection e with e; omega)
    have hB3 := hB2.alloc hB2.size (.cells #[.int .i64 k, .string s', .slice none 0 0] 25)
    have hb3 := hb2.alloc (.cells #[.int .i64 k, .string s', .slice none 0 0] 25)
    have Hno := Lib.hid hno
    clear hno hg2 hb2 hB2
    go_upto_region 3 with (fail)
    generalize w2.alloc (.cells #[.int .i64 k, .string s', .slice none 0 0] 25) = W3 at *
    obtain ⟨x0, x1, x2, xf0, xf1, xf2, xl⟩ := hb3.facts
    have HB3 := Lib.hid hB3
    clear hB3 hb3
    go_wp2_with fail
    refine bodyPost_ret (v := .tuple #[.agg #[.int .i64 0, .string ⟨#[]⟩, .slice none 0 0], .bool false]) (by simp [results, Try.results6, go_sem, *]) rfl ?_
    refine ⟨pe_set HB3.out (Nat.le_refl _), .inr ⟨rfl, fun k s ks hv e => ?_⟩⟩
    obtain ⟨h1, h2, h3⟩ := valid_tx hv
    have := Hno.out k s ks [] h1 h2 (by rw [e, List.append_nil])
    omega
end Go.Proofs.Ytecekkmagldpoaa
