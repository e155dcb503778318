/-
  The reference's ParseExpr.
-/
import Derived.Test.YtecekkmagldpoaaQParR
import Derived.Test.YtecekkmagldpoaaQFmtT
import Derived.Deep.DeepCutAuto
namespace Go.Proofs.Ytecekkmagldpoaa
set_option linter.unusedVariables false
set_option linter.unusedSimpArgs false
open Go.RowKit

/-- what the reference's ParseExpr leaves -/
def PsPost (l : List UInt8) (w : World) (e : Ending) (w' : World) : Prop :=
  Below w.heap.size w w' ∧
  ((∃ k s ks a c, e = .returned (.tuple #[.agg #[.int .i64 k, .string s, .slice a (Fo.len ks) c], .bool true]) ∧ KP w' w.heap.size w'.heap.size ks a ks.len ∧ ks.len ≤ c ∧ validE k s ks = true ∧ l = fm1 k s ks) ∨
   (e = .returned (.tuple #[.agg #[.int .i64 0, .string ⟨#[]⟩, .slice none 0 0], .bool false]) ∧ ∀ k s ks, validE k s ks = true → l ≠ fm1 k s ks))
theorem valid_shape {k : Int} {s : ByteArray} {ks : Fo} (h : validE k s ks = true) : shape (.node k s ks .nil) 6 = true := by
  unfold validE at h
  simp only [Bool.and_eq_true] at h
  exact h.1
theorem fmtE_data {k : Int} {s : ByteArray} {ks : Fo} : (fmtE k s ks).data.toList = if validE k s ks = true then fm1 k s ks else [] := by
  unfold fmtE
  split <;> simp

set_option maxRecDepth 100000 in
set_option maxHeartbeats 2000000 in
theorem parseS_any (s : ByteArray) (l : List UInt8) (w : World) (hl : s.data.toList = l) (hs : s.size ≤ 1048576) :
    Calls Try.prog 12 #[.string s] w (PsPost l w) := by
  have hsz : l.length = s.size := by rw [← hl, Array.length_toList]; rfl
  have hb0 := BxE.new w 0 .empty (.slice none 0 0) 25
  have hA0 := (Below.refl w.heap.size w).alloc (Nat.le_refl _) (.cells #[.int .i64 0, .string .empty, .slice none 0 0] 25)
  have Hp := Lib.hid (parse_all 6 (by omega) s 0 (w.alloc (.cells #[.int .i64 0, .string .empty, .slice none 0 0] 25)) hs (Nat.zero_le _))
  have Hl := Lib.hid hl
  have Hsz := Lib.hid hsz
  have Hb0 := Lib.hid hb0
  have HA0 := Lib.hid hA0
  clear hb0 hA0 hl hsz
  go_enter Try.func12, Try.ntmps12
  go_wp2_with fail
  refine Hp.out.mono ?_
  rintro e w2 ⟨k, s', ks, a, c, nx, rfl, hB2, hk2, hc2, hn2, hx1, hx2, hx3, hw2⟩
  rw [Hl.out, List.drop_zero] at hw2
  have hA3 := (Below.refl w2.heap.size w2).alloc (Nat.le_refl _) (.cells #[.int .i64 k, .string s', .slice a ks.len c] 25)
  have hB3 := (HA0.out.trans (hB2.mono HA0.out.size)).trans (hA3.mono (HA0.out.trans (hB2.mono HA0.out.size)).size)
  have hb3 := (Hb0.out.next hB2).next hA3
  have he3 := BxE.new w2 k s' (.slice a ks.len c) 25
  have hk3 := hk2.next hA3
  rw [World.size_alloc] at hk3
  have hz3 : w.heap.size + 1 ≤ w2.heap.size := by have := hB2.size; rw [World.size_alloc] at this; exact this
  clear hB2 hk2 hA3
  go_upto_region 2 with (fail)
  generalize w2.alloc (.cells #[.int .i64 k, .string s', .slice a ks.len c] 25) = W3 at *
  have HB3 := Lib.hid hB3
  have Hb3 := Lib.hid hb3
  have He3 := Lib.hid he3
  have Hk3 := Lib.hid (And.intro hk3 (And.intro hc2 (And.intro hn2 hw2)))
  obtain ⟨x0, x1, x2, xf0, xf1, xf2, xl⟩ := hb3.facts
  obtain ⟨y0, y1, y2, yf0, yf1, yf2, yl⟩ := he3.facts
  clear hB3 hb3 he3 hk3 hc2 hn2 hw2
  -- a text that is the text of a valid expression is read to its end
  have Hno : Hid (((s.toList == ([] : List UInt8)) = true ∨ nx ≠ s.size ∨ fmtE k s' ks ≠ s) → ∀ k s ks, validE k s ks = true → l ≠ fm1 k s ks) := Lib.hid fun hor k' s2 ks' hv e => by
    obtain ⟨e1, e2, e3, e4⟩ := Hk3.out.2.2.2 k' s2 ks' [] (valid_shape hv) (by rw [e, List.append_nil])
    subst e1 e2 e3
    rcases hor with h | h | h
    · rw [Lib.toList_data, Hl.out, e, fm1_hd] at h
      cases h
    · apply h
      rw [e4, ← e, Hsz.out]
      omega
    · apply h
      refine ba_ext ?_
      rw [fmtE_data, if_pos hv, Hl.out, e]
  by_cases he : (s.toList == ([] : List UInt8)) = true
  · have He := Lib.hid he
    go_wp2_with fail
    refine bodyPost_ret (v := .tuple #[.agg #[.int .i64 0, .string ⟨#[]⟩, .slice none 0 0], .bool false]) (by simp [results, Try.results12, go_sem, *]) rfl ?_
    exact ⟨rd_set HB3.out (Nat.le_refl _), .inr ⟨rfl, Hno.out (.inl He.out)⟩⟩
  · have he' : (s.toList == ([] : List UInt8)) = false := Bool.eq_false_iff.2 he
    clear he
    by_cases hx : nx = s.size
    · have hxd : (nx != (s.size : Int)) = false := by rw [hx]; simp
      have Hx := Lib.hid hx
      clear hx
      have Hf := Lib.hid (formatS_expr k s' ks a ks.len c W3 (Hk3.out.1.more (Nat.zero_le _) (Nat.le_refl _)).1 (by have := Hk3.out.2.2.1.2.1; unfold maxLen; omega) Hk3.out.2.2.1.2.2.1 (by have := Hk3.out.2.2.1.2.2.2; unfold maxLen; omega) (by have h1 := Hk3.out.2.2.1.1; have h2 : Bd 6 = 19531 := rfl; omega))
      go_wp2_with fail
      refine Hf.out.mono ?_
      rintro e w4 ⟨rfl, hB4⟩
      obtain ⟨x0, x1, x2, xf0, xf1, xf2, xl⟩ := (Hb3.out.next hB4).facts
      obtain ⟨y0, y1, y2, yf0, yf1, yf2, yl⟩ := (He3.out.next hB4).facts
      have HB4 := Lib.hid (HB3.out.trans (hB4.mono HB3.out.size))
      have Hk4 := Lib.hid (Hk3.out.1.next hB4)
      clear hB4
      by_cases hq : fmtE k s' ks = s
      · have hqd : ((fmtE k s' ks).toList == s.toList) = true := by rw [hq]; simp
        have hv : validE k s' ks = true := by
          cases hvv : validE k s' ks with
          | true => rfl
          | false =>
            have : s.data.toList = [] := by rw [← hq, fmtE_data, hvv]; rfl
            rw [Lib.toList_data, this] at he'
            cases he'
        have hlf : l = fm1 k s' ks := by rw [← Hl.out, ← hq, fmtE_data, if_pos hv]
        have Hv := Lib.hid (And.intro hv hlf)
        clear hq hv hlf
        go_wp2_with fail
        refine bodyPost_ret (v := .tuple #[.agg #[.int .i64 k, .string s', .slice a ks.len c], .bool true]) (by simp [results, Try.results12, go_sem, *]) rfl ?_
        exact ⟨rd_set HB4.out (Nat.le_refl _), .inl ⟨k, s', ks, a, c, rfl, (((Hk4.out.setCell (g := w.heap.size) (.inl (by omega)) _ _).setCell (g := w.heap.size) (.inl (by omega)) _ _).setCell (g := w.heap.size) (.inl (by omega)) _ _).more (by omega) (by simp [World.setCell]), Hk3.out.2.1, Hv.out.1, Hv.out.2⟩⟩
      · have hqd : ((fmtE k s' ks).toList == s.toList) = false := by rw [sEq]; simp [hq]
        have Hq := Lib.hid hq
        clear hq
        go_wp2_with fail
        refine bodyPost_ret (v := .tuple #[.agg #[.int .i64 0, .string ⟨#[]⟩, .slice none 0 0], .bool false]) (by simp [results, Try.results12, go_sem, *]) rfl ?_
        exact ⟨rd_set HB4.out (Nat.le_refl _), .inr ⟨rfl, Hno.out (.inr (.inr Hq.out))⟩⟩
    · have hxd : (nx != (s.size : Int)) = true := by simp [hx]
      have Hx := Lib.hid hx
      clear hx
      go_wp2_with fail
      refine bodyPost_ret (v := .tuple #[.agg #[.int .i64 0, .string ⟨#[]⟩, .slice none 0 0], .bool false]) (by simp [results, Try.results12, go_sem, *]) rfl ?_
      exact ⟨rd_set HB3.out (Nat.le_refl _), .inr ⟨rfl, Hno.out (.inr (.inl Hx.out))⟩⟩
end Go.Proofs.Ytecekkmagldpoaa
