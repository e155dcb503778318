/-
  The reference's l2Parse.
-/
import Derived.Test.YtecekkmagldpoaaQParS
namespace Go.Proofs.Ytecekkmagldpoaa
set_option linter.unusedVariables false
set_option linter.unusedSimpArgs false
open Go.RowKit

theorem RdPost.wrap {s : ByteArray} {at_ d : Nat} {W W' : Int → ByteArray → Fo → Int → Prop} {w : World} {e : Ending} {w' : World} (h : RdPost s at_ d W w e w') (hW : ∀ k s ks next, W k s ks next → W' k s ks next) : RdPost s at_ d W' w e w' := by
  obtain ⟨k, s', ks, a, c, next, h1, h2, h3, h4, h5, h6, h7, h8, h9⟩ := h
  exact ⟨k, s', ks, a, c, next, h1, h2, h3, h4, h5, h6, h7, h8, hW _ _ _ _ h9⟩

set_option maxRecDepth 100000 in
set_option maxHeartbeats 500000 in
theorem parse_text (d : Nat) (hd6 : d ≤ 100) (ih : LpC d) (s : ByteArray) (at_ : Nat) (w : World) (hs : s.size ≤ 1048576) (ha : at_ < s.size) (hc : s[at_] = 39) :
    Calls Try.prog 23 #[.string s, .int .i64 at_, .int .i64 ((d : Int) + 1)] w (RdPost s at_ (d + 1) (Want (s.data.toList.drop at_) (d + 1) at_) w) := by
  have hb0 := BxE.new w 0 .empty (.slice none 0 0) 25
  have hA := (Below.refl w.heap.size w).alloc (Nat.le_refl _) (.cells #[.int .i64 0, .string .empty, .slice none 0 0] 25)
  have ha0 : (0 : Int) ≤ (at_ : Int) := by omega
  have ha1 : (at_ : Int) < (s.size : Int) := by omega
  have hg1 : decide (s.size ≤ at_) = false := decide_eq_false (by omega)
  have hg2 : ¬ (d : Int) + 1 < 1 := by omega
  have hg3 : (0 : Int) ≤ (d : Int) := by omega
  have hdr := Lib.hid (bdrop ha)
  have Hb0 := Lib.hid hb0
  have HA := Lib.hid hA
  have Hih := Lib.hid ih
  clear hb0 hA ih
  have hc39 : ((s[at_].toNat : Int) == 39) = true := by rw [hc]; rfl
  have hc91 : ((s[at_].toNat : Int) == 91) = false := by rw [hc]; rfl
  have hc40 : ((s[at_].toNat : Int) == 40) = false := by rw [hc]; rfl
  have hc64 : ((s[at_].toNat : Int) == 64) = false := by rw [hc]; rfl
  have hc60 : ((s[at_].toNat : Int) == 60) = false := by rw [hc]; rfl
  have hc62 : ((s[at_].toNat : Int) == 62) = false := by rw [hc]; rfl
  have hc35 : ((s[at_].toNat : Int) == 35) = false := by rw [hc]; rfl
  have Hc := Lib.hid hc
  clear hc
  go_enter Try.func23, Try.ntmps23
  go_wp2_with fail
  refine (quoteS_any s at_ (d + 1) _ hs ha).mono ?_
  rintro e w4 ⟨k, s', ks, a, c, nx, rfl, hB4, hka, hlc, hok, hx1, hx2, hx3, hw⟩
  obtain ⟨x0, x1, x2, xf0, xf1, xf2, xl⟩ := (Hb0.out.next hB4).facts
  have HB4 := Lib.hid (HA.out.trans (hB4.mono HA.out.size))
  rw [World.size_alloc] at hka
  have Hka := Lib.hid (And.intro hka (And.intro hlc (And.intro hok hw)))
  clear hB4 hka hlc hok hw
  go_wp2_with fail
  refine bodyPost_ret (v := .tuple #[.agg #[.int .i64 k, .string s', .slice a ks.len c], .int .i64 nx]) (by simp [results, Try.results23, go_sem, *]) rfl ?_
  refine ⟨k, s', ks, a, c, nx, rfl, rd_set HB4.out (Nat.le_refl _), (((Hka.out.1.setCell (g := w.heap.size) (.inl (by omega)) _ _).setCell (g := w.heap.size) (.inl (by omega)) _ _).setCell (g := w.heap.size) (.inl (by omega)) _ _).more (by omega) (by simp [World.setCell]), Hka.out.2.1, Hka.out.2.2.1, hx1, hx2, by omega, ?_⟩
  rw [hdr.out, Hc.out]
  exact Hka.out.2.2.2

set_option maxRecDepth 100000 in
set_option maxHeartbeats 500000 in
theorem parse_four (d : Nat) (hd6 : d ≤ 100) (ih : LpC d) (s : ByteArray) (at_ : Nat) (w : World) (hs : s.size ≤ 1048576) (ha : at_ < s.size) (hc : s[at_] = 91) :
    Calls Try.prog 23 #[.string s, .int .i64 at_, .int .i64 ((d : Int) + 1)] w (RdPost s at_ (d + 1) (Want (s.data.toList.drop at_) (d + 1) at_) w) := by
  have hb0 := BxE.new w 0 .empty (.slice none 0 0) 25
  have hA := (Below.refl w.heap.size w).alloc (Nat.le_refl _) (.cells #[.int .i64 0, .string .empty, .slice none 0 0] 25)
  have ha0 : (0 : Int) ≤ (at_ : Int) := by omega
  have ha1 : (at_ : Int) < (s.size : Int) := by omega
  have hg1 : decide (s.size ≤ at_) = false := decide_eq_false (by omega)
  have hg2 : ¬ (d : Int) + 1 < 1 := by omega
  have hg3 : (0 : Int) ≤ (d : Int) := by omega
  have hdr := Lib.hid (bdrop ha)
  have Hb0 := Lib.hid hb0
  have HA := Lib.hid hA
  have Hih := Lib.hid ih
  clear hb0 hA ih
  have hc39 : ((s[at_].toNat : Int) == 39) = false := by rw [hc]; rfl
  have hc91 : ((s[at_].toNat : Int) == 91) = true := by rw [hc]; rfl
  have hc40 : ((s[at_].toNat : Int) == 40) = false := by rw [hc]; rfl
  have hc64 : ((s[at_].toNat : Int) == 64) = false := by rw [hc]; rfl
  have hc60 : ((s[at_].toNat : Int) == 60) = false := by rw [hc]; rfl
  have hc62 : ((s[at_].toNat : Int) == 62) = false := by rw [hc]; rfl
  have hc35 : ((s[at_].toNat : Int) == 35) = false := by rw [hc]; rfl
  have Hc := Lib.hid hc
  clear hc
  go_enter Try.func23, Try.ntmps23
  go_wp2_with fail
  rw [show ((at_ : Int) + 1) = ((at_ + 1 : Nat) : Int) from rfl]
  refine (four_of d Hih.out s (at_ + 1) _ hs (by omega)).mono ?_
  rintro e w4 ⟨k, s', ks, a, c, nx, rfl, hB4, hka, hlc, hok, hx1, hx2, hx3, hw⟩
  obtain ⟨x0, x1, x2, xf0, xf1, xf2, xl⟩ := (Hb0.out.next hB4).facts
  have HB4 := Lib.hid (HA.out.trans (hB4.mono HA.out.size))
  rw [World.size_alloc] at hka
  have Hka := Lib.hid (And.intro hka (And.intro hlc (And.intro hok hw)))
  clear hB4 hka hlc hok hw
  go_wp2_with fail
  refine bodyPost_ret (v := .tuple #[.agg #[.int .i64 k, .string s', .slice a ks.len c], .int .i64 nx]) (by simp [results, Try.results23, go_sem, *]) rfl ?_
  refine ⟨k, s', ks, a, c, nx, rfl, rd_set HB4.out (Nat.le_refl _), (((Hka.out.1.setCell (g := w.heap.size) (.inl (by omega)) _ _).setCell (g := w.heap.size) (.inl (by omega)) _ _).setCell (g := w.heap.size) (.inl (by omega)) _ _).more (by omega) (by simp [World.setCell]), Hka.out.2.1, Hka.out.2.2.1, hx1, hx2, by omega, ?_⟩
  rw [hdr.out, Hc.out]
  exact want_four Hka.out.2.2.2

set_option maxRecDepth 100000 in
set_option maxHeartbeats 500000 in
theorem parse_join (d : Nat) (hd6 : d ≤ 100) (ih : LpC d) (s : ByteArray) (at_ : Nat) (w : World) (hs : s.size ≤ 1048576) (ha : at_ < s.size) (hc : s[at_] = 40) :
    Calls Try.prog 23 #[.string s, .int .i64 at_, .int .i64 ((d : Int) + 1)] w (RdPost s at_ (d + 1) (Want (s.data.toList.drop at_) (d + 1) at_) w) := by
  have hb0 := BxE.new w 0 .empty (.slice none 0 0) 25
  have hA := (Below.refl w.heap.size w).alloc (Nat.le_refl _) (.cells #[.int .i64 0, .string .empty, .slice none 0 0] 25)
  have ha0 : (0 : Int) ≤ (at_ : Int) := by omega
  have ha1 : (at_ : Int) < (s.size : Int) := by omega
  have hg1 : decide (s.size ≤ at_) = false := decide_eq_false (by omega)
  have hg2 : ¬ (d : Int) + 1 < 1 := by omega
  have hg3 : (0 : Int) ≤ (d : Int) := by omega
  have hdr := Lib.hid (bdrop ha)
  have Hb0 := Lib.hid hb0
  have HA := Lib.hid hA
  have Hih := Lib.hid ih
  clear hb0 hA ih
  have hc39 : ((s[at_].toNat : Int) == 39) = false := by rw [hc]; rfl
  have hc91 : ((s[at_].toNat : Int) == 91) = false := by rw [hc]; rfl
  have hc40 : ((s[at_].toNat : Int) == 40) = true := by rw [hc]; rfl
  have hc64 : ((s[at_].toNat : Int) == 64) = false := by rw [hc]; rfl
  have hc60 : ((s[at_].toNat : Int) == 60) = false := by rw [hc]; rfl
  have hc62 : ((s[at_].toNat : Int) == 62) = false := by rw [hc]; rfl
  have hc35 : ((s[at_].toNat : Int) == 35) = false := by rw [hc]; rfl
  have Hc := Lib.hid hc
  clear hc
  go_enter Try.func23, Try.ntmps23
  go_wp2_with fail
  rw [show ((at_ : Int) + 1) = ((at_ + 1 : Nat) : Int) from rfl]
  refine (join_of d Hih.out s (at_ + 1) _ hs (by omega)).mono ?_
  rintro e w4 ⟨k, s', ks, a, c, nx, rfl, hB4, hka, hlc, hok, hx1, hx2, hx3, hw⟩
  obtain ⟨x0, x1, x2, xf0, xf1, xf2, xl⟩ := (Hb0.out.next hB4).facts
  have HB4 := Lib.hid (HA.out.trans (hB4.mono HA.out.size))
  rw [World.size_alloc] at hka
  have Hka := Lib.hid (And.intro hka (And.intro hlc (And.intro hok hw)))
  clear hB4 hka hlc hok hw
  go_wp2_with fail
  refine bodyPost_ret (v := .tuple #[.agg #[.int .i64 k, .string s', .slice a ks.len c], .int .i64 nx]) (by simp [results, Try.results23, go_sem, *]) rfl ?_
  refine ⟨k, s', ks, a, c, nx, rfl, rd_set HB4.out (Nat.le_refl _), (((Hka.out.1.setCell (g := w.heap.size) (.inl (by omega)) _ _).setCell (g := w.heap.size) (.inl (by omega)) _ _).setCell (g := w.heap.size) (.inl (by omega)) _ _).more (by omega) (by simp [World.setCell]), Hka.out.2.1, Hka.out.2.2.1, hx1, hx2, by omega, ?_⟩
  rw [hdr.out, Hc.out]
  exact want_join Hka.out.2.2.2

set_option maxRecDepth 100000 in
set_option maxHeartbeats 500000 in
theorem parse_read (d : Nat) (hd6 : d ≤ 100) (ih : LpC d) (s : ByteArray) (at_ : Nat) (w : World) (hs : s.size ≤ 1048576) (ha : at_ < s.size) (hc : s[at_] = 64) :
    Calls Try.prog 23 #[.string s, .int .i64 at_, .int .i64 ((d : Int) + 1)] w (RdPost s at_ (d + 1) (Want (s.data.toList.drop at_) (d + 1) at_) w) := by
  have hb0 := BxE.new w 0 .empty (.slice none 0 0) 25
  have hA := (Below.refl w.heap.size w).alloc (Nat.le_refl _) (.cells #[.int .i64 0, .string .empty, .slice none 0 0] 25)
  have ha0 : (0 : Int) ≤ (at_ : Int) := by omega
  have ha1 : (at_ : Int) < (s.size : Int) := by omega
  have hg1 : decide (s.size ≤ at_) = false := decide_eq_false (by omega)
  have hg2 : ¬ (d : Int) + 1 < 1 := by omega
  have hg3 : (0 : Int) ≤ (d : Int) := by omega
  have hdr := Lib.hid (bdrop ha)
  have Hb0 := Lib.hid hb0
  have HA := Lib.hid hA
  have Hih := Lib.hid ih
  clear hb0 hA ih
  have hc39 : ((s[at_].toNat : Int) == 39) = false := by rw [hc]; rfl
  have hc91 : ((s[at_].toNat : Int) == 91) = false := by rw [hc]; rfl
  have hc40 : ((s[at_].toNat : Int) == 40) = false := by rw [hc]; rfl
  have hc64 : ((s[at_].toNat : Int) == 64) = true := by rw [hc]; rfl
  have hc60 : ((s[at_].toNat : Int) == 60) = false := by rw [hc]; rfl
  have hc62 : ((s[at_].toNat : Int) == 62) = false := by rw [hc]; rfl
  have hc35 : ((s[at_].toNat : Int) == 35) = false := by rw [hc]; rfl
  have Hc := Lib.hid hc
  clear hc
  go_enter Try.func23, Try.ntmps23
  go_wp2_with fail
  rw [show ((at_ : Int) + 1) = ((at_ + 1 : Nat) : Int) from rfl]
  refine (Hih.out s (at_ + 1) _ hs (by omega)).mono ?_
  rintro e w4 ⟨k, s', ks, a, c, nx, rfl, hB4, hka, hlc, hok, hx1, hx2, hx3, hw⟩
  have hb4 := Hb0.out.next hB4
  have hB4' := HA.out.trans (hB4.mono HA.out.size)
  rw [World.size_alloc] at hka
  have hA5 := (Below.refl w4.heap.size w4).alloc (Nat.le_refl _) (.cells #[.int .i64 k, .string s', .slice a ks.len c] 25)
  have hb5 := BxE.new w4 k s' (.slice a ks.len c) 25
  have hka5 := hka.next hA5
  have hB5 := hB4'.trans (hA5.mono hB4'.size)
  have hb5r := hb4.next hA5
  have hl5 : w4.heap.size < (w4.alloc (.cells #[.int .i64 k, .string s', .slice a ks.len c] 25)).heap.size := by simp
  have hl6 := hB4'.size
  go_upto_region 21 with (fail)
  generalize w4.alloc (.cells #[.int .i64 k, .string s', .slice a ks.len c] 25) = V at *
  have hX0 : Below w.heap.size w (((V.setCell ⟨w.heap.size, 0, none⟩ (.int .i64 2)).setCell ⟨w.heap.size, 1, none⟩ (.string ⟨#[]⟩)).setCell ⟨w.heap.size, 2, none⟩ (.slice (some ⟨V.heap.size, 0, none⟩) 1 1)) := rd_set hB5 (Nat.le_refl _)
  have hXs : (((V.setCell ⟨w.heap.size, 0, none⟩ (.int .i64 2)).setCell ⟨w.heap.size, 1, none⟩ (.string ⟨#[]⟩)).setCell ⟨w.heap.size, 2, none⟩ (.slice (some ⟨V.heap.size, 0, none⟩) 1 1)).heap.size = V.heap.size := by simp [World.setCell]
  have hXk : KP (((V.setCell ⟨w.heap.size, 0, none⟩ (.int .i64 2)).setCell ⟨w.heap.size, 1, none⟩ (.string ⟨#[]⟩)).setCell ⟨w.heap.size, 2, none⟩ (.slice (some ⟨V.heap.size, 0, none⟩) 1 1)) (w.heap.size + 1) V.heap.size ks a ks.len := ((hka5.setCell (g := w.heap.size) (.inl (by omega)) _ _).setCell (g := w.heap.size) (.inl (by omega)) _ _).setCell (g := w.heap.size) (.inl (by omega)) _ _
  have hb6 := heap_alloc_new (((V.setCell ⟨w.heap.size, 0, none⟩ (.int .i64 2)).setCell ⟨w.heap.size, 1, none⟩ (.string ⟨#[]⟩)).setCell ⟨w.heap.size, 2, none⟩ (.slice (some ⟨V.heap.size, 0, none⟩) 1 1)) (.cells #[.int .i64 k, .string s', .slice a ks.len c] 25)
  rw [hXs] at hb6
  have hl7 := hB5.size
  have HX := Lib.hid (And.intro (hX0.alloc (by omega) (.cells #[.int .i64 k, .string s', .slice a ks.len c] 25)) (And.intro hb6 (And.intro ((hXk.alloc (by omega) (.cells #[.int .i64 k, .string s', .slice a ks.len c] 25)).more (Nat.le_succ w.heap.size) (Nat.le_succ _)) hXs)))
  obtain ⟨x0, x1, x2, xf0, xf1, xf2, xl⟩ := hb5r.facts
  obtain ⟨y0, y1, y2, yf0, yf1, yf2, yl⟩ := hb5.facts
  have Hka := Lib.hid (And.intro hlc (And.intro hok hw))
  clear hB4 hka hlc hok hw hA5 hb5 hb4 hka5 hB5 hb5r hb6 hB4' hX0 hXs hXk
  go_wp2_with fail
  refine bodyPost_ret (v := .tuple #[.agg #[.int .i64 2, .string ⟨#[]⟩, .slice (some ⟨V.heap.size, 0, none⟩) 1 1], .int .i64 nx]) (by simp [results, Try.results23, go_sem, *]) rfl ?_
  obtain ⟨hX1, hX2, hX3, hX4⟩ := HX.out
  have hok2 := Hka.out.2.1
  refine ⟨2, ⟨#[]⟩, .node k s' ks .nil, some ⟨V.heap.size, 0, none⟩, 1, nx, rfl, hX1, KP.one hX2 (by omega) (by rw [World.size_alloc, hX4]; omega) Hka.out.1 (hX3.more (Nat.le_refl _) (by rw [World.size_alloc, hX4]; exact Nat.le_refl _)), Nat.le_refl _, ⟨by have h1 := hok2.1; have h2 := Bd_pos d; simp only [Fo.size, Bd]; omega, Nat.zero_le _, ⟨by have := hok2.2.1; unfold maxLen; omega, by have := hok2.2.2.2; unfold maxLen; omega, hok2.2.2.1, trivial⟩, by simp [Fo.len]⟩, hx1, hx2, by omega, ?_⟩
  rw [hdr.out, Hc.out]
  exact want_op (K := 2) (by omega) Hka.out.2.2

set_option maxRecDepth 100000 in
set_option maxHeartbeats 500000 in
theorem parse_first (d : Nat) (hd6 : d ≤ 100) (ih : LpC d) (s : ByteArray) (at_ : Nat) (w : World) (hs : s.size ≤ 1048576) (ha : at_ < s.size) (hc : s[at_] = 60) :
    Calls Try.prog 23 #[.string s, .int .i64 at_, .int .i64 ((d : Int) + 1)] w (RdPost s at_ (d + 1) (Want (s.data.toList.drop at_) (d + 1) at_) w) := by
  have hb0 := BxE.new w 0 .empty (.slice none 0 0) 25
  have hA := (Below.refl w.heap.size w).alloc (Nat.le_refl _) (.cells #[.int .i64 0, .string .empty, .slice none 0 0] 25)
  have ha0 : (0 : Int) ≤ (at_ : Int) := by omega
  have ha1 : (at_ : Int) < (s.size : Int) := by omega
  have hg1 : decide (s.size ≤ at_) = false := decide_eq_false (by omega)
  have hg2 : ¬ (d : Int) + 1 < 1 := by omega
  have hg3 : (0 : Int) ≤ (d : Int) := by omega
  have hdr := Lib.hid (bdrop ha)
  have Hb0 := Lib.hid hb0
  have HA := Lib.hid hA
  have Hih := Lib.hid ih
  clear hb0 hA ih
  have hc39 : ((s[at_].toNat : Int) == 39) = false := by rw [hc]; rfl
  have hc91 : ((s[at_].toNat : Int) == 91) = false := by rw [hc]; rfl
  have hc40 : ((s[at_].toNat : Int) == 40) = false := by rw [hc]; rfl
  have hc64 : ((s[at_].toNat : Int) == 64) = false := by rw [hc]; rfl
  have hc60 : ((s[at_].toNat : Int) == 60) = true := by rw [hc]; rfl
  have hc62 : ((s[at_].toNat : Int) == 62) = false := by rw [hc]; rfl
  have hc35 : ((s[at_].toNat : Int) == 35) = false := by rw [hc]; rfl
  have Hc := Lib.hid hc
  clear hc
  go_enter Try.func23, Try.ntmps23
  go_wp2_with fail
  rw [show ((at_ : Int) + 1) = ((at_ + 1 : Nat) : Int) from rfl]
  refine (Hih.out s (at_ + 1) _ hs (by omega)).mono ?_
  rintro e w4 ⟨k, s', ks, a, c, nx, rfl, hB4, hka, hlc, hok, hx1, hx2, hx3, hw⟩
  have hb4 := Hb0.out.next hB4
  have hB4' := HA.out.trans (hB4.mono HA.out.size)
  rw [World.size_alloc] at hka
  have hA5 := (Below.refl w4.heap.size w4).alloc (Nat.le_refl _) (.cells #[.int .i64 k, .string s', .slice a ks.len c] 25)
  have hb5 := BxE.new w4 k s' (.slice a ks.len c) 25
  have hka5 := hka.next hA5
  have hB5 := hB4'.trans (hA5.mono hB4'.size)
  have hb5r := hb4.next hA5
  have hl5 : w4.heap.size < (w4.alloc (.cells #[.int .i64 k, .string s', .slice a ks.len c] 25)).heap.size := by simp
  have hl6 := hB4'.size
  go_upto_region 21 with (fail)
  generalize w4.alloc (.cells #[.int .i64 k, .string s', .slice a ks.len c] 25) = V at *
  have hX0 : Below w.heap.size w (((V.setCell ⟨w.heap.size, 0, none⟩ (.int .i64 5)).setCell ⟨w.heap.size, 1, none⟩ (.string ⟨#[]⟩)).setCell ⟨w.heap.size, 2, none⟩ (.slice (some ⟨V.heap.size, 0, none⟩) 1 1)) := rd_set hB5 (Nat.le_refl _)
  have hXs : (((V.setCell ⟨w.heap.size, 0, none⟩ (.int .i64 5)).setCell ⟨w.heap.size, 1, none⟩ (.string ⟨#[]⟩)).setCell ⟨w.heap.size, 2, none⟩ (.slice (some ⟨V.heap.size, 0, none⟩) 1 1)).heap.size = V.heap.size := by simp [World.setCell]
  have hXk : KP (((V.setCell ⟨w.heap.size, 0, none⟩ (.int .i64 5)).setCell ⟨w.heap.size, 1, none⟩ (.string ⟨#[]⟩)).setCell ⟨w.heap.size, 2, none⟩ (.slice (some ⟨V.heap.size, 0, none⟩) 1 1)) (w.heap.size + 1) V.heap.size ks a ks.len := ((hka5.setCell (g := w.heap.size) (.inl (by omega)) _ _).setCell (g := w.heap.size) (.inl (by omega)) _ _).setCell (g := w.heap.size) (.inl (by omega)) _ _
  have hb6 := heap_alloc_new (((V.setCell ⟨w.heap.size, 0, none⟩ (.int .i64 5)).setCell ⟨w.heap.size, 1, none⟩ (.string ⟨#[]⟩)).setCell ⟨w.heap.size, 2, none⟩ (.slice (some ⟨V.heap.size, 0, none⟩) 1 1)) (.cells #[.int .i64 k, .string s', .slice a ks.len c] 25)
  rw [hXs] at hb6
  have hl7 := hB5.size
  have HX := Lib.hid (And.intro (hX0.alloc (by omega) (.cells #[.int .i64 k, .string s', .slice a ks.len c] 25)) (And.intro hb6 (And.intro ((hXk.alloc (by omega) (.cells #[.int .i64 k, .string s', .slice a ks.len c] 25)).more (Nat.le_succ w.heap.size) (Nat.le_succ _)) hXs)))
  obtain ⟨x0, x1, x2, xf0, xf1, xf2, xl⟩ := hb5r.facts
  obtain ⟨y0, y1, y2, yf0, yf1, yf2, yl⟩ := hb5.facts
  have Hka := Lib.hid (And.intro hlc (And.intro hok hw))
  clear hB4 hka hlc hok hw hA5 hb5 hb4 hka5 hB5 hb5r hb6 hB4' hX0 hXs hXk
  go_wp2_with fail
  refine bodyPost_ret (v := .tuple #[.agg #[.int .i64 5, .string ⟨#[]⟩, .slice (some ⟨V.heap.size, 0, none⟩) 1 1], .int .i64 nx]) (by simp [results, Try.results23, go_sem, *]) rfl ?_
  obtain ⟨hX1, hX2, hX3, hX4⟩ := HX.out
  have hok2 := Hka.out.2.1
  refine ⟨5, ⟨#[]⟩, .node k s' ks .nil, some ⟨V.heap.size, 0, none⟩, 1, nx, rfl, hX1, KP.one hX2 (by omega) (by rw [World.size_alloc, hX4]; omega) Hka.out.1 (hX3.more (Nat.le_refl _) (by rw [World.size_alloc, hX4]; exact Nat.le_refl _)), Nat.le_refl _, ⟨by have h1 := hok2.1; have h2 := Bd_pos d; simp only [Fo.size, Bd]; omega, Nat.zero_le _, ⟨by have := hok2.2.1; unfold maxLen; omega, by have := hok2.2.2.2; unfold maxLen; omega, hok2.2.2.1, trivial⟩, by simp [Fo.len]⟩, hx1, hx2, by omega, ?_⟩
  rw [hdr.out, Hc.out]
  exact want_op (K := 5) (by omega) Hka.out.2.2

set_option maxRecDepth 100000 in
set_option maxHeartbeats 500000 in
theorem parse_rest (d : Nat) (hd6 : d ≤ 100) (ih : LpC d) (s : ByteArray) (at_ : Nat) (w : World) (hs : s.size ≤ 1048576) (ha : at_ < s.size) (hc : s[at_] = 62) :
    Calls Try.prog 23 #[.string s, .int .i64 at_, .int .i64 ((d : Int) + 1)] w (RdPost s at_ (d + 1) (Want (s.data.toList.drop at_) (d + 1) at_) w) := by
  have hb0 := BxE.new w 0 .empty (.slice none 0 0) 25
  have hA := (Below.refl w.heap.size w).alloc (Nat.le_refl _) (.cells #[.int .i64 0, .string .empty, .slice none 0 0] 25)
  have ha0 : (0 : Int) ≤ (at_ : Int) := by omega
  have ha1 : (at_ : Int) < (s.size : Int) := by omega
  have hg1 : decide (s.size ≤ at_) = false := decide_eq_false (by omega)
  have hg2 : ¬ (d : Int) + 1 < 1 := by omega
  have hg3 : (0 : Int) ≤ (d : Int) := by omega
  have hdr := Lib.hid (bdrop ha)
  have Hb0 := Lib.hid hb0
  have HA := Lib.hid hA
  have Hih := Lib.hid ih
  clear hb0 hA ih
  have hc39 : ((s[at_].toNat : Int) == 39) = false := by rw [hc]; rfl
  have hc91 : ((s[at_].toNat : Int) == 91) = false := by rw [hc]; rfl
  have hc40 : ((s[at_].toNat : Int) == 40) = false := by rw [hc]; rfl
  have hc64 : ((s[at_].toNat : Int) == 64) = false := by rw [hc]; rfl
  have hc60 : ((s[at_].toNat : Int) == 60) = false := by rw [hc]; rfl
  have hc62 : ((s[at_].toNat : Int) == 62) = true := by rw [hc]; rfl
  have hc35 : ((s[at_].toNat : Int) == 35) = false := by rw [hc]; rfl
  have Hc := Lib.hid hc
  clear hc
  go_enter Try.func23, Try.ntmps23
  go_wp2_with fail
  rw [show ((at_ : Int) + 1) = ((at_ + 1 : Nat) : Int) from rfl]
  refine (Hih.out s (at_ + 1) _ hs (by omega)).mono ?_
  rintro e w4 ⟨k, s', ks, a, c, nx, rfl, hB4, hka, hlc, hok, hx1, hx2, hx3, hw⟩
  have hb4 := Hb0.out.next hB4
  have hB4' := HA.out.trans (hB4.mono HA.out.size)
  rw [World.size_alloc] at hka
  have hA5 := (Below.refl w4.heap.size w4).alloc (Nat.le_refl _) (.cells #[.int .i64 k, .string s', .slice a ks.len c] 25)
  have hb5 := BxE.new w4 k s' (.slice a ks.len c) 25
  have hka5 := hka.next hA5
  have hB5 := hB4'.trans (hA5.mono hB4'.size)
  have hb5r := hb4.next hA5
  have hl5 : w4.heap.size < (w4.alloc (.cells #[.int .i64 k, .string s', .slice a ks.len c] 25)).heap.size := by simp
  have hl6 := hB4'.size
  go_upto_region 21 with (fail)
  generalize w4.alloc (.cells #[.int .i64 k, .string s', .slice a ks.len c] 25) = V at *
  have hX0 : Below w.heap.size w (((V.setCell ⟨w.heap.size, 0, none⟩ (.int .i64 6)).setCell ⟨w.heap.size, 1, none⟩ (.string ⟨#[]⟩)).setCell ⟨w.heap.size, 2, none⟩ (.slice (some ⟨V.heap.size, 0, none⟩) 1 1)) := rd_set hB5 (Nat.le_refl _)
  have hXs : (((V.setCell ⟨w.heap.size, 0, none⟩ (.int .i64 6)).setCell ⟨w.heap.size, 1, none⟩ (.string ⟨#[]⟩)).setCell ⟨w.heap.size, 2, none⟩ (.slice (some ⟨V.heap.size, 0, none⟩) 1 1)).heap.size = V.heap.size := by simp [World.setCell]
  have hXk : KP (((V.setCell ⟨w.heap.size, 0, none⟩ (.int .i64 6)).setCell ⟨w.heap.size, 1, none⟩ (.string ⟨#[]⟩)).setCell ⟨w.heap.size, 2, none⟩ (.slice (some ⟨V.heap.size, 0, none⟩) 1 1)) (w.heap.size + 1) V.heap.size ks a ks.len := ((hka5.setCell (g := w.heap.size) (.inl (by omega)) _ _).setCell (g := w.heap.size) (.inl (by omega)) _ _).setCell (g := w.heap.size) (.inl (by omega)) _ _
  have hb6 := heap_alloc_new (((V.setCell ⟨w.heap.size, 0, none⟩ (.int .i64 6)).setCell ⟨w.heap.size, 1, none⟩ (.string ⟨#[]⟩)).setCell ⟨w.heap.size, 2, none⟩ (.slice (some ⟨V.heap.size, 0, none⟩) 1 1)) (.cells #[.int .i64 k, .string s', .slice a ks.len c] 25)
  rw [hXs] at hb6
  have hl7 := hB5.size
  have HX := Lib.hid (And.intro (hX0.alloc (by omega) (.cells #[.int .i64 k, .string s', .slice a ks.len c] 25)) (And.intro hb6 (And.intro ((hXk.alloc (by omega) (.cells #[.int .i64 k, .string s', .slice a ks.len c] 25)).more (Nat.le_succ w.heap.size) (Nat.le_succ _)) hXs)))
  obtain ⟨x0, x1, x2, xf0, xf1, xf2, xl⟩ := hb5r.facts
  obtain ⟨y0, y1, y2, yf0, yf1, yf2, yl⟩ := hb5.facts
  have Hka := Lib.hid (And.intro hlc (And.intro hok hw))
  clear hB4 hka hlc hok hw hA5 hb5 hb4 hka5 hB5 hb5r hb6 hB4' hX0 hXs hXk
  go_wp2_with fail
  refine bodyPost_ret (v := .tuple #[.agg #[.int .i64 6, .string ⟨#[]⟩, .slice (some ⟨V.heap.size, 0, none⟩) 1 1], .int .i64 nx]) (by simp [results, Try.results23, go_sem, *]) rfl ?_
  obtain ⟨hX1, hX2, hX3, hX4⟩ := HX.out
  have hok2 := Hka.out.2.1
  refine ⟨6, ⟨#[]⟩, .node k s' ks .nil, some ⟨V.heap.size, 0, none⟩, 1, nx, rfl, hX1, KP.one hX2 (by omega) (by rw [World.size_alloc, hX4]; omega) Hka.out.1 (hX3.more (Nat.le_refl _) (by rw [World.size_alloc, hX4]; exact Nat.le_refl _)), Nat.le_refl _, ⟨by have h1 := hok2.1; have h2 := Bd_pos d; simp only [Fo.size, Bd]; omega, Nat.zero_le _, ⟨by have := hok2.2.1; unfold maxLen; omega, by have := hok2.2.2.2; unfold maxLen; omega, hok2.2.2.1, trivial⟩, by simp [Fo.len]⟩, hx1, hx2, by omega, ?_⟩
  rw [hdr.out, Hc.out]
  exact want_op (K := 6) (by omega) Hka.out.2.2

set_option maxRecDepth 100000 in
set_option maxHeartbeats 500000 in
theorem parse_count (d : Nat) (hd6 : d ≤ 100) (ih : LpC d) (s : ByteArray) (at_ : Nat) (w : World) (hs : s.size ≤ 1048576) (ha : at_ < s.size) (hc : s[at_] = 35) :
    Calls Try.prog 23 #[.string s, .int .i64 at_, .int .i64 ((d : Int) + 1)] w (RdPost s at_ (d + 1) (Want (s.data.toList.drop at_) (d + 1) at_) w) := by
  have hb0 := BxE.new w 0 .empty (.slice none 0 0) 25
  have hA := (Below.refl w.heap.size w).alloc (Nat.le_refl _) (.cells #[.int .i64 0, .string .empty, .slice none 0 0] 25)
  have ha0 : (0 : Int) ≤ (at_ : Int) := by omega
  have ha1 : (at_ : Int) < (s.size : Int) := by omega
  have hg1 : decide (s.size ≤ at_) = false := decide_eq_false (by omega)
  have hg2 : ¬ (d : Int) + 1 < 1 := by omega
  have hg3 : (0 : Int) ≤ (d : Int) := by omega
  have hdr := Lib.hid (bdrop ha)
  have Hb0 := Lib.hid hb0
  have HA := Lib.hid hA
  have Hih := Lib.hid ih
  clear hb0 hA ih
  have hc39 : ((s[at_].toNat : Int) == 39) = false := by rw [hc]; rfl
  have hc91 : ((s[at_].toNat : Int) == 91) = false := by rw [hc]; rfl
  have hc40 : ((s[at_].toNat : Int) == 40) = false := by rw [hc]; rfl
  have hc64 : ((s[at_].toNat : Int) == 64) = false := by rw [hc]; rfl
  have hc60 : ((s[at_].toNat : Int) == 60) = false := by rw [hc]; rfl
  have hc62 : ((s[at_].toNat : Int) == 62) = false := by rw [hc]; rfl
  have hc35 : ((s[at_].toNat : Int) == 35) = true := by rw [hc]; rfl
  have Hc := Lib.hid hc
  clear hc
  go_enter Try.func23, Try.ntmps23
  go_wp2_with fail
  rw [show ((at_ : Int) + 1) = ((at_ + 1 : Nat) : Int) from rfl]
  refine (Hih.out s (at_ + 1) _ hs (by omega)).mono ?_
  rintro e w4 ⟨k, s', ks, a, c, nx, rfl, hB4, hka, hlc, hok, hx1, hx2, hx3, hw⟩
  have hb4 := Hb0.out.next hB4
  have hB4' := HA.out.trans (hB4.mono HA.out.size)
  rw [World.size_alloc] at hka
  have hA5 := (Below.refl w4.heap.size w4).alloc (Nat.le_refl _) (.cells #[.int .i64 k, .string s', .slice a ks.len c] 25)
  have hb5 := BxE.new w4 k s' (.slice a ks.len c) 25
  have hka5 := hka.next hA5
  have hB5 := hB4'.trans (hA5.mono hB4'.size)
  have hb5r := hb4.next hA5
  have hl5 : w4.heap.size < (w4.alloc (.cells #[.int .i64 k, .string s', .slice a ks.len c] 25)).heap.size := by simp
  have hl6 := hB4'.size
  go_upto_region 21 with (fail)
  generalize w4.alloc (.cells #[.int .i64 k, .string s', .slice a ks.len c] 25) = V at *
  have hX0 : Below w.heap.size w (((V.setCell ⟨w.heap.size, 0, none⟩ (.int .i64 7)).setCell ⟨w.heap.size, 1, none⟩ (.string ⟨#[]⟩)).setCell ⟨w.heap.size, 2, none⟩ (.slice (some ⟨V.heap.size, 0, none⟩) 1 1)) := rd_set hB5 (Nat.le_refl _)
  have hXs : (((V.setCell ⟨w.heap.size, 0, none⟩ (.int .i64 7)).setCell ⟨w.heap.size, 1, none⟩ (.string ⟨#[]⟩)).setCell ⟨w.heap.size, 2, none⟩ (.slice (some ⟨V.heap.size, 0, none⟩) 1 1)).heap.size = V.heap.size := by simp [World.setCell]
  have hXk : KP (((V.setCell ⟨w.heap.size, 0, none⟩ (.int .i64 7)).setCell ⟨w.heap.size, 1, none⟩ (.string ⟨#[]⟩)).setCell ⟨w.heap.size, 2, none⟩ (.slice (some ⟨V.heap.size, 0, none⟩) 1 1)) (w.heap.size + 1) V.heap.size ks a ks.len := ((hka5.setCell (g := w.heap.size) (.inl (by omega)) _ _).setCell (g := w.heap.size) (.inl (by omega)) _ _).setCell (g := w.heap.size) (.inl (by omega)) _ _
  have hb6 := heap_alloc_new (((V.setCell ⟨w.heap.size, 0, none⟩ (.int .i64 7)).setCell ⟨w.heap.size, 1, none⟩ (.string ⟨#[]⟩)).setCell ⟨w.heap.size, 2, none⟩ (.slice (some ⟨V.heap.size, 0, none⟩) 1 1)) (.cells #[.int .i64 k, .string s', .slice a ks.len c] 25)
  rw [hXs] at hb6
  have hl7 := hB5.size
  have HX := Lib.hid (And.intro (hX0.alloc (by omega) (.cells #[.int .i64 k, .string s', .slice a ks.len c] 25)) (And.intro hb6 (And.intro ((hXk.alloc (by omega) (.cells #[.int .i64 k, .string s', .slice a ks.len c] 25)).more (Nat.le_succ w.heap.size) (Nat.le_succ _)) hXs)))
  obtain ⟨x0, x1, x2, xf0, xf1, xf2, xl⟩ := hb5r.facts
  obtain ⟨y0, y1, y2, yf0, yf1, yf2, yl⟩ := hb5.facts
  have Hka := Lib.hid (And.intro hlc (And.intro hok hw))
  clear hB4 hka hlc hok hw hA5 hb5 hb4 hka5 hB5 hb5r hb6 hB4' hX0 hXs hXk
  go_wp2_with fail
  refine bodyPost_ret (v := .tuple #[.agg #[.int .i64 7, .string ⟨#[]⟩, .slice (some ⟨V.heap.size, 0, none⟩) 1 1], .int .i64 nx]) (by simp [results, Try.results23, go_sem, *]) rfl ?_
  obtain ⟨hX1, hX2, hX3, hX4⟩ := HX.out
  have hok2 := Hka.out.2.1
  refine ⟨7, ⟨#[]⟩, .node k s' ks .nil, some ⟨V.heap.size, 0, none⟩, 1, nx, rfl, hX1, KP.one hX2 (by omega) (by rw [World.size_alloc, hX4]; omega) Hka.out.1 (hX3.more (Nat.le_refl _) (by rw [World.size_alloc, hX4]; exact Nat.le_refl _)), Nat.le_refl _, ⟨by have h1 := hok2.1; have h2 := Bd_pos d; simp only [Fo.size, Bd]; omega, Nat.zero_le _, ⟨by have := hok2.2.1; unfold maxLen; omega, by have := hok2.2.2.2; unfold maxLen; omega, hok2.2.2.1, trivial⟩, by simp [Fo.len]⟩, hx1, hx2, by omega, ?_⟩
  rw [hdr.out, Hc.out]
  exact want_op (K := 7) (by omega) Hka.out.2.2

set_option maxRecDepth 100000 in
set_option maxHeartbeats 500000 in
theorem parse_other (d : Nat) (hd6 : d ≤ 100) (ih : LpC d) (s : ByteArray) (at_ : Nat) (w : World) (hs : s.size ≤ 1048576) (ha : at_ < s.size) (hn39 : s[at_] ≠ 39) (hn91 : s[at_] ≠ 91) (hn40 : s[at_] ≠ 40) (hn64 : s[at_] ≠ 64) (hn60 : s[at_] ≠ 60) (hn62 : s[at_] ≠ 62) (hn35 : s[at_] ≠ 35) :
    Calls Try.prog 23 #[.string s, .int .i64 at_, .int .i64 ((d : Int) + 1)] w (RdPost s at_ (d + 1) (Want (s.data.toList.drop at_) (d + 1) at_) w) := by
  have hb0 := BxE.new w 0 .empty (.slice none 0 0) 25
  have hA := (Below.refl w.heap.size w).alloc (Nat.le_refl _) (.cells #[.int .i64 0, .string .empty, .slice none 0 0] 25)
  have ha0 : (0 : Int) ≤ (at_ : Int) := by omega
  have ha1 : (at_ : Int) < (s.size : Int) := by omega
  have hg1 : decide (s.size ≤ at_) = false := decide_eq_false (by omega)
  have hg2 : ¬ (d : Int) + 1 < 1 := by omega
  have hg3 : (0 : Int) ≤ (d : Int) := by omega
  have hdr := Lib.hid (bdrop ha)
  have Hb0 := Lib.hid hb0
  have HA := Lib.hid hA
  have Hih := Lib.hid ih
  clear hb0 hA ih
  have hc39 : ((s[at_].toNat : Int) == 39) = false := beq_eq_false_iff_ne.2 (fun h => hn39 (UInt8.toNat_inj.1 (by show s[at_].toNat = 39; omega)))
  have hc91 : ((s[at_].toNat : Int) == 91) = false := beq_eq_false_iff_ne.2 (fun h => hn91 (UInt8.toNat_inj.1 (by show s[at_].toNat = 91; omega)))
  have hc40 : ((s[at_].toNat : Int) == 40) = false := beq_eq_false_iff_ne.2 (fun h => hn40 (UInt8.toNat_inj.1 (by show s[at_].toNat = 40; omega)))
  have hc64 : ((s[at_].toNat : Int) == 64) = false := beq_eq_false_iff_ne.2 (fun h => hn64 (UInt8.toNat_inj.1 (by show s[at_].toNat = 64; omega)))
  have hc60 : ((s[at_].toNat : Int) == 60) = false := beq_eq_false_iff_ne.2 (fun h => hn60 (UInt8.toNat_inj.1 (by show s[at_].toNat = 60; omega)))
  have hc62 : ((s[at_].toNat : Int) == 62) = false := beq_eq_false_iff_ne.2 (fun h => hn62 (UInt8.toNat_inj.1 (by show s[at_].toNat = 62; omega)))
  have hc35 : ((s[at_].toNat : Int) == 35) = false := beq_eq_false_iff_ne.2 (fun h => hn35 (UInt8.toNat_inj.1 (by show s[at_].toNat = 35; omega)))
  have Hnn := Lib.hid (And.intro hn39 (And.intro hn91 (And.intro hn40 (And.intro hn64 (And.intro hn60 (And.intro hn62 hn35))))))
  clear hn39 hn91 hn40 hn64 hn60 hn62 hn35
  obtain ⟨x0, x1, x2, xf0, xf1, xf2, xl⟩ := Hb0.out.facts
  go_enter Try.func23, Try.ntmps23
  go_wp2_with fail
  refine bodyPost_ret (v := .tuple #[.agg #[.int .i64 0, .string ⟨#[]⟩, .slice none 0 0], .int .i64 (-1)]) (by simp [results, Try.results23, go_sem, *]) rfl ?_
  refine ⟨0, ⟨#[]⟩, .nil, none, 0, -1, rfl, (Below.refl w.heap.size w).alloc (Nat.le_refl _) _, KP.nil, Nat.le_refl _, nok_zero _ _, by omega, by omega, by omega, ?_⟩
  rw [hdr.out]
  refine want_other fun k hk e => ?_
  obtain ⟨h1, h2, h3, h4, h5, h6, h7⟩ := Hnn.out
  rcases hk with rfl | rfl | rfl | rfl | rfl | rfl | rfl
  · exact h1 e.symm
  · exact h4 e.symm
  · exact h3 e.symm
  · exact h2 e.symm
  · exact h5 e.symm
  · exact h6 e.symm
  · exact h7 e.symm

set_option maxHeartbeats 1000000 in
theorem parse_end (d : Nat) (hd6 : d ≤ 100) (s : ByteArray) (at_ : Nat) (w : World) (hs : s.size ≤ 1048576) (ha : at_ = s.size) :
    Calls Try.prog 23 #[.string s, .int .i64 at_, .int .i64 ((d : Int) + 1)] w (RdPost s at_ (d + 1) (Want (s.data.toList.drop at_) (d + 1) at_) w) := by
  have hb0 := BxE.new w 0 .empty (.slice none 0 0) 25
  have ha0 : (0 : Int) ≤ (at_ : Int) := by omega
  have hg1 : decide (s.size ≤ at_) = true := decide_eq_true (by omega)
  have hg2 : ¬ (d : Int) + 1 < 1 := by omega
  have hdr := Lib.hid (bdrop_all (s := s) (j := at_) (by omega))
  obtain ⟨x0, x1, x2, xf0, xf1, xf2, xl⟩ := hb0.facts
  clear hb0 ha
  go_enter Try.func23, Try.ntmps23
  go_wp2_with fail
  refine bodyPost_ret (v := .tuple #[.agg #[.int .i64 0, .string ⟨#[]⟩, .slice none 0 0], .int .i64 (-1)]) (by simp [results, Try.results23, go_sem, *]) rfl ?_
  refine ⟨0, ⟨#[]⟩, .nil, none, 0, -1, rfl, (Below.refl w.heap.size w).alloc (Nat.le_refl _) _, KP.nil, Nat.le_refl _, nok_zero _ _, by omega, by omega, by omega, ?_⟩
  rw [hdr.out]
  exact want_nil
set_option maxHeartbeats 1000000 in
theorem parse_zero : LpC 0 := by
  intro s at_ w hs ha
  have hb0 := BxE.new w 0 .empty (.slice none 0 0) 25
  obtain ⟨x0, x1, x2, xf0, xf1, xf2, xl⟩ := hb0.facts
  clear hb0
  go_enter Try.func23, Try.ntmps23
  go_wp2_with fail
  refine bodyPost_ret (v := .tuple #[.agg #[.int .i64 0, .string ⟨#[]⟩, .slice none 0 0], .int .i64 (-1)]) (by simp [results, Try.results23, go_sem, *]) rfl ?_
  exact ⟨0, ⟨#[]⟩, .nil, none, 0, -1, rfl, (Below.refl w.heap.size w).alloc (Nat.le_refl _) _, KP.nil, Nat.le_refl _, nok_zero _ _, by omega, by omega, by omega, want_zero⟩
theorem parse_all : ∀ d, d ≤ 100 → LpC d := by
  intro d
  induction d with
  | zero => exact fun _ => parse_zero
  | succ d ih =>
    intro hd s at_ w hs ha
    have ihd := ih (by omega)
    have hc : ((d + 1 : Nat) : Int) = (d : Int) + 1 := by omega
    rw [hc]
    by_cases hlt : at_ < s.size
    · by_cases h1 : s[at_] = 39
      · exact parse_text d (by omega) ihd s at_ w hs hlt h1
      by_cases h2 : s[at_] = 91
      · exact parse_four d (by omega) ihd s at_ w hs hlt h2
      by_cases h3 : s[at_] = 40
      · exact parse_join d (by omega) ihd s at_ w hs hlt h3
      by_cases h4 : s[at_] = 64
      · exact parse_read d (by omega) ihd s at_ w hs hlt h4
      by_cases h5 : s[at_] = 60
      · exact parse_first d (by omega) ihd s at_ w hs hlt h5
      by_cases h6 : s[at_] = 62
      · exact parse_rest d (by omega) ihd s at_ w hs hlt h6
      by_cases h7 : s[at_] = 35
      · exact parse_count d (by omega) ihd s at_ w hs hlt h7
      exact parse_other d (by omega) ihd s at_ w hs hlt h1 h2 h3 h4 h5 h6 h7
    · exact parse_end d (by omega) s at_ w hs (by omega)
end Go.Proofs.Ytecekkmagldpoaa
