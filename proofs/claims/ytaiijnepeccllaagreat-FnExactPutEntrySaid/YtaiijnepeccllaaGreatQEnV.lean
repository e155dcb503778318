/-
  Is an entry valid: of the program and of the model.
-/
import Derived.Test.YtaiijnepeccllaaGreatQRdV
import Derived.Test.YtaiijnepeccllaaGreatQParP
import Derived.Test.YtaiijnepeccllaaGreatQParQ
namespace Go.Proofs.YtaiijnepeccllaaGreat
set_option linter.unusedVariables false
set_option linter.unusedSimpArgs false
open Go.RowKit

/-- is it the text of an expression? -/
def IsP (l : List UInt8) (b : Bool) : Prop := (b = true ∧ ∃ k s ks, validE k s ks = true ∧ l = fm1 k s ks) ∨ (b = false ∧ ∀ k s ks, validE k s ks = true → l ≠ fm1 k s ks)
theorem isP_ex (l : List UInt8) : ∃ b, IsP l b := by
  by_cases h : ∃ k s ks, validE k s ks = true ∧ l = fm1 k s ks
  · exact ⟨true, .inl ⟨rfl, h⟩⟩
  · exact ⟨false, .inr ⟨rfl, fun k s ks h1 h2 => h ⟨k, s, ks, h1, h2⟩⟩⟩
theorem isP_all : ∃ pb : ByteArray → Bool, ∀ s, IsP s.data.toList (pb s) := ⟨fun s => (isP_ex s.data.toList).choose, fun s => (isP_ex s.data.toList).choose_spec⟩
/-- is the entry valid, if its body is a text of an expression or not? -/
def enB (b : Bool) (x : En) : Bool := b && (!(findF x.2.2.1 x.1).2 && (pathB x.1 && (textB x.2.2.2 && readsB x.2.2.1)))
/-- what ParseExpr answers, as far as it is looked at -/
def PbPost (b : Bool) (w : World) (e : Ending) (w' : World) : Prop := ∃ k s a n c, e = .returned (.tuple #[.agg #[.int .i64 k, .string s, .slice a n c], .bool b]) ∧ Below w.heap.size w w'
theorem parseI_b (s : ByteArray) (b : Bool) (w : World) (hb : IsP s.data.toList b) (hs : s.size ≤ 1048576) : Calls Tryz.prog 53 #[.string s] w (PbPost b w) :=
  (parseI_any s _ w rfl hs).mono fun e w' ⟨hB, h⟩ => by
    rcases h with ⟨k, s', ks, a, c, bk, g, he, _, hv, hl⟩ | ⟨he, hno⟩
    · rcases hb with ⟨rfl, _⟩ | ⟨rfl, hn⟩
      · exact ⟨k, s', a, ks.len, c, he, hB⟩
      · exact absurd hl (hn _ _ _ hv)
    · rcases hb with ⟨rfl, k, s', ks, hv, hl⟩ | ⟨rfl, _⟩
      · exact absurd hl (hno _ _ _ hv)
      · exact ⟨0, ⟨#[]⟩, none, 0, 0, he, hB⟩
theorem parseS_b (s : ByteArray) (b : Bool) (w : World) (hb : IsP s.data.toList b) (hs : s.size ≤ 1048576) : Calls Tryz.prog 48 #[.string s] w (PbPost b w) :=
  (parseS_any s _ w rfl hs).mono fun e w' ⟨hB, h⟩ => by
    rcases h with ⟨k, s', ks, a, c, he, _, _, hv, hl⟩ | ⟨he, hno⟩
    · rcases hb with ⟨rfl, _⟩ | ⟨rfl, hn⟩
      · exact ⟨k, s', a, ks.len, c, he, hB⟩
      · exact absurd hl (hn _ _ _ hv)
    · rcases hb with ⟨rfl, k, s', ks, hv, hl⟩ | ⟨rfl, _⟩
      · exact absurd hl (hno _ _ _ hv)
      · exact ⟨0, ⟨#[]⟩, none, 0, 0, he, hB⟩

set_option maxRecDepth 100000 in
set_option maxHeartbeats 2000000 in
theorem entryI_any (t s : ByteArray) (fs : List Fl) (x : ByteArray) (a : Option Addr) (n c : Nat) (b : Bool) (w : World) (hf : FilesAt w w.heap.size a n fs) (hfit : EnFit (t, s, fs, x)) (hs : s.size ≤ 1048576) (hnc : n ≤ c) (hb : IsP s.data.toList b) :
    Calls Tryz.prog 40 #[.agg #[.string t, .string s, .slice a n c, .string x]] w fun e w' => e = .returned (.bool (enB b (t, s, fs, x))) ∧ Below w.heap.size w w' := by
  obtain ⟨ht, _, hnl, hff, hx⟩ := hfit
  simp only at ht hnl hff hx
  have hn : n ≤ maxLen := by rw [← hf.1]; exact hnl
  have hA := (Below.refl w.heap.size w).alloc (Nat.le_refl _) (.cells #[.string t, .string s, .slice a n c, .string x] 26)
  have hbx := BxN.new w t s (.slice a n c) x 26
  have Hp := fun W => Lib.hid (parseI_b s b W hb hs)
  have Hd := Lib.hid (And.intro hf (And.intro hff (And.intro hn hnc)))
  have HA := Lib.hid hA
  have Hbx := Lib.hid hbx
  clear hA hbx hb hs hf hff hn hnc hnl
  go_enter Tryz.func40, Tryz.ntmps40
  go_wp2_with fail
  refine (Hp _).out.mono ?_
  rintro e w1 ⟨k1, s1, a1, n1, c1, rfl, hB1⟩
  have hA1 := (Below.refl w1.heap.size w1).alloc (Nat.le_refl _) (.cells #[.int .i64 k1, .string s1, .slice a1 n1 c1] 73)
  have hb1 := (Hbx.out.next hB1).next hA1
  have hB1' := HA.out.trans (hB1.mono HA.out.size)
  have hB2 := hB1'.trans (hA1.mono hB1'.size)
  go_upto_region 2 with (fail)
  generalize w1.alloc (.cells #[.int .i64 k1, .string s1, .slice a1 n1 c1] 73) = V at *
  have HB2 := Lib.hid hB2
  have Hb1 := Lib.hid hb1
  obtain ⟨x0, x1, x2, x3, xf0, xf1, xf2, xf3, xl⟩ := hb1.facts
  clear hB1 hA1 hb1 hB1' hB2
  cases b with
  | false =>
    go_wp2_with fail
    go_ret
    exact ⟨rfl, HB2.out⟩
  | true =>
  go_wp2_with fail
  refine (pathI_any t V ht).mono ?_
  rintro e w2 ⟨rfl, rfl⟩
  obtain ⟨pb, hpb⟩ : ∃ r, pathB t = r := ⟨_, rfl⟩
  have Hpb := Lib.hid hpb
  rw [hpb]
  clear hpb
  cases pb with
  | false =>
    go_wp2_with fail
    go_ret
    exact ⟨ret_bool (by unfold enB; simp only [Hpb.out, Bool.false_and, Bool.and_false]), HB2.out⟩
  | true =>
  go_wp2_with fail
  refine (textI_any x V hx).mono ?_
  rintro e w2 ⟨rfl, rfl⟩
  obtain ⟨tb, htb⟩ : ∃ r, textB x = r := ⟨_, rfl⟩
  have Htb := Lib.hid htb
  rw [htb]
  clear htb
  cases tb with
  | false =>
    go_wp2_with fail
    go_ret
    exact ⟨ret_bool (by unfold enB; simp only [Htb.out, Bool.false_and, Bool.and_false]), HB2.out⟩
  | true =>
  go_wp2_with fail
  refine (readsI_rd t s a n c fs x V ((Hd.out.1.below HB2.out).more HB2.out.size) Hd.out.2.1 Hd.out.2.2.1 Hd.out.2.2.2).mono ?_
  rintro e w2 ⟨rfl, hB3⟩
  have hB4 := HB2.out.trans (hB3.mono HB2.out.size)
  obtain ⟨rb, hrb⟩ : ∃ r, readsI t fs = r := ⟨_, rfl⟩
  have Hrb := Lib.hid hrb
  rw [hrb]
  clear hrb hB3
  go_wp2_with fail
  go_ret
  exact ⟨ret_bool (by unfold enB; simp only [Hpb.out, Htb.out, ← readsI_eq, Bool.true_and]; rw [← Hrb.out, readsI_eq]), hB4⟩

set_option maxRecDepth 100000 in
set_option maxHeartbeats 2000000 in
theorem entryS_any (t s : ByteArray) (fs : List Fl) (x : ByteArray) (a : Option Addr) (n c : Nat) (b : Bool) (w : World) (hf : FilesAt w w.heap.size a n fs) (hfit : EnFit (t, s, fs, x)) (hs : s.size ≤ 1048576) (hnc : n ≤ c) (hb : IsP s.data.toList b) :
    Calls Tryz.prog 38 #[.agg #[.string t, .string s, .slice a n c, .string x]] w fun e w' => e = .returned (.bool (enB b (t, s, fs, x))) ∧ Below w.heap.size w w' := by
  obtain ⟨ht, _, hnl, hff, hx⟩ := hfit
  simp only at ht hnl hff hx
  have hn : n ≤ maxLen := by rw [← hf.1]; exact hnl
  have hA := (Below.refl w.heap.size w).alloc (Nat.le_refl _) (.cells #[.string t, .string s, .slice a n c, .string x] 26)
  have hbx := BxN.new w t s (.slice a n c) x 26
  have Hp := fun W => Lib.hid (parseS_b s b W hb hs)
  have Hd := Lib.hid (And.intro hf (And.intro hff (And.intro hn hnc)))
  have HA := Lib.hid hA
  have Hbx := Lib.hid hbx
  clear hA hbx hb hs hf hff hn hnc hnl
  go_enter Tryz.func38, Tryz.ntmps38
  go_wp2_with fail
  refine (Hp _).out.mono ?_
  rintro e w1 ⟨k1, s1, a1, n1, c1, rfl, hB1⟩
  have hA1 := (Below.refl w1.heap.size w1).alloc (Nat.le_refl _) (.cells #[.int .i64 k1, .string s1, .slice a1 n1 c1] 73)
  have hb1 := (Hbx.out.next hB1).next hA1
  have hB1' := HA.out.trans (hB1.mono HA.out.size)
  have hB2 := hB1'.trans (hA1.mono hB1'.size)
  go_upto_region 2 with (fail)
  generalize w1.alloc (.cells #[.int .i64 k1, .string s1, .slice a1 n1 c1] 73) = V0 at *
  obtain ⟨x0, x1, x2, x3, xf0, xf1, xf2, xf3, xl⟩ := hb1.facts
  have Hb0 := Lib.hid hb1
  have HB20 := Lib.hid hB2
  clear hB1 hA1 hb1 hB1' hB2
  go_wp2_with fail
  refine (findS0_any a n c fs t V0 ((Hd.out.1.below HB20.out).more HB20.out.size) Hd.out.2.2.1).mono ?_
  rintro e V ⟨rfl, hB3⟩
  have HB2 := Lib.hid (HB20.out.trans (hB3.mono HB20.out.size))
  have Hb1 := Lib.hid (Hb0.out.next hB3)
  clear x0 x1 x2 x3 xf0 xf1 xf2 xf3 xl hB3
  obtain ⟨x0, x1, x2, x3, xf0, xf1, xf2, xf3, xl⟩ := Hb1.out.facts
  obtain ⟨fb, hfb⟩ : ∃ r, (findF fs t).2 = r := ⟨_, rfl⟩
  have Hfb := Lib.hid hfb
  rw [hfb]
  generalize (findF fs t).1 = q
  clear hfb
  cases b with
  | false =>
    go_wp2_with fail
    go_ret
    exact ⟨rfl, HB2.out⟩
  | true =>
  cases fb with
  | true =>
    go_wp2_with fail
    go_ret
    exact ⟨ret_bool (by unfold enB; simp only [Hfb.out, Bool.not_true, Bool.false_and, Bool.and_false]), HB2.out⟩
  | false =>
  go_wp2_with fail
  refine (pathS_any t V ht).mono ?_
  rintro e w2 ⟨rfl, rfl⟩
  obtain ⟨pb, hpb⟩ : ∃ r, pathB t = r := ⟨_, rfl⟩
  have Hpb := Lib.hid hpb
  rw [hpb]
  clear hpb
  cases pb with
  | false =>
    go_wp2_with fail
    go_ret
    exact ⟨ret_bool (by unfold enB; simp only [Hpb.out, Bool.false_and, Bool.and_false]), HB2.out⟩
  | true =>
  go_wp2_with fail
  refine (textS_any x V hx).mono ?_
  rintro e w2 ⟨rfl, rfl⟩
  obtain ⟨tb, htb⟩ : ∃ r, textB x = r := ⟨_, rfl⟩
  have Htb := Lib.hid htb
  rw [htb]
  clear htb
  cases tb with
  | false =>
    go_wp2_with fail
    go_ret
    exact ⟨ret_bool (by unfold enB; simp only [Htb.out, Bool.false_and, Bool.and_false]), HB2.out⟩
  | true =>
  go_wp2_with fail
  refine (readsS_rd a n c fs V ((Hd.out.1.below HB2.out).more HB2.out.size) Hd.out.2.1 Hd.out.2.2.1 Hd.out.2.2.2).mono ?_
  rintro e w2 ⟨rfl, hB3⟩
  have hB4 := HB2.out.trans (hB3.mono HB2.out.size)
  obtain ⟨rb, hrb⟩ : ∃ r, readsB fs = r := ⟨_, rfl⟩
  have Hrb := Lib.hid hrb
  rw [hrb]
  clear hrb hB3
  go_wp2_with fail
  go_ret
  exact ⟨ret_bool (by unfold enB; simp only [Hpb.out, Htb.out, Hfb.out, Hrb.out, Bool.true_and, Bool.not_false]), hB4⟩
end Go.Proofs.YtaiijnepeccllaaGreat
