/-
  The law FnPutFile, walked.
-/
import Derived.Test.YtcjnlmnjjkojeaaWalkPut
namespace Go.Proofs.Ytcjnlmnjjkojeaa
set_option linter.unusedVariables false
open Go.RowKit Go.Maps

set_option maxHeartbeats 4000000 in
theorem walkFnPutFile (a : Option Addr) (len cap : Nat) (zs : List Int) (b : Option Addr) (len' cap' : Nat) (zs' : List Int) (w : World) (h : IsRow .u8 w a len cap zs) (h' : IsRow .u8 w b len' cap' zs') :
    Calls Try.prog 3 #[.slice a len cap, .slice b len' cap'] w fun e w' => e = .returned (.bool true) ∧ Below w.heap.size w w' := by
  obtain ⟨hb, hn, hc⟩ := row_bytes h
  have hc' := Lib.hid hc
  unfold maxLen at hc
  obtain ⟨hb2, hn2, hc2⟩ := row_bytes h'
  have hc2' := Lib.hid hc2
  unfold maxLen at hc2
  by_cases hlong : 1048576 < len
  · go_enter Try.func3, Try.ntmps3
    go_wp2_with fail
    go_ret
    exact ⟨rfl, Below.refl _ _⟩
  by_cases hlong2 : 1048576 < len'
  · go_enter Try.func3, Try.ntmps3
    go_wp2_with fail
    go_ret
    exact ⟨rfl, Below.refl _ _⟩
  go_enter Try.func3, Try.ntmps3
  go_wp2_with fail
  refine (drawPut_any a len cap w hb hn hc'.out).mono ?_
  rintro e w1 ⟨a1, c1, fs, p, t, rfl, hf, hs, hl, hp, ht, hB1⟩
  have B1 := hB1
  have hb2 := hb2.under hB1
  have hbx := Lib.hid (Box.new w1 p t)
  have hf := hf.in1 (.cells #[.string p, .string t] 25)
  have B1a := B1.alloc B1.size (.cells #[.string p, .string t] 25)
  have hb2 := hb2.in1 (.cells #[.string p, .string t] 25)
  go_wp2_with fail
  refine (drawFind_any b len' cap' _ hb2 hn2 hc2'.out).mono ?_
  rintro e w2 ⟨a0, c0, fs0, x, rfl, _, _, _, hx0, hB2⟩
  have hf := (hf.below hB2).more hB2.size
  have hbx := Lib.hid (hbx.out.next hB2)
  have B2 := B1a.trans (hB2.mono B1a.size)
  have hbxc0 := hbx.out.c0
  have hbxc1 := hbx.out.c1
  obtain ⟨xs, xb, HX⟩ : ∃ xs xb, Hid (putR (p, t) fs = (xs, xb)) := ⟨_, _, rfl⟩
  have hxl := putR_length HX.out
  have hxs := putR_short HX.out hs hp ht
  go_wp2_with fail
  refine (putI_is HX.out hf hs (by omega) hp ht).mono ?_
  rintro e w3 ⟨a3, c3, rfl, hx, hB3⟩
  have hf := (hf.below hB3).more hB3.size
  clear hbxc0 hbxc1
  have hbx := Lib.hid (hbx.out.next hB3)
  have hbxc0 := hbx.out.c0
  have hbxc1 := hbx.out.c1
  have B3 := B2.trans (hB3.mono B2.size)
  go_wp2_with fail
  refine (putS_is HX.out hf hs (by omega) hp ht).mono ?_
  rintro e w4 ⟨a4, c4, rfl, hy, hB4⟩
  have hf := (hf.below hB4).more hB4.size
  have hx := (hx.below hB4).more hB4.size
  clear hbxc0 hbxc1
  have hbx := Lib.hid (hbx.out.next hB4)
  have hbxc0 := hbx.out.c0
  have hbxc1 := hbx.out.c1
  have B4 := B3.trans (hB4.mono B3.size)
  cases xb with
  | false =>
    go_wp2_with fail
    refine (sameI_yes hx hy (by omega) (by omega) rfl).mono ?_
    rintro e w5 ⟨rfl, hB5⟩
    have hf := (hf.below hB5).more hB5.size
    have hx := (hx.below hB5).more hB5.size
    have hy := (hy.below hB5).more hB5.size
    clear hbxc0 hbxc1
    have hbx := Lib.hid (hbx.out.next hB5)
    have hbxc0 := hbx.out.c0
    have hbxc1 := hbx.out.c1
    have B5 := B4.trans (hB5.mono B4.size)
    go_wp2_with fail
    refine (sameI_yes hx hy (by omega) (by omega) rfl).mono ?_
    rintro e w6 ⟨rfl, hB6⟩
    have hf := (hf.below hB6).more hB6.size
    have hx := (hx.below hB6).more hB6.size
    have hy := (hy.below hB6).more hB6.size
    clear hbxc0 hbxc1
    have hbx := Lib.hid (hbx.out.next hB6)
    have hbxc0 := hbx.out.c0
    have hbxc1 := hbx.out.c1
    have B6 := B5.trans (hB6.mono B5.size)
    go_wp2_with fail
    go_ret
    exact ⟨rfl, B6⟩
  | true =>
    obtain ⟨h1, h2, h3⟩ := put_find HX.out
    have H1 := Lib.hid h1
    have H2 := Lib.hid h2
    have H3 := Lib.hid h3
    clear h1 h2 h3
    obtain ⟨s1, q1, HQ1⟩ : ∃ s q, Hid (findF xs x = (s, q)) := ⟨_, _, rfl⟩
    obtain ⟨s2, q2, HQ2⟩ : ∃ s q, Hid (findF fs x = (s, q)) := ⟨_, _, rfl⟩
    have hd : (t.toList == t.toList) = true := by simp
    go_wp2_with fail
    refine (sameI_yes hx hy (by omega) (by omega) rfl).mono ?_
    rintro e w5 ⟨rfl, hB5⟩
    have hf := (hf.below hB5).more hB5.size
    have hx := (hx.below hB5).more hB5.size
    have hy := (hy.below hB5).more hB5.size
    clear hbxc0 hbxc1
    have hbx := Lib.hid (hbx.out.next hB5)
    have hbxc0 := hbx.out.c0
    have hbxc1 := hbx.out.c1
    have B5 := B4.trans (hB5.mono B4.size)
    go_wp2_with fail
    refine (findI_is H2.out hx (by omega)).mono ?_
    rintro e w6 ⟨rfl, hB6⟩
    have hf := (hf.below hB6).more hB6.size
    have hx := (hx.below hB6).more hB6.size
    have hy := (hy.below hB6).more hB6.size
    clear hbxc0 hbxc1
    have hbx := Lib.hid (hbx.out.next hB6)
    have hbxc0 := hbx.out.c0
    have hbxc1 := hbx.out.c1
    have B6 := B5.trans (hB6.mono B5.size)
    go_wp2_with fail
    refine (findI_is HQ1.out hx (by omega)).mono ?_
    rintro e w7 ⟨rfl, hB7⟩
    have hf := (hf.below hB7).more hB7.size
    have hx := (hx.below hB7).more hB7.size
    have hy := (hy.below hB7).more hB7.size
    clear hbxc0 hbxc1
    have hbx := Lib.hid (hbx.out.next hB7)
    have hbxc0 := hbx.out.c0
    have hbxc1 := hbx.out.c1
    have B7 := B6.trans (hB7.mono B6.size)
    go_wp2_with fail
    refine (findI_is HQ2.out hf (by omega)).mono ?_
    rintro e w8 ⟨rfl, hB8⟩
    have hf := (hf.below hB8).more hB8.size
    have hx := (hx.below hB8).more hB8.size
    have hy := (hy.below hB8).more hB8.size
    clear hbxc0 hbxc1
    have hbx := Lib.hid (hbx.out.next hB8)
    have hbxc0 := hbx.out.c0
    have hbxc1 := hbx.out.c1
    have B8 := B7.trans (hB8.mono B7.size)
    by_cases he : x = p
    · have hxp : (x.toList == p.toList) = true := by rw [sEq]; simpa using he
      clear he
      go_wp2_with fail
      refine (validI_yes H1.out hx hxs (by omega)).mono ?_
      rintro e w9 ⟨rfl, hB9⟩
      have hf := (hf.below hB9).more hB9.size
      have hx := (hx.below hB9).more hB9.size
      have hy := (hy.below hB9).more hB9.size
      clear hbxc0 hbxc1
      have hbx := Lib.hid (hbx.out.next hB9)
      have hbxc0 := hbx.out.c0
      have hbxc1 := hbx.out.c1
      have B9 := B8.trans (hB9.mono B8.size)
      go_wp2_with fail
      go_ret
      exact ⟨rfl, B9⟩
    · have hxp : (x.toList == p.toList) = false := by rw [sEq]; simpa using he
      have HE := Lib.hid ((HQ1.out.symm.trans (H3.out x he)).trans HQ2.out)
      obtain ⟨rfl, rfl⟩ : s1 = s2 ∧ q1 = q2 := by have := HE.out; cases this; exact ⟨rfl, rfl⟩
      clear he HE
      have hs1 : (s1.toList == s1.toList) = true := by simp
      have hq1 : (q1 == q1) = true := by simp
      go_wp2_with fail
      refine (validI_yes H1.out hx hxs (by omega)).mono ?_
      rintro e w9 ⟨rfl, hB9⟩
      have hf := (hf.below hB9).more hB9.size
      have hx := (hx.below hB9).more hB9.size
      have hy := (hy.below hB9).more hB9.size
      clear hbxc0 hbxc1
      have hbx := Lib.hid (hbx.out.next hB9)
      have hbxc0 := hbx.out.c0
      have hbxc1 := hbx.out.c1
      have B9 := B8.trans (hB9.mono B8.size)
      go_wp2_with fail
      go_ret
      exact ⟨rfl, B9⟩
end Go.Proofs.Ytcjnlmnjjkojeaa
