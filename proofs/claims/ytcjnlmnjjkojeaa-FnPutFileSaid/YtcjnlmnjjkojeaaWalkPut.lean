/-
  The laws on putting and removing files, walked.
-/
import Derived.Test.YtcjnlmnjjkojeaaPutI
import Derived.Test.YtcjnlmnjjkojeaaDrawP
import Derived.Test.YtcjnlmnjjkojeaaWalkSame
namespace Go.Proofs.Ytcjnlmnjjkojeaa
set_option linter.unusedVariables false
open Go.RowKit Go.Maps

/-- block g is a box that holds a file -/
def Box (w : World) (g : Nat) (p t : ByteArray) : Prop := w.heap[g]? = some (.cells #[.string p, .string t] 25 (0, 0))
section
variable {w w' : World} {g B : Nat} {p t : ByteArray}
theorem Box.new (w : World) (p t : ByteArray) : Box (w.alloc (.cells #[.string p, .string t] 25)) w.heap.size p t := heap_alloc_new w _
theorem Box.lt (h : Box w g p t) : g < w.heap.size := blk_lt h
theorem Box.below (h : Box w g p t) (hB : Below B w w') (hg : g < B) : Box w' g p t := (hB.block g hg).trans h
theorem Box.next (h : Box w g p t) (hB : Below w.heap.size w w') : Box w' g p t := h.below hB h.lt
theorem Box.alloc (h : Box w g p t) (o : Obj) : Box (w.alloc o) g p t := (Below.heap_alloc w o g h.lt).trans h
theorem Box.c0 (h : Box w g p t) : w.cell? ⟨g, 0, none⟩ = some (.string p) := by rw [cell_of_row _ _ _ _ _ _ h]; rfl
theorem Box.c1 (h : Box w g p t) : w.cell? ⟨g, 1, none⟩ = some (.string t) := by rw [cell_of_row _ _ _ _ _ _ h]; rfl
end

theorem BytesAt.under {w w' : World} {a : Option Addr} {n : Nat} (h : BytesAt w w.heap.size a n) (hB : Below w.heap.size w w') : BytesAt w' w'.heap.size a n := fun hn => by
  obtain ⟨b, off, ha, hb, hz⟩ := h hn
  refine ⟨b, off, ha, Nat.lt_of_lt_of_le hb hB.size, fun i hi => ?_⟩
  obtain ⟨z, h0, h1, hc⟩ := hz i hi
  exact ⟨z, h0, h1, (hB.cell (p := ⟨b, off + i, none⟩) hb).trans hc⟩

/-- what a function leaves that hands back a readable list and a bool -/
def ListR (xs : List Fl) (xb : Bool) (w : World) (e : Ending) (w' : World) : Prop :=
  ∃ a c, e = .returned (.tuple #[.slice a xs.length c, .bool xb]) ∧ FilesAt w' w'.heap.size a xs.length xs ∧ Below w.heap.size w w'
theorem ListB.open {r : List Fl × Bool} {xs : List Fl} {xb : Bool} {w : World} {e : Ending} {w' : World} (h : ListB r w e w') (hr : r = (xs, xb)) : ListR xs xb w e w' := by
  subst hr
  obtain ⟨v, rfl, ho, hb⟩ := h
  obtain ⟨a, c, rfl, hf⟩ := ho.form
  exact ⟨a, c, rfl, hf, hb⟩

section
variable {a b : Option Addr} {n c m d : Nat} {fs gs xs : List Fl} {xb : Bool} {p t x : ByteArray} {w : World}
theorem putI_is (hX : putR (p, t) fs = (xs, xb)) (hf : FilesAt w w.heap.size a n fs) (hs : Short 100 fs) (hn : fs.length ≤ 100) (hp : p.size ≤ 100) (ht : t.size ≤ 100) :
    Calls Try.prog 11 #[.slice a n c, .agg #[.string p, .string t]] w (ListR xs xb w) :=
  (putI_any a n c fs p t w hf (hs.fits (by omega)) (by have := hf.1; simp only [maxLen]; omega) (by simp only [maxLen]; omega) (by simp only [maxLen]; omega)).mono fun _ _ h => h.open hX
theorem putS_is (hX : putR (p, t) fs = (xs, xb)) (hf : FilesAt w w.heap.size a n fs) (hs : Short 100 fs) (hn : fs.length ≤ 100) (hp : p.size ≤ 100) (ht : t.size ≤ 100) :
    Calls Try.prog 12 #[.slice a n c, .agg #[.string p, .string t]] w (ListR xs xb w) :=
  (putS_any a n c fs p t w hf (hs.fits (by omega)) (by have := hf.1; omega) (by simp only [maxLen]; omega) (by simp only [maxLen]; omega)).mono fun _ _ h => h.open hX
theorem delI_is (hX : delR x fs = (xs, xb)) (hf : FilesAt w w.heap.size a n fs) (hs : Short 100 fs) (hn : fs.length ≤ 100) (hx : x.size ≤ 100) :
    Calls Try.prog 17 #[.slice a n c, .string x] w (ListR xs xb w) :=
  (delI_any a n c fs x w hf (hs.fits (by omega)) (by have := hf.1; simp only [maxLen]; omega) (by simp only [maxLen]; omega)).mono fun _ _ h => h.open hX
theorem delS_is (hX : delR x fs = (xs, xb)) (hf : FilesAt w w.heap.size a n fs) (hs : Short 100 fs) (hn : fs.length ≤ 100) :
    Calls Try.prog 18 #[.slice a n c, .string x] w (ListR xs xb w) :=
  (delS_any a n c fs x w hf (hs.fits (by omega)) (by have := hf.1; omega)).mono fun _ _ h => h.open hX
theorem sameI_yes (hf : FilesAt w w.heap.size a n fs) (hg : FilesAt w w.heap.size b m gs) (hn : fs.length ≤ 100) (hm : gs.length ≤ 100) (h : fs = gs) :
    Calls Try.prog 13 #[.slice a n c, .slice b m d] w fun e w' => e = .returned (.bool true) ∧ Below w.heap.size w w' :=
  (sameI_any a b n c m d fs gs w hf hg (by have := hf.1; simp only [maxLen]; omega) (by have := hg.1; simp only [maxLen]; omega)).mono fun _ _ ⟨he, hb⟩ => ⟨by rw [he, decide_eq_true h], hb⟩
theorem findI_is {s : ByteArray} (hX : findF fs x = (s, xb)) (hf : FilesAt w w.heap.size a n fs) (hn : fs.length ≤ 100) :
    Calls Try.prog 14 #[.slice a n c, .string x] w fun e w' => e = .returned (.tuple #[.string s, .bool xb]) ∧ Below w.heap.size w w' :=
  (findI_any a n c fs x w hf (by have := hf.1; simp only [maxLen]; omega)).mono fun _ _ ⟨he, hb⟩ => ⟨by rw [he, hX], hb⟩
theorem putR_short (hX : putR (p, t) fs = (xs, xb)) (hs : Short 100 fs) (hp : p.size ≤ 100) (ht : t.size ≤ 100) : Short 100 xs := by
  unfold putR at hX
  split at hX
  · cases hX; exact hs.put ⟨hp, ht⟩
  · cases hX; exact fun f hf => by cases hf
theorem putR_length (hX : putR (p, t) fs = (xs, xb)) : xs.length ≤ fs.length + 1 := by
  unfold putR at hX
  split at hX
  · cases hX; exact putF_length _ _
  · cases hX; simp
theorem putR_true (hX : putR (p, t) fs = (xs, true)) : validB fs = true ∧ validB (putF (p, t) fs) = true ∧ xs = putF (p, t) fs := by
  unfold putR at hX
  split at hX
  · rename_i h; exact ⟨h.1, h.2, (congrArg Prod.fst hX).symm⟩
  · cases hX
theorem delR_short (hX : delR x fs = (xs, xb)) (hs : Short 100 fs) : Short 100 xs := by
  unfold delR at hX
  split at hX
  · cases hX; exact fun f hf => hs f (mem_delU.1 hf).1
  · cases hX; exact fun f hf => by cases hf
theorem delR_length (hX : delR x fs = (xs, xb)) : xs.length ≤ fs.length := by
  unfold delR at hX
  split at hX
  · cases hX; exact List.length_filter_le _ _
  · cases hX; simp
theorem delR_true (hX : delR x fs = (xs, true)) : validB fs = true ∧ hasF fs x = true ∧ xs = delU x fs := by
  unfold delR at hX
  split at hX
  · rename_i h; exact ⟨h.1, h.2, (congrArg Prod.fst hX).symm⟩
  · cases hX
theorem hasF_false (h : hasF fs x = false) : ∀ g ∈ fs, g.1 ≠ x := fun g hg => by
  unfold hasF at h
  rw [List.any_eq_false] at h
  simpa using h g hg
theorem hasF_true (h : hasF fs x = true) : ∃ t, (x, t) ∈ fs := by
  unfold hasF at h
  rw [List.any_eq_true] at h
  obtain ⟨⟨q, t⟩, hg, e⟩ := h
  obtain rfl : q = x := by simpa using e
  exact ⟨t, hg⟩
theorem put_remove (hX : putR (p, t) fs = (xs, true)) (h : hasF fs p = false) : delR p xs = (fs, true) := by
  obtain ⟨h1, h2, rfl⟩ := putR_true hX
  have ha := valid_asc h1
  rw [delR_fine h2 (by unfold hasF; rw [List.any_eq_true]; exact ⟨(p, t), (mem_putF ha).2 (.inl rfl), by simp⟩), delU_put (f := (p, t)) ha (hasF_false h)]
theorem find_is {s : ByteArray} {q : Bool} (h : findF fs x = (s, q)) : hasF fs x = q := by rw [← hasF_find, h]
end

set_option maxHeartbeats 4000000 in
theorem walkFnPutRemove (a : Option Addr) (len cap : Nat) (zs : List Int) (w : World) (h : IsRow .u8 w a len cap zs) :
    Calls Try.prog 6 #[.slice a len cap] w fun e w' => e = .returned (.bool true) ∧ Below w.heap.size w w' := by
  obtain ⟨hb, hn, hc⟩ := row_bytes h
  have hc' := Lib.hid hc
  unfold maxLen at hc
  by_cases hlong : 1048576 < len
  · go_enter Try.func6, Try.ntmps6
    go_wp2_with fail
    go_ret
    exact ⟨rfl, Below.refl _ _⟩
  go_enter Try.func6, Try.ntmps6
  go_wp2_with fail
  refine (drawPut_any a len cap w hb hn hc'.out).mono ?_
  rintro e w1 ⟨a1, c1, fs, p, t, rfl, hf, hs, hl, hp, ht, hB1⟩
  have B1 := hB1
  obtain ⟨xs, xb, HX⟩ : ∃ xs xb, Hid (putR (p, t) fs = (xs, xb)) := ⟨_, _, rfl⟩
  obtain ⟨s, q, HQ⟩ : ∃ s q, Hid (findF fs p = (s, q)) := ⟨_, _, rfl⟩
  have hxl := putR_length HX.out
  have hxs := putR_short HX.out hs hp ht
  have hbx := Lib.hid (Box.new w1 p t)
  have hf := hf.in1 (.cells #[.string p, .string t] 25)
  have B1a := B1.alloc B1.size (.cells #[.string p, .string t] 25)
  go_wp2_with fail
  refine (putI_is HX.out hf hs (by omega) hp ht).mono ?_
  rintro e w2 ⟨a2, c2, rfl, hx, hB2⟩
  have hf := (hf.below hB2).more hB2.size
  have hbx := Lib.hid (hbx.out.next hB2)
  have hbxc0 := hbx.out.c0
  have hbxc1 := hbx.out.c1
  have B2 := B1a.trans (hB2.mono B1a.size)
  go_wp2_with fail
  refine (putS_is HX.out hf hs (by omega) hp ht).mono ?_
  rintro e w3 ⟨a3, c3, rfl, hy, hB3⟩
  have hf := (hf.below hB3).more hB3.size
  have hx := (hx.below hB3).more hB3.size
  clear hbxc0 hbxc1
  have hbx := Lib.hid (hbx.out.next hB3)
  have hbxc0 := hbx.out.c0
  have hbxc1 := hbx.out.c1
  have B3 := B2.trans (hB3.mono B2.size)
  go_wp2_with fail
  refine (findI_is HQ.out hf (by omega)).mono ?_
  rintro e w4 ⟨rfl, hB4⟩
  have hf := (hf.below hB4).more hB4.size
  have hx := (hx.below hB4).more hB4.size
  have hy := (hy.below hB4).more hB4.size
  clear hbxc0 hbxc1
  have hbx := Lib.hid (hbx.out.next hB4)
  have hbxc0 := hbx.out.c0
  have hbxc1 := hbx.out.c1
  have B4 := B3.trans (hB4.mono B3.size)
  cases xb with
  | false =>
    go_wp2_with fail
    refine (sameI_yes hx hy (by omega) (by omega) rfl).mono ?_
    rintro e w5 ⟨rfl, hB5⟩
    have hf := (hf.below hB5).more hB5.size
    have hx := (hx.below hB5).more hB5.size
    have hy := (hy.below hB5).more hB5.size
    clear hbxc0 hbxc1
    have hbx := Lib.hid (hbx.out.next hB5)
    have hbxc0 := hbx.out.c0
    have hbxc1 := hbx.out.c1
    have B5 := B4.trans (hB5.mono B4.size)
    go_wp2_with fail
    refine (sameI_yes hx hy (by omega) (by omega) rfl).mono ?_
    rintro e w6 ⟨rfl, hB6⟩
    have hf := (hf.below hB6).more hB6.size
    have hx := (hx.below hB6).more hB6.size
    have hy := (hy.below hB6).more hB6.size
    clear hbxc0 hbxc1
    have hbx := Lib.hid (hbx.out.next hB6)
    have hbxc0 := hbx.out.c0
    have hbxc1 := hbx.out.c1
    have B6 := B5.trans (hB6.mono B5.size)
    go_wp2_with fail
    go_ret
    exact ⟨rfl, B6⟩
  | true =>
    cases q with
    | true =>
      go_wp2_with fail
      refine (sameI_yes hx hy (by omega) (by omega) rfl).mono ?_
      rintro e w5 ⟨rfl, hB5⟩
      have hf := (hf.below hB5).more hB5.size
      have hx := (hx.below hB5).more hB5.size
      have hy := (hy.below hB5).more hB5.size
      clear hbxc0 hbxc1
      have hbx := Lib.hid (hbx.out.next hB5)
      have hbxc0 := hbx.out.c0
      have hbxc1 := hbx.out.c1
      have B5 := B4.trans (hB5.mono B4.size)
      go_wp2_with fail
      refine (sameI_yes hx hy (by omega) (by omega) rfl).mono ?_
      rintro e w6 ⟨rfl, hB6⟩
      have hf := (hf.below hB6).more hB6.size
      have hx := (hx.below hB6).more hB6.size
      have hy := (hy.below hB6).more hB6.size
      clear hbxc0 hbxc1
      have hbx := Lib.hid (hbx.out.next hB6)
      have hbxc0 := hbx.out.c0
      have hbxc1 := hbx.out.c1
      have B6 := B5.trans (hB6.mono B5.size)
      go_wp2_with fail
      go_ret
      exact ⟨rfl, B6⟩
    | false =>
      go_wp2_with fail
      refine (sameI_yes hx hy (by omega) (by omega) rfl).mono ?_
      rintro e w5 ⟨rfl, hB5⟩
      have hf := (hf.below hB5).more hB5.size
      have hx := (hx.below hB5).more hB5.size
      have hy := (hy.below hB5).more hB5.size
      clear hbxc0 hbxc1
      have hbx := Lib.hid (hbx.out.next hB5)
      have hbxc0 := hbx.out.c0
      have hbxc1 := hbx.out.c1
      have B5 := B4.trans (hB5.mono B4.size)
      go_wp2_with fail
      refine (delI_is (put_remove HX.out (find_is HQ.out)) hx hxs (by omega) hp).mono ?_
      rintro e w6 ⟨a7, c7, rfl, hz, hB6⟩
      have hf := (hf.below hB6).more hB6.size
      have hx := (hx.below hB6).more hB6.size
      have hy := (hy.below hB6).more hB6.size
      clear hbxc0 hbxc1
      have hbx := Lib.hid (hbx.out.next hB6)
      have hbxc0 := hbx.out.c0
      have hbxc1 := hbx.out.c1
      have B6 := B5.trans (hB6.mono B5.size)
      go_wp2_with fail
      refine (sameI_yes hz hf (by omega) (by omega) rfl).mono ?_
      rintro e w7 ⟨rfl, hB7⟩
      have hf := (hf.below hB7).more hB7.size
      have hx := (hx.below hB7).more hB7.size
      have hy := (hy.below hB7).more hB7.size
      have hz := (hz.below hB7).more hB7.size
      clear hbxc0 hbxc1
      have hbx := Lib.hid (hbx.out.next hB7)
      have hbxc0 := hbx.out.c0
      have hbxc1 := hbx.out.c1
      have B7 := B6.trans (hB7.mono B6.size)
      go_wp2_with fail
      go_ret
      exact ⟨rfl, B7⟩

theorem remove_put {fs xs : List Fl} {x : ByteArray} (hX : delR x fs = (xs, true)) (hs : Short 100 fs) : ∃ s : ByteArray, s.size ≤ 100 ∧ findF fs x = (s, true) ∧ findF xs x = (.empty, false) ∧ putR (x, s) xs = (fs, true) := by
  obtain ⟨h1, h2, rfl⟩ := delR_true hX
  obtain ⟨t, ht⟩ := hasF_true h2
  have ha := valid_asc h1
  exact ⟨t, (hs _ ht).2, findF_mem ha.once ht, find_del x, by rw [putR_fine (valid_del h1) (by rw [put_delU (f := (x, t)) ha ht]; exact h1), put_delU (f := (x, t)) ha ht]⟩
theorem put_twice {fs xs ys zs us : List Fl} {f g : Fl} {zb ub : Bool} (hX : putR f fs = (xs, true)) (hY : putR g xs = (ys, true)) (hZ : putR g fs = (zs, zb)) (hU : putR f zs = (us, ub)) :
    zb = true ∧ (f.1 = g.1 → ys = zs) ∧ (f.1 ≠ g.1 → ub = true ∧ ys = us) := by
  obtain ⟨h1, h2, rfl⟩ := putR_true hX
  obtain ⟨_, h4, rfl⟩ := putR_true hY
  have ha := valid_asc h1
  have hv := (valid_put (f := f) h1).1 h2
  have hw := (valid_put (f := g) h2).1 h4
  by_cases he : f.1 = g.1
  · have h5 : validB (putF g fs) = true := by rw [← putF_twice ha he]; exact h4
    rw [putR_fine h1 h5] at hZ
    cases hZ
    exact ⟨rfl, fun _ => putF_twice ha he, fun hn => absurd he hn⟩
  · have e := putF_swap ha he
    have h5 : validB (putF g fs) = true := by
      refine (valid_put h1).2 ⟨?_, hw.2⟩
      have := (putF_len (f := f) (putF_asc (f := g) ha)).1
      rw [← e] at this
      exact Nat.le_trans this (valid_length h4)
    rw [putR_fine h1 h5] at hZ
    cases hZ
    rw [putR_fine h5 (by rw [← e]; exact h4)] at hU
    cases hU
    exact ⟨rfl, fun h => absurd h he, fun _ => ⟨rfl, e⟩⟩
theorem put_find {fs xs : List Fl} {p t : ByteArray} (hX : putR (p, t) fs = (xs, true)) : validB xs = true ∧ findF xs p = (t, true) ∧ ∀ x, x ≠ p → findF xs x = findF fs x := by
  obtain ⟨h1, h2, rfl⟩ := putR_true hX
  have ha := valid_asc h1
  exact ⟨h2, by rw [find_put ha, if_pos rfl], fun x hx => by rw [find_put ha, if_neg (fun e => hx e.symm)]⟩
theorem validI_yes {a : Option Addr} {n c : Nat} {fs : List Fl} {w : World} (hv : validB fs = true) (hf : FilesAt w w.heap.size a n fs) (hs : Short 100 fs) (hn : fs.length ≤ 100) :
    Calls Try.prog 15 #[.slice a n c] w fun e w' => e = .returned (.bool true) ∧ Below w.heap.size w w' :=
  (validI_any a n c fs w hf (hs.fits (by omega)) (by have := hf.1; simp only [maxLen]; omega)).mono fun _ _ ⟨he, hb⟩ => ⟨by rw [he, hv], hb⟩

set_option maxHeartbeats 4000000 in
theorem walkFnRemoveFile (a : Option Addr) (len cap : Nat) (zs : List Int) (w : World) (h : IsRow .u8 w a len cap zs) :
    Calls Try.prog 5 #[.slice a len cap] w fun e w' => e = .returned (.bool true) ∧ Below w.heap.size w w' := by
  obtain ⟨hb, hn, hc⟩ := row_bytes h
  have hc' := Lib.hid hc
  unfold maxLen at hc
  by_cases hlong : 1048576 < len
  · go_enter Try.func5, Try.ntmps5
    go_wp2_with fail
    go_ret
    exact ⟨rfl, Below.refl _ _⟩
  go_enter Try.func5, Try.ntmps5
  go_wp2_with fail
  refine (drawRemove_any a len cap w hb hn hc'.out).mono ?_
  rintro e w1 ⟨a1, c1, fs, x, rfl, hf, hs, hl, hx0, hB1⟩
  have B1 := hB1
  obtain ⟨xs, xb, HX⟩ : ∃ xs xb, Hid (delR x fs = (xs, xb)) := ⟨_, _, rfl⟩
  have hxl := delR_length HX.out
  have hxs := delR_short HX.out hs
  go_wp2_with fail
  refine (delI_is HX.out hf hs (by omega) hx0).mono ?_
  rintro e w2 ⟨a2, c2, rfl, hx, hB2⟩
  have hf := (hf.below hB2).more hB2.size
  have B2 := B1.trans (hB2.mono B1.size)
  go_wp2_with fail
  refine (delS_is HX.out hf hs (by omega)).mono ?_
  rintro e w3 ⟨a3, c3, rfl, hy, hB3⟩
  have hf := (hf.below hB3).more hB3.size
  have hx := (hx.below hB3).more hB3.size
  have B3 := B2.trans (hB3.mono B2.size)
  cases xb with
  | false =>
    go_wp2_with fail
    refine (sameI_yes hx hy (by omega) (by omega) rfl).mono ?_
    rintro e w4 ⟨rfl, hB4⟩
    have hf := (hf.below hB4).more hB4.size
    have hx := (hx.below hB4).more hB4.size
    have hy := (hy.below hB4).more hB4.size
    have B4 := B3.trans (hB4.mono B3.size)
    go_wp2_with fail
    refine (sameI_yes hx hy (by omega) (by omega) rfl).mono ?_
    rintro e w5 ⟨rfl, hB5⟩
    have hf := (hf.below hB5).more hB5.size
    have hx := (hx.below hB5).more hB5.size
    have hy := (hy.below hB5).more hB5.size
    have B5 := B4.trans (hB5.mono B4.size)
    go_wp2_with fail
    go_ret
    exact ⟨rfl, B5⟩
  | true =>
    obtain ⟨s, hsz, h1, h2, h3⟩ := remove_put HX.out hs
    have H1 := Lib.hid h1
    have H2 := Lib.hid h2
    have H3 := Lib.hid h3
    clear h1 h2 h3
    go_wp2_with fail
    refine (sameI_yes hx hy (by omega) (by omega) rfl).mono ?_
    rintro e w4 ⟨rfl, hB4⟩
    have hf := (hf.below hB4).more hB4.size
    have hx := (hx.below hB4).more hB4.size
    have hy := (hy.below hB4).more hB4.size
    have B4 := B3.trans (hB4.mono B3.size)
    go_wp2_with fail
    refine (findI_is H1.out hf (by omega)).mono ?_
    rintro e w5 ⟨rfl, hB5⟩
    have hf := (hf.below hB5).more hB5.size
    have hx := (hx.below hB5).more hB5.size
    have hy := (hy.below hB5).more hB5.size
    have B5 := B4.trans (hB5.mono B4.size)
    go_wp2_with fail
    refine (findI_is H2.out hx (by omega)).mono ?_
    rintro e w6 ⟨rfl, hB6⟩
    have hf := (hf.below hB6).more hB6.size
    have hx := (hx.below hB6).more hB6.size
    have hy := (hy.below hB6).more hB6.size
    have B6 := B5.trans (hB6.mono B5.size)
    go_wp2_with fail
    refine (putI_is H3.out hx hxs (by omega) hx0 hsz).mono ?_
    rintro e w7 ⟨a7, c7, rfl, hz, hB7⟩
    have hf := (hf.below hB7).more hB7.size
    have hx := (hx.below hB7).more hB7.size
    have hy := (hy.below hB7).more hB7.size
    have B7 := B6.trans (hB7.mono B6.size)
    go_wp2_with fail
    refine (sameI_yes hz hf (by omega) (by omega) rfl).mono ?_
    rintro e w8 ⟨rfl, hB8⟩
    have hf := (hf.below hB8).more hB8.size
    have hx := (hx.below hB8).more hB8.size
    have hy := (hy.below hB8).more hB8.size
    have hz := (hz.below hB8).more hB8.size
    have B8 := B7.trans (hB8.mono B7.size)
    go_wp2_with fail
    go_ret
    exact ⟨rfl, B8⟩

set_option maxHeartbeats 4000000 in
theorem walkFnPutTwice (a : Option Addr) (len cap : Nat) (zs : List Int) (b : Option Addr) (len' cap' : Nat) (zs' : List Int) (w : World) (h : IsRow .u8 w a len cap zs) (h' : IsRow .u8 w b len' cap' zs') :
    Calls Try.prog 4 #[.slice a len cap, .slice b len' cap'] w fun e w' => e = .returned (.bool true) ∧ Below w.heap.size w w' := by
  obtain ⟨hb, hn, hc⟩ := row_bytes h
  have hc' := Lib.hid hc
  unfold maxLen at hc
  obtain ⟨hb2, hn2, hc2⟩ := row_bytes h'
  have hc2' := Lib.hid hc2
  unfold maxLen at hc2
  by_cases hlong : 1048576 < len
  · go_enter Try.func4, Try.ntmps4
    go_wp2_with fail
    go_ret
    exact ⟨rfl, Below.refl _ _⟩
  by_cases hlong2 : 1048576 < len'
  · go_enter Try.func4, Try.ntmps4
    go_wp2_with fail
    go_ret
    exact ⟨rfl, Below.refl _ _⟩
  go_enter Try.func4, Try.ntmps4
  go_wp2_with fail
  refine (drawPut_any a len cap w hb hn hc'.out).mono ?_
  rintro e w1 ⟨a1, c1, fs, p, t, rfl, hf, hs, hl, hp, ht, hB1⟩
  have B1 := hB1
  have hb2 := hb2.under hB1
  have hbx := Lib.hid (Box.new w1 p t)
  have hf := hf.in1 (.cells #[.string p, .string t] 25)
  have B1a := B1.alloc B1.size (.cells #[.string p, .string t] 25)
  have hb2 := hb2.in1 (.cells #[.string p, .string t] 25)
  go_wp2_with fail
  refine (drawPut_any b len' cap' _ hb2 hn2 hc2'.out).mono ?_
  rintro e w2 ⟨a0, c0, fs0, p2, t2, rfl, _, _, _, hp2, ht2, hB2⟩
  have hf := (hf.below hB2).more hB2.size
  have hbx := Lib.hid (hbx.out.next hB2)
  have B2 := B1a.trans (hB2.mono B1a.size)
  have hby := Lib.hid (Box.new w2 p2 t2)
  have hf := hf.in1 (.cells #[.string p2, .string t2] 25)
  have hbx := Lib.hid (hbx.out.alloc (.cells #[.string p2, .string t2] 25))
  have B2a := B2.alloc B2.size (.cells #[.string p2, .string t2] 25)
  have hbxc0 := hbx.out.c0
  have hbxc1 := hbx.out.c1
  have hbyc0 := hby.out.c0
  have hbyc1 := hby.out.c1
  obtain ⟨xs, xb, HX⟩ : ∃ xs xb, Hid (putR (p, t) fs = (xs, xb)) := ⟨_, _, rfl⟩
  obtain ⟨ys, yb, HY⟩ : ∃ ys yb, Hid (putR (p2, t2) xs = (ys, yb)) := ⟨_, _, rfl⟩
  obtain ⟨zs, zb, HZ⟩ : ∃ zs zb, Hid (putR (p2, t2) fs = (zs, zb)) := ⟨_, _, rfl⟩
  obtain ⟨us, ub, HU⟩ : ∃ us ub, Hid (putR (p, t) zs = (us, ub)) := ⟨_, _, rfl⟩
  have hxl := putR_length HX.out
  have hxs := putR_short HX.out hs hp ht
  have hyl := putR_length HY.out
  have hys := putR_short HY.out hxs hp2 ht2
  have hzl := putR_length HZ.out
  have hzs := putR_short HZ.out hs hp2 ht2
  have hul := putR_length HU.out
  have hus := putR_short HU.out hzs hp ht
  go_wp2_with fail
  refine (putI_is HX.out hf hs (by omega) hp ht).mono ?_
  rintro e w3 ⟨a3, c3, rfl, hx, hB3⟩
  have hf := (hf.below hB3).more hB3.size
  clear hbxc0 hbxc1 hbyc0 hbyc1
  have hbx := Lib.hid (hbx.out.next hB3)
  have hby := Lib.hid (hby.out.next hB3)
  have hbxc0 := hbx.out.c0
  have hbxc1 := hbx.out.c1
  have hbyc0 := hby.out.c0
  have hbyc1 := hby.out.c1
  have B3 := B2a.trans (hB3.mono B2a.size)
  go_wp2_with fail
  refine (putS_is HX.out hf hs (by omega) hp ht).mono ?_
  rintro e w4 ⟨a4, c4, rfl, hy, hB4⟩
  have hf := (hf.below hB4).more hB4.size
  have hx := (hx.below hB4).more hB4.size
  clear hbxc0 hbxc1 hbyc0 hbyc1
  have hbx := Lib.hid (hbx.out.next hB4)
  have hby := Lib.hid (hby.out.next hB4)
  have hbxc0 := hbx.out.c0
  have hbxc1 := hbx.out.c1
  have hbyc0 := hby.out.c0
  have hbyc1 := hby.out.c1
  have B4 := B3.trans (hB4.mono B3.size)
  go_wp2_with fail
  refine (putI_is HY.out hx hxs (by omega) hp2 ht2).mono ?_
  rintro e w5 ⟨a5, c5, rfl, hz, hB5⟩
  have hf := (hf.below hB5).more hB5.size
  have hx := (hx.below hB5).more hB5.size
  have hy := (hy.below hB5).more hB5.size
  clear hbxc0 hbxc1 hbyc0 hbyc1
  have hbx := Lib.hid (hbx.out.next hB5)
  have hby := Lib.hid (hby.out.next hB5)
  have hbxc0 := hbx.out.c0
  have hbxc1 := hbx.out.c1
  have hbyc0 := hby.out.c0
  have hbyc1 := hby.out.c1
  have B5 := B4.trans (hB5.mono B4.size)
  cases xb with
  | false =>
    go_wp2_with fail
    refine (sameI_yes hx hy (by omega) (by omega) rfl).mono ?_
    rintro e w6 ⟨rfl, hB6⟩
    have hf := (hf.below hB6).more hB6.size
    have hx := (hx.below hB6).more hB6.size
    have hy := (hy.below hB6).more hB6.size
    have hz := (hz.below hB6).more hB6.size
    clear hbxc0 hbxc1 hbyc0 hbyc1
    have hbx := Lib.hid (hbx.out.next hB6)
    have hby := Lib.hid (hby.out.next hB6)
    have hbxc0 := hbx.out.c0
    have hbxc1 := hbx.out.c1
    have hbyc0 := hby.out.c0
    have hbyc1 := hby.out.c1
    have B6 := B5.trans (hB6.mono B5.size)
    go_wp2_with fail
    refine (sameI_yes hx hy (by omega) (by omega) rfl).mono ?_
    rintro e w7 ⟨rfl, hB7⟩
    have hf := (hf.below hB7).more hB7.size
    have hx := (hx.below hB7).more hB7.size
    have hy := (hy.below hB7).more hB7.size
    have hz := (hz.below hB7).more hB7.size
    clear hbxc0 hbxc1 hbyc0 hbyc1
    have hbx := Lib.hid (hbx.out.next hB7)
    have hby := Lib.hid (hby.out.next hB7)
    have hbxc0 := hbx.out.c0
    have hbxc1 := hbx.out.c1
    have hbyc0 := hby.out.c0
    have hbyc1 := hby.out.c1
    have B7 := B6.trans (hB7.mono B6.size)
    go_wp2_with fail
    go_ret
    exact ⟨rfl, B7⟩
  | true =>
    cases yb with
    | false =>
      go_wp2_with fail
      refine (sameI_yes hx hy (by omega) (by omega) rfl).mono ?_
      rintro e w6 ⟨rfl, hB6⟩
      have hf := (hf.below hB6).more hB6.size
      have hx := (hx.below hB6).more hB6.size
      have hy := (hy.below hB6).more hB6.size
      have hz := (hz.below hB6).more hB6.size
      clear hbxc0 hbxc1 hbyc0 hbyc1
      have hbx := Lib.hid (hbx.out.next hB6)
      have hby := Lib.hid (hby.out.next hB6)
      have hbxc0 := hbx.out.c0
      have hbxc1 := hbx.out.c1
      have hbyc0 := hby.out.c0
      have hbyc1 := hby.out.c1
      have B6 := B5.trans (hB6.mono B5.size)
      go_wp2_with fail
      refine (sameI_yes hx hy (by omega) (by omega) rfl).mono ?_
      rintro e w7 ⟨rfl, hB7⟩
      have hf := (hf.below hB7).more hB7.size
      have hx := (hx.below hB7).more hB7.size
      have hy := (hy.below hB7).more hB7.size
      have hz := (hz.below hB7).more hB7.size
      clear hbxc0 hbxc1 hbyc0 hbyc1
      have hbx := Lib.hid (hbx.out.next hB7)
      have hby := Lib.hid (hby.out.next hB7)
      have hbxc0 := hbx.out.c0
      have hbxc1 := hbx.out.c1
      have hbyc0 := hby.out.c0
      have hbyc1 := hby.out.c1
      have B7 := B6.trans (hB7.mono B6.size)
      go_wp2_with fail
      go_ret
      exact ⟨rfl, B7⟩
    | true =>
      obtain ⟨rfl, h1, h2⟩ := put_twice HX.out HY.out HZ.out HU.out
      have H1 := Lib.hid h1
      have H2 := Lib.hid h2
      clear h1 h2
      go_wp2_with fail
      refine (sameI_yes hx hy (by omega) (by omega) rfl).mono ?_
      rintro e w6 ⟨rfl, hB6⟩
      have hf := (hf.below hB6).more hB6.size
      have hx := (hx.below hB6).more hB6.size
      have hy := (hy.below hB6).more hB6.size
      have hz := (hz.below hB6).more hB6.size
      clear hbxc0 hbxc1 hbyc0 hbyc1
      have hbx := Lib.hid (hbx.out.next hB6)
      have hby := Lib.hid (hby.out.next hB6)
      have hbxc0 := hbx.out.c0
      have hbxc1 := hbx.out.c1
      have hbyc0 := hby.out.c0
      have hbyc1 := hby.out.c1
      have B6 := B5.trans (hB6.mono B5.size)
      go_wp2_with fail
      refine (putI_is HZ.out hf hs (by omega) hp2 ht2).mono ?_
      rintro e w7 ⟨a7, c7, rfl, hu, hB7⟩
      have hf := (hf.below hB7).more hB7.size
      have hx := (hx.below hB7).more hB7.size
      have hy := (hy.below hB7).more hB7.size
      have hz := (hz.below hB7).more hB7.size
      clear hbxc0 hbxc1 hbyc0 hbyc1
      have hbx := Lib.hid (hbx.out.next hB7)
      have hby := Lib.hid (hby.out.next hB7)
      have hbxc0 := hbx.out.c0
      have hbxc1 := hbx.out.c1
      have hbyc0 := hby.out.c0
      have hbyc1 := hby.out.c1
      have B7 := B6.trans (hB7.mono B6.size)
      by_cases he : p = p2
      · have Hr := Lib.hid (H1.out he)
        have hd : (p.toList == p2.toList) = true := by rw [sEq]; simpa using he
        clear he
        go_wp2_with fail
        refine (sameI_yes hz hu (by omega) (by omega) Hr.out).mono ?_
        rintro e w8 ⟨rfl, hB8⟩
        have hf := (hf.below hB8).more hB8.size
        have hx := (hx.below hB8).more hB8.size
        have hy := (hy.below hB8).more hB8.size
        have hz := (hz.below hB8).more hB8.size
        have hu := (hu.below hB8).more hB8.size
        clear hbxc0 hbxc1 hbyc0 hbyc1
        have hbx := Lib.hid (hbx.out.next hB8)
        have hby := Lib.hid (hby.out.next hB8)
        have hbxc0 := hbx.out.c0
        have hbxc1 := hbx.out.c1
        have hbyc0 := hby.out.c0
        have hbyc1 := hby.out.c1
        have B8 := B7.trans (hB8.mono B7.size)
        go_wp2_with fail
        go_ret
        exact ⟨rfl, B8⟩
      · have hd : (p.toList == p2.toList) = false := by rw [sEq]; simpa using he
        obtain ⟨rfl, h3⟩ := H2.out he
        have H3 := Lib.hid h3
        clear h3 he
        go_wp2_with fail
        refine (putI_is HU.out hu hzs (by omega) hp ht).mono ?_
        rintro e w8 ⟨a8, c8, rfl, hv, hB8⟩
        have hf := (hf.below hB8).more hB8.size
        have hx := (hx.below hB8).more hB8.size
        have hy := (hy.below hB8).more hB8.size
        have hz := (hz.below hB8).more hB8.size
        have hu := (hu.below hB8).more hB8.size
        clear hbxc0 hbxc1 hbyc0 hbyc1
        have hbx := Lib.hid (hbx.out.next hB8)
        have hby := Lib.hid (hby.out.next hB8)
        have hbxc0 := hbx.out.c0
        have hbxc1 := hbx.out.c1
        have hbyc0 := hby.out.c0
        have hbyc1 := hby.out.c1
        have B8 := B7.trans (hB8.mono B7.size)
        go_wp2_with fail
        refine (sameI_yes hz hv (by omega) (by omega) H3.out).mono ?_
        rintro e w9 ⟨rfl, hB9⟩
        have hf := (hf.below hB9).more hB9.size
        have hx := (hx.below hB9).more hB9.size
        have hy := (hy.below hB9).more hB9.size
        have hz := (hz.below hB9).more hB9.size
        have hu := (hu.below hB9).more hB9.size
        have hv := (hv.below hB9).more hB9.size
        clear hbxc0 hbxc1 hbyc0 hbyc1
        have hbx := Lib.hid (hbx.out.next hB9)
        have hby := Lib.hid (hby.out.next hB9)
        have hbxc0 := hbx.out.c0
        have hbxc1 := hbx.out.c1
        have hbyc0 := hby.out.c0
        have hbyc1 := hby.out.c1
        have B9 := B8.trans (hB9.mono B8.size)
        go_wp2_with fail
        go_ret
        exact ⟨rfl, B9⟩

end Go.Proofs.Ytcjnlmnjjkojeaa
