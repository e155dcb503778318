/-
  What the program's ParseFiles answers.
-/
import Derived.Test.YtoggclkbmhgfhaaCut
import Derived.Test.YtoggclkbmhgfhaaListB
import Derived.Test.YtoggclkbmhgfhaaFValid
namespace Go.Proofs.Ytoggclkbmhgfhaa
set_option linter.unusedVariables false
open Go.RowKit

def strL : Value → Nat
  | .string s => s.size
  | _ => 0
theorem fmt_sizes {f : Fl} : ∀ {l : List Fl}, f ∈ l → f.1.size ≤ (fmtF l).length ∧ f.2.size ≤ (fmtF l).length
  | g :: l, h => by
    rw [fmtF_cons]
    rcases List.mem_cons.1 h with rfl | h
    · have e1 : f.1.data.toList.length = f.1.size := Array.length_toList
      have e2 : f.2.data.toList.length = f.2.size := Array.length_toList
      simp only [lineF, List.length_append, List.length_cons]
      omega
    · have := fmt_sizes h
      simp only [List.length_append, List.length_cons]
      omega
theorem fmt_fits {s r : List UInt8} {l : List Fl} (h : fmtF l ++ r = s) (hs : s.length ≤ 1048576) : Fits l := fun f hf => by
  have h1 := fmt_sizes hf
  have h2 := congrArg List.length h
  rw [List.length_append] at h2
  simp only [maxLen]
  omega
theorem mem_parts {a : UInt8} {l : List UInt8} (h : a ∈ l) : ∃ x y, l = x ++ a :: y ∧ a ∉ x := List.eq_append_cons_of_mem h
theorem empty_not {r : ByteArray} (h : r.data.toList ≠ []) : r.toList.isEmpty = false := by
  rw [Lib.toList_data]; cases hl : r.data.toList with
  | nil => exact absurd hl h
  | cons a l => rfl
theorem size_list (s : ByteArray) : s.data.toList.length = s.size := Array.length_toList

/-- what holds at the head of each round -/
def PRel (s : ByteArray) (w : World) (x v : Value) (wr : World) : Prop :=
  ∃ (r : ByteArray) (l : List Fl), x = .string r ∧ OwnsF wr w.heap.size v l ∧ (∀ f ∈ l, Clean f) ∧ fmtF l ++ r.data.toList = s.data.toList ∧ l.length ≤ 12 ∧ Below w.heap.size w wr
theorem PRel.start (s : ByteArray) (w : World) : PRel s w (.string s) (.slice none 0 0) w :=
  ⟨s, [], rfl, World.ownsRow_nil _ _ _ _, (fun f hf => nomatch hf), rfl, Nat.zero_le _, Below.refl _ _⟩
theorem toArray_list (r : ByteArray) : (⟨r.data.toList.toArray⟩ : ByteArray) = r := bytes_ext (by simp)

set_option maxRecDepth 100000 in
set_option maxHeartbeats 2000000 in
theorem parseI_any (s : ByteArray) (w : World) (hs : s.size ≤ 1048576) :
    Calls Try.prog 7 #[.string s] w (ListB (parseR s.data.toList) w) := by
  obtain ⟨i0, hi, hz0, hz1, hz2⟩ := info_parts fput_info
  go_enter Try.func7, Try.ntmps7
  go_wp2_with fail
  go_loopw [0, 4] (fun x v wr => PRel s w x v wr) (fun x _ _ => strL x)
  case atStart => exact PRel.start s w
  case round =>
    obtain ⟨r, l, rfl, hown, hcl, hfm, hl12, hB⟩ := hrel
    have Hcl := Lib.hid hcl
    have Hfm := Lib.hid hfm
    have hrs : r.size ≤ 1048576 := by
      have := congrArg List.length hfm
      rw [List.length_append, size_list, size_list] at this
      omega
    obtain ⟨av, cv, rfl, hfv⟩ := hown.form
    have Hown := Lib.hid hown
    clear hcl hfm hown
    by_cases hr : r.data.toList = []
    · obtain rfl : r = .empty := bytes_ext (by simpa using hr)
      have hE : ByteArray.empty.toList.isEmpty = true := by rw [Lib.toList_data]; rfl
      have Hfm2 : Hid (fmtF l = s.data.toList) := Lib.hid (by simpa using Hfm.out)
      clear hr
      go_wp2_with fail
      refine (validI_any av _ cv l _ hfv (fmt_fits Hfm.out (by rw [size_list]; exact hs)) (by simp only [maxLen]; omega)).mono ?_
      rintro e w1 ⟨rfl, hB1⟩
      have B1 := hB.trans (hB1.mono hB.size)
      cases hv : validB l with
      | false =>
        have Hv := Lib.hid hv; clear hv
        go_wp2_with fail
        go_ret2
        exact ListB.none (way_end Hcl.out Hfm2.out Hv.out) B1
      | true =>
        have Hv := Lib.hid hv; clear hv
        go_wp2_with fail
        go_ret2
        exact ListB.some (parseR_fine Hv.out Hfm2.out) (own_raise Hown.out hB1) B1
    · have hE := empty_not hr
      have Hr := Lib.hid hr
      clear hr
      by_cases h10 : (10 : UInt8) ∈ r.data.toList
      · obtain ⟨x, y, hxy, hx⟩ := mem_parts h10
        have Hxy := Lib.hid hxy
        have Hx := Lib.hid hx
        clear hxy hx h10
        have hsz := size_parts Hxy.out
        by_cases h32 : (32 : UInt8) ∈ x
        · obtain ⟨p, t, hpt, hp⟩ := mem_parts h32
          have Hpt := Lib.hid hpt
          have Hp := Lib.hid hp
          clear hpt hp h32
          by_cases h12 : l.length = 12
          · have H12 := Lib.hid h12
            have hd : ((l.length : Int) == 12) = true := by simp; omega
            go_wp2_with fail
            refine (cut_hit r 10 x y _ Hxy.out Hx.out (by simp only [maxLen]; omega)).mono ?_
            rintro e w1 ⟨rfl, hB1⟩
            go_wp2_with fail
            refine (parse_hit _ p t _ Hpt.out Hp.out (by show x.length ≤ _; simp only [maxLen]; omega)).mono ?_
            rintro e w2 ⟨rfl, hB2⟩
            have B2 := (hB.trans (hB1.mono hB.size)).trans (hB2.mono (hB.trans (hB1.mono hB.size)).size)
            go_wp2_with fail
            go_ret2
            exact ListB.none (way_long Hcl.out Hfm.out Hr.out H12.out) (B2.alloc B2.size _)
          · have hd : ((l.length : Int) == 12) = false := by rw [beq_eq_false_iff_ne]; omega
            have hl11 : l.length + 1 ≤ 12 := by omega
            have Hway := Lib.hid (way_on (s := s.data.toList) (x := p) (z := t) (y := y) Hcl.out (by rw [← Hpt.out, ← Hxy.out]; exact Hfm.out) (Hpt.out ▸ Hx.out) Hp.out)
            clear h12
            go_wp2_with fail
            refine (cut_hit r 10 x y _ Hxy.out Hx.out (by simp only [maxLen]; omega)).mono ?_
            rintro e w1 ⟨rfl, hB1⟩
            go_wp2_with fail
            refine (parse_hit _ p t _ Hpt.out Hp.out (by show x.length ≤ _; simp only [maxLen]; omega)).mono ?_
            rintro e w2 ⟨rfl, hB2⟩
            have B1 := hB.trans (hB1.mono hB.size)
            have B2 := B1.trans (hB2.mono B1.size)
            have Hown2 := Lib.hid (own_raise (own_raise Hown.out hB1) hB2)
            have hbs := B2.size
            go_wp2_with (at_builtin; refine wpList_append_own _ rfl _ _ 23 rfl w.heap.size 38 i0 _ 2 32 Try.underlying23 hi hz0 hz1 hz2 rfl (by decide) _ _ _ rfl (World.ownsRow.alloc (World.ownsRow.alloc Hown2.out _) _) ⟨w2.heap.size + 1, 0, none⟩ 1 1 [.string ⟨p.toArray⟩, .string ⟨t.toArray⟩] rfl rfl (by intro j u hu; have := two_new (w2.alloc (.cells #[.string ⟨p.toArray⟩, .string ⟨t.toArray⟩] 38)) (.string ⟨p.toArray⟩) (.string ⟨t.toArray⟩) 38 j u hu; simpa using this) (by simp [Value.oneCell']) (by simp only [maxLen]; omega) (by omega) (by simp; omega) ?_; intro v3 w3 hown3 hgrow _)
            have hown4 : OwnsF w3 w.heap.size v3 (l ++ [(⟨p.toArray⟩, ⟨t.toArray⟩)]) := OwnsF.grew hown3
            exact ⟨⟨⟨y.toArray⟩, l ++ [(⟨p.toArray⟩, ⟨t.toArray⟩)], rfl, hown4, Hway.out.1, Hway.out.2, by rw [List.length_append]; exact hl11, ((B2.alloc hbs _).alloc (by simp; omega) _).grown hgrow (by simp; omega) (own_at Hown2.out)⟩, by show y.length < r.size; omega⟩
        · go_wp2_with fail
          refine (cut_hit r 10 x y _ Hxy.out Hx.out (by simp only [maxLen]; omega)).mono ?_
          rintro e w1 ⟨rfl, hB1⟩
          go_wp2_with fail
          refine (parse_miss ⟨x.toArray⟩ _ h32).mono ?_
          rintro e w2 ⟨rfl, hB2⟩
          have B1 := hB.trans (hB1.mono hB.size)
          have B2 := B1.trans (hB2.mono B1.size)
          go_wp2_with fail
          go_ret2
          exact ListB.none (way_blank Hcl.out (by rw [← Hxy.out]; exact Hfm.out) Hx.out h32) (B2.alloc B2.size _)
      · have H10 := Lib.hid h10
        clear h10
        by_cases h32 : (32 : UInt8) ∈ r.data.toList
        · obtain ⟨p, t, hpt, hp⟩ := mem_parts h32
          have Hpt := Lib.hid hpt
          have Hp := Lib.hid hp
          clear hpt hp h32
          go_wp2_with fail
          refine (cut_miss r 10 _ H10.out).mono ?_
          rintro e w1 ⟨rfl, hB1⟩
          go_wp2_with fail
          refine (parse_hit _ p t _ Hpt.out Hp.out (by simp only [maxLen]; omega)).mono ?_
          rintro e w2 ⟨rfl, hB2⟩
          have B1 := hB.trans (hB1.mono hB.size)
          have B2 := B1.trans (hB2.mono B1.size)
          go_wp2_with fail
          go_ret2
          exact ListB.none (way_miss Hcl.out Hfm.out Hr.out H10.out) (B2.alloc B2.size _)
        · have H32 := Lib.hid h32
          clear h32
          go_wp2_with fail
          refine (cut_miss r 10 _ H10.out).mono ?_
          rintro e w1 ⟨rfl, hB1⟩
          go_wp2_with fail
          refine (parse_miss r _ H32.out).mono ?_
          rintro e w2 ⟨rfl, hB2⟩
          have B1 := hB.trans (hB1.mono hB.size)
          have B2 := B1.trans (hB2.mono B1.size)
          go_wp2_with fail
          go_ret2
          exact ListB.none (way_miss Hcl.out Hfm.out Hr.out H10.out) (B2.alloc B2.size _)
end Go.Proofs.Ytoggclkbmhgfhaa
