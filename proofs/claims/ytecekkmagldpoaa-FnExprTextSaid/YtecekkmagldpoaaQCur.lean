/-
  The program's cursor over the text of an expression: its small methods.
-/
import Derived.Test.YtecekkmagldpoaaProg
import Derived.Test.YtecekkmagldpoaaGone
import Derived.Test.YtecekkmagldpoaaQCut
import Derived.OwnWalk
import Derived.Deep.QuietTactic
import Derived.BigQuiet
namespace Go.Proofs.Ytecekkmagldpoaa
set_option linter.unusedVariables false
set_option linter.unusedSimpArgs false
open Go.RowKit

/-- block R is the cursor: what is left of the text, and the nodes that were met -/
def Cur (w : World) (R : Nat) (s : ByteArray) (m : Nat) : Prop := w.heap[R]? = some (.cells #[.string s, .int .i64 m] 41 (0, 0))
section
variable {w w' : World} {R m : Nat} {s : ByteArray}
theorem Cur.facts (h : Cur w R s m) : w.cell? ⟨R, 0, none⟩ = some (.string s) ∧ w.cell? ⟨R, 1, none⟩ = some (.int .i64 m) ∧ w.frozen? ⟨R, 0, none⟩ = false ∧ w.frozen? ⟨R, 1, none⟩ = false ∧ R < w.heap.size :=
  ⟨by rw [cell_of_row _ _ _ _ _ _ h]; rfl, by rw [cell_of_row _ _ _ _ _ _ h]; rfl, blk_frozen h 0, blk_frozen h 1, blk_lt h⟩
theorem Cur.set0 (h : Cur w R s m) (s' : ByteArray) : Cur (w.setCell ⟨R, 0, none⟩ (.string s')) R s' m := blk_set h 0 _
theorem Cur.set1 (h : Cur w R s m) (m' : Nat) : Cur (w.setCell ⟨R, 1, none⟩ (.int .i64 m')) R s m' := blk_set h 1 _
theorem Cur.alloc (h : Cur w R s m) (o : Obj) : Cur (w.alloc o) R s m := (Below.heap_alloc w o R (blk_lt h)).trans h
theorem Cur.below (h : Cur w R s m) (hB : Below w.heap.size w w') : Cur w' R s m := (hB.block R (blk_lt h)).trans h
theorem Cur.other (h : Cur w R s m) {g : Nat} (hne : R ≠ g) (i : Nat) (u : Value) : Cur (w.setCell ⟨g, i, none⟩ u) R s m := (Below.heap_setCell w _ _ R (fun e => hne (by simpa using e))).trans h
theorem grown_set1 (w : World) (R i : Nat) (u : Value) : w.grownBy (w.setCell ⟨R, i, none⟩ u) (some R) := ⟨rfl, rfl, rfl, by simp [World.setCell], fun k _ hk => Below.heap_setCell w _ _ k (fun e => hk (by simpa using e))⟩
end
/-- the cursor alone has moved -/
def Moved (w : World) (R : Nat) (s : ByteArray) (m : Nat) (w' : World) : Prop := Cur w' R s m ∧ w.grownBy w' (some R) ∧ w'.heap.size = w.heap.size

theorem admitC_any (R m : Nat) (s : ByteArray) (w : World) (hc : Cur w R s m) (hm : m ≤ 1000) :
    Calls Try.prog 27 #[.pointer (some ⟨R, 1, none⟩)] w fun e w' => e = .returned (.bool (decide (m + 1 ≤ 20))) ∧ Moved w R s (m + 1) w' := by
  obtain ⟨c0, c1, f0, f1, hl⟩ := hc.facts
  have hc' : Cur (w.setCell ⟨R, 1, none⟩ (.int .i64 ((m : Int) + 1))) R s (m + 1) := hc.set1 (m + 1)
  have hg := grown_set1 w R 1 (.int .i64 ((m : Int) + 1))
  have Hc := Lib.hid (And.intro hc' hg)
  clear hc hc' hg
  go_enter Try.func27, Try.ntmps27
  go_wp2_with fail
  go_ret
  exact ⟨ret_bool (Bool.eq_iff_iff.2 (by simp; try omega)), Hc.out.1, Hc.out.2, by simp [World.setCell]⟩

/-- the kind that a byte begins -/
def kindB (c : UInt8) : Int := if c = 39 then 1 else if c = 64 then 2 else if c = 40 then 3 else if c = 91 then 4 else if c = 60 then 5 else if c = 62 then 6 else if c = 35 then 7 else 0
theorem kind_ix (c : UInt8) : 1 + Lib.indexByte [39, 64, 40, 91, 60, 62, 35] c = kindB c := by
  unfold kindB
  by_cases h1 : c = 39
  · subst h1; rfl
  · by_cases h2 : c = 64
    · subst h2; rfl
    · by_cases h3 : c = 40
      · subst h3; rfl
      · by_cases h4 : c = 91
        · subst h4; rfl
        · by_cases h5 : c = 60
          · subst h5; rfl
          · by_cases h6 : c = 62
            · subst h6; rfl
            · by_cases h7 : c = 35
              · subst h7; rfl
              · rw [if_neg h1, if_neg h2, if_neg h3, if_neg h4, if_neg h5, if_neg h6, if_neg h7, ixB_miss (by simp; exact ⟨h1, h2, h3, h4, h5, h6, h7⟩)]
                rfl
theorem kindB_range (c : UInt8) : 0 ≤ kindB c ∧ kindB c ≤ 7 := by unfold kindB; repeat' split <;> omega
theorem ixbs_any (s : ByteArray) (c : Int) (w : World) :
    Calls Try.prog 45 #[.string s, .int .u8 c] w fun e w' => e = .returned (.int .i64 (Lib.indexByte s.data.toList c.toNat.toUInt8)) ∧ w' = w := by
  go_enter Try.func45, Try.ntmps45
  go_wp2_with (go_at_call 53; refine (ixb_any _ _ _).mono ?_; rintro e w' ⟨rfl, rfl⟩)
  go_ret
  exact ⟨rfl, rfl⟩

theorem kind_nil (R m : Nat) (w : World) (hc : Cur w R .empty m) :
    Calls Try.prog 28 #[.pointer (some ⟨R, 0, none⟩)] w fun e w' => e = .returned (.int .i64 0) ∧ Moved w R .empty m w' := by
  obtain ⟨c0, c1, f0, f1, hl⟩ := hc.facts
  have Hc := Lib.hid hc
  clear hc
  have he : (ByteArray.empty.toList == ([] : List UInt8)) = true := by rw [Lib.toList_data]; rfl
  go_enter Try.func28, Try.ntmps28
  go_wp2_with fail
  go_ret
  exact ⟨rfl, Hc.out, World.grownBy.refl _ _, rfl⟩

theorem ext_one {s : ByteArray} {c : UInt8} {l : List UInt8} (h : s.data.toList = c :: l) : s.extract 1 s.size = ⟨l.toArray⟩ := by
  have hl : s.size = l.length + 1 := by
    show s.data.size = _
    rw [← Array.length_toList, h]; simp
  refine ba_ext ?_
  rw [ByteArray.data_extract, Array.toList_extract, h, hl, List.extract_eq_take_drop]
  simp
set_option maxHeartbeats 400000 in
theorem kind_cons (R m : Nat) (s : ByteArray) (c : UInt8) (l : List UInt8) (w : World) (hc : Cur w R s m) (h : s.data.toList = c :: l) (hs : s.size ≤ maxLen) :
    Calls Try.prog 28 #[.pointer (some ⟨R, 0, none⟩)] w fun e w' => e = .returned (.int .i64 (kindB c)) ∧ Moved w R ⟨l.toArray⟩ m w' := by
  obtain ⟨c0, c1, f0, f1, hl⟩ := hc.facts
  unfold maxLen at hs
  have hz : 1 ≤ s.size := by
    show 1 ≤ s.data.size
    rw [← Array.length_toList, h]; simp
  have hget : s[0]'(by omega) = c := by
    have : s.data.toList[0]'(by rw [h]; simp) = c := by simp [h]
    exact this
  have he : (s.toList == ([] : List UInt8)) = false := by rw [Lib.toList_data, h]; rfl
  have Hx := Lib.hid (ext_one h)
  have Hg := Lib.hid hget
  have Hc := Lib.hid hc
  have hk := kind_ix c
  have hk0 : -1 ≤ Lib.indexByte [39, 64, 40, 91, 60, 62, 35] c ∧ Lib.indexByte [39, 64, 40, 91, 60, 62, 35] c ≤ 7 := by
    have : 0 ≤ kindB c ∧ kindB c ≤ 7 := by unfold kindB; repeat' split <;> omega
    omega
  have Hk := Lib.hid hk
  have i1 : (0 : Int) < (s.size : Int) := by omega
  have i2 : (1 : Int) ≤ (s.size : Int) := by omega
  clear h hget hc hk
  go_enter Try.func28, Try.ntmps28
  go_wp2_with (go_at_call 45; refine (ixbs_any _ _ _).mono ?_; rintro e w' ⟨rfl, rfl⟩)
  go_ret
  refine ⟨ret_int ?_, ?_, grown_set1 _ _ _ _, by simp [World.setCell]⟩
  · rw [Hg.out, Hk.out]
    obtain ⟨r1, r2⟩ := kindB_range c
    unfold wrap64
    omega
  · rw [Hx.out]; exact Hc.out.set0 _

/-- the prefix is there -/
def cutB (s p : ByteArray) : Bool := decide (p.size ≤ s.size) && ((s.extract 0 p.size).toList == p.toList)
theorem hp_any (s p : ByteArray) (w : World) (hs : s.size ≤ maxLen) (hp : p.size ≤ maxLen) :
    Calls Try.prog 66 #[.string s, .string p] w fun e w' => e = .returned (.bool (cutB s p)) ∧ w' = w := by
  unfold maxLen at hs hp
  by_cases h : p.size ≤ s.size
  · have h1 : (p.size : Int) ≤ (s.size : Int) := by omega
    have h2 : (0 : Int) ≤ (p.size : Int) := by omega
    go_enter Try.func66, Try.ntmps66
    go_wp2_with fail
    go_ret
    exact ⟨ret_bool (by unfold cutB; rw [decide_eq_true h, Bool.true_and]), rfl⟩
  · have h1 : ¬ (p.size : Int) ≤ (s.size : Int) := by omega
    go_enter Try.func66, Try.ntmps66
    go_wp2_with fail
    go_ret
    exact ⟨ret_bool (by unfold cutB; rw [decide_eq_false h, Bool.false_and]), rfl⟩
theorem cutB_le {s p : ByteArray} (h : cutB s p = true) : p.size ≤ s.size := by
  unfold cutB at h
  simp only [Bool.and_eq_true, decide_eq_true_eq] at h
  exact h.1
/-- what CutPrefix answers -/
def CpR (s p : ByteArray) (w : World) (e : Ending) (w' : World) : Prop := e = .returned (.tuple #[.string (if cutB s p = true then s.extract p.size s.size else s), .bool (cutB s p)]) ∧ w' = w
theorem CpR.yes {s p : ByteArray} {w : World} (h : cutB s p = true) : CpR s p w (.returned (.tuple #[.string (s.extract p.size s.size), .bool true])) w := ⟨by rw [h, if_pos rfl], rfl⟩
theorem CpR.no {s p : ByteArray} {w : World} (h : cutB s p = false) : CpR s p w (.returned (.tuple #[.string s, .bool false])) w := ⟨by rw [h]; rfl, rfl⟩
theorem cp0_any (s p : ByteArray) (w : World) (hs : s.size ≤ maxLen) (hp : p.size ≤ maxLen) :
    Calls Try.prog 60 #[.string s, .string p] w (CpR s p w) := by
  have Hs := Lib.hid hs
  have Hp := Lib.hid hp
  unfold maxLen at hs hp
  by_cases hb : cutB s p = true
  · have hle := cutB_le hb
    have h1 : (p.size : Int) ≤ (s.size : Int) := by omega
    have h2 : (0 : Int) ≤ (p.size : Int) := by omega
    have Hb := Lib.hid hb
    clear hb
    go_enter Try.func60, Try.ntmps60
    go_wp2_with (go_at_call 66; refine ((hp_any s p _ Hs.out Hp.out).mono fun e w' h => (And.intro (h.1.trans (ret_bool Hb.out)) h.2 : e = .returned (.bool true) ∧ w' = w)).mono ?_; rintro e w' ⟨rfl, rfl⟩)
    go_ret2
    exact CpR.yes Hb.out
  · have Hb := Lib.hid (Bool.eq_false_iff.2 hb)
    clear hb
    go_enter Try.func60, Try.ntmps60
    go_wp2_with (go_at_call 66; refine ((hp_any s p _ Hs.out Hp.out).mono fun e w' h => (And.intro (h.1.trans (ret_bool Hb.out)) h.2 : e = .returned (.bool false) ∧ w' = w)).mono ?_; rintro e w' ⟨rfl, rfl⟩)
    go_ret2
    exact CpR.no Hb.out
theorem cp_any (s p : ByteArray) (w : World) (hs : s.size ≤ maxLen) (hp : p.size ≤ maxLen) :
    Calls Try.prog 55 #[.string s, .string p] w fun e w' => e = .returned (.tuple #[.string (if cutB s p = true then s.extract p.size s.size else s), .bool (cutB s p)]) ∧ w' = w := by
  have Hs := Lib.hid hs
  have Hp := Lib.hid hp
  clear hs hp
  have Hc := fun W => Lib.hid ((cp0_any s p W Hs.out Hp.out).mono fun e w' h => (show e = .returned (.tuple #[.string (if cutB s p = true then s.extract p.size s.size else s), .bool (cutB s p)]) ∧ w' = W from h))
  generalize (if cutB s p = true then s.extract p.size s.size else s) = t at *
  generalize cutB s p = b at *
  go_enter Try.func55, Try.ntmps55
  go_wp2_with (go_at_call 60; refine ((Hc _).out).mono ?_; rintro e w' ⟨rfl, rfl⟩)
  go_ret2
  exact ⟨rfl, rfl⟩
theorem take_any (R m : Nat) (s p : ByteArray) (w : World) (hc : Cur w R s m) (hs : s.size ≤ maxLen) (hp : p.size ≤ maxLen) :
    Calls Try.prog 47 #[.pointer (some ⟨R, 0, none⟩), .string p] w fun e w' => e = .returned (.bool (cutB s p)) ∧ Moved w R (if cutB s p = true then s.extract p.size s.size else s) m w' := by
  have Hs := Lib.hid hs
  have Hp := Lib.hid hp
  clear hs hp
  obtain ⟨c0, c1, f0, f1, hl⟩ := hc.facts
  have Hcu := Lib.hid hc
  clear hc
  have Hc := fun W => Lib.hid (cp_any s p W Hs.out Hp.out)
  generalize (if cutB s p = true then s.extract p.size s.size else s) = t at *
  generalize cutB s p = b at *
  go_enter Try.func47, Try.ntmps47
  go_wp2_with (go_at_call 55; refine ((Hc _).out).mono ?_; rintro e w' ⟨rfl, rfl⟩)
  go_ret
  exact ⟨rfl, Hcu.out.set0 _, grown_set1 _ _ _ _, by simp [World.setCell]⟩
/-- what precedes a quote -/
theorem until_hit (R m : Nat) (s : ByteArray) (x y : List UInt8) (w : World) (hc : Cur w R s m) (h : s.data.toList = x ++ 39 :: y) (hx : (39 : UInt8) ∉ x) (hs : s.size ≤ maxLen) :
    Calls Try.prog 29 #[.pointer (some ⟨R, 0, none⟩), .string ⟨#[39]⟩] w fun e w' => e = .returned (.tuple #[.string ⟨x.toArray⟩, .bool true]) ∧ ∃ w1, Below w.heap.size w w1 ∧ w' = w1.setCell ⟨R, 0, none⟩ (.string ⟨y.toArray⟩) := by
  have H := Lib.hid h
  have Hs := Lib.hid hs
  clear h hs
  obtain ⟨c0, c1, f0, f1, hl⟩ := hc.facts
  go_enter Try.func29, Try.ntmps29
  go_wp2_with fail
  refine (cut_hit s 39 x y _ H.out hx Hs.out).mono ?_
  rintro e w1 ⟨rfl, hB⟩
  obtain ⟨d0, d1, g0, g1, hl1⟩ := (hc.below hB).facts
  clear hc
  go_wp2_with fail
  go_ret2
  exact ⟨rfl, w1, hB, rfl⟩
theorem until_miss (R m : Nat) (s : ByteArray) (w : World) (hc : Cur w R s m) (h : (39 : UInt8) ∉ s.data.toList) :
    Calls Try.prog 29 #[.pointer (some ⟨R, 0, none⟩), .string ⟨#[39]⟩] w fun e w' => e = .returned (.tuple #[.string s, .bool false]) ∧ ∃ w1, Below w.heap.size w w1 ∧ w' = w1.setCell ⟨R, 0, none⟩ (.string .empty) := by
  obtain ⟨c0, c1, f0, f1, hl⟩ := hc.facts
  go_enter Try.func29, Try.ntmps29
  go_wp2_with fail
  refine (cut_miss s 39 _ h).mono ?_
  rintro e w1 ⟨rfl, hB⟩
  obtain ⟨d0, d1, g0, g1, hl1⟩ := (hc.below hB).facts
  clear hc
  go_wp2_with fail
  go_ret2
  exact ⟨rfl, w1, hB, rfl⟩
/-- in words on lists of bytes -/
theorem cutB_yes {s p : ByteArray} (h : cutB s p = true) : ∃ t, s.data.toList = p.data.toList ++ t ∧ s.extract p.size s.size = ⟨t.toArray⟩ := by
  have hle := cutB_le h
  unfold cutB at h
  simp only [Bool.and_eq_true, decide_eq_true_eq, beq_iff_eq] at h
  have h2 := h.2
  rw [Lib.toList_data, Lib.toList_data, ByteArray.data_extract, Array.toList_extract, List.extract_eq_take_drop] at h2
  simp only [List.drop_zero, Nat.sub_zero] at h2
  have hsz : s.data.toList.length = s.size := by rw [Array.length_toList]; rfl
  refine ⟨s.data.toList.drop p.size, ?_, ?_⟩
  · rw [← h2]
    simp
  · refine ba_ext ?_
    rw [ByteArray.data_extract, Array.toList_extract, List.extract_eq_take_drop]
    simp only
    rw [List.take_of_length_le (by simp)]
theorem cutB_no {s p : ByteArray} (h : cutB s p = false) (t : List UInt8) : s.data.toList ≠ p.data.toList ++ t := by
  intro e
  have hsz : s.data.toList.length = s.size := by rw [Array.length_toList]; rfl
  have hpz : p.data.toList.length = p.size := by rw [Array.length_toList]; rfl
  have hle : p.size ≤ s.size := by
    have := congrArg List.length e
    rw [List.length_append] at this
    omega
  unfold cutB at h
  rw [decide_eq_true hle, Bool.true_and] at h
  have h2 := beq_eq_false_iff_ne.1 h
  apply h2
  rw [Lib.toList_data, Lib.toList_data, ByteArray.data_extract, Array.toList_extract, List.extract_eq_take_drop, e]
  simp only [List.drop_zero, Nat.sub_zero]
  rw [← hpz, List.take_left]
end Go.Proofs.Ytecekkmagldpoaa
