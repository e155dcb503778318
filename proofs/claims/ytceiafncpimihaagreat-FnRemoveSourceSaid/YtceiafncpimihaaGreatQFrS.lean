/-
  The reference's FindRule.
-/
import Derived.Test.YtceiafncpimihaaGreatGtwo
import Derived.Test.YtceiafncpimihaaGreatGone
import Derived.Test.YtceiafncpimihaaGreatQPrV
namespace Go.Proofs.YtceiafncpimihaaGreat
set_option linter.unusedVariables false
set_option linter.unusedSimpArgs false
open Go.RowKit

/-- what l3Rule finds -/
def ruleF (rs : List Ru) (x : ByteArray) : Int × ByteArray × Fo × Bool := match findB rs x with
  | some (k, s, ks) => (k, s, ks, true)
  | none => (0, .empty, .nil, false)
/-- what l3Rule leaves -/
def L3P (k : Int) (s : ByteArray) (ks : Fo) (found : Bool) (w : World) (e : Ending) (w' : World) : Prop := ∃ a n c, e = .returned (.tuple #[.agg #[.int .i64 k, .string s, .slice a n c], .bool found]) ∧ KA w' 0 w'.heap.size ks a n ∧ n ≤ c ∧ Below w.heap.size w w'

set_option maxRecDepth 100000 in
set_option maxHeartbeats 4000000 in
theorem l3Rule_any (a1 a2 : Option Addr) (n1 n2 c1 c2 : Nat) (rs : List Ru) (x : ByteArray) (w : World) (hr : RuAt w 0 w.heap.size rs a2 n2) (hn2 : n2 ≤ maxLen) :
    Calls Tryz.prog 56 #[.agg #[.slice a1 n1 c1, .slice a2 n2 c2], .string x] w (L3P (ruleF rs x).1 (ruleF rs x).2.1 (ruleF rs x).2.2.1 (ruleF rs x).2.2.2 w) := by
  have hB0 := ((Below.refl w.heap.size w).alloc (Nat.le_refl _) (.cells #[.slice a1 n1 c1, .slice a2 n2 c2] 26)).alloc (by simp) (.cells #[.int .i64 0, .string .empty, .slice none 0 0] 43)
  have hP0 := (BxP.new w (.slice a1 n1 c1) (.slice a2 n2 c2) 26).alloc (.cells #[.int .i64 0, .string .empty, .slice none 0 0] 43)
  have hE0 := BxE.new (w.alloc (.cells #[.slice a1 n1 c1, .slice a2 n2 c2] 26)) 0 .empty (.slice none 0 0) 43
  simp only [World.size_alloc] at hE0
  have hlen := hr.1
  unfold maxLen at hn2
  generalize hres : ruleF rs x = res
  obtain ⟨k, s, ks, found⟩ := res
  dsimp only
  have Hres := Lib.hid hres
  have hbx := Lib.hid (And.intro hP0 hE0)
  clear hres hP0 hE0
  go_enter Tryz.func56, Tryz.ntmps56
  go_wp2_with fail
  go_loopw [6] (fun i wr => ∃ j : Nat, j ≤ n2 ∧ i = .int .i64 j ∧ (∀ (i : Nat) (r : Ru), i < j → rs[i]? = some r → r.1 ≠ x) ∧ BxP wr w.heap.size (.slice a1 n1 c1) (.slice a2 n2 c2) 26 ∧ BxE wr (w.heap.size + 1) 0 .empty (.slice none 0 0) 43 ∧ Below w.heap.size w wr) (fun i _ => n2 - (intOf i).toNat)
  case atStart => exact ⟨0, Nat.zero_le _, rfl, fun i r h => absurd h (by omega), hbx.out.1, hbx.out.2, hB0⟩
  case round =>
    obtain ⟨j, hj, rfl, hno, hP, hE, hB⟩ := hrel
    obtain ⟨p0, p1, pf0, pf1, hpl⟩ := hP.facts
    obtain ⟨e0, e1, e2, f0, f1, f2, hel⟩ := hE.facts
    have Hno := Lib.hid hno
    clear hno
    by_cases hlt : j < n2
    · obtain ⟨b, off, t, k', s', ks', a', n', c', rfl, _, hb, hg, hc0, hc1, hc2, hc3, hcap, hks⟩ := (hr.below hB).get hlt
      have hbwr : b < wr.heap.size := by have := hB.size; omega
      have hjj : (j : Int) < (n2 : Int) := by omega
      have hj0 : (0 : Int) ≤ (j : Int) := by omega
      by_cases hpx : t = x
      · subst hpx
        have hf : ruleF rs t = (k', s', ks', true) := by unfold ruleF; rw [findB_at Hno.out hg]
        have Hres := Hres.out
        rw [hf] at Hres
        simp only [Prod.mk.injEq] at Hres
        obtain ⟨rfl, rfl, rfl, rfl⟩ := Hres
        have hd : (t.toList == t.toList) = true := by simp
        clear hf hg
        go_wp2_with fail
        refine bodyPost_ret (v := .tuple #[.agg #[.int .i64 k', .string s', .slice a' n' c'], .bool true]) (by simp [results, Tryz.results56, go_sem, *] <;> rfl) rfl ?_
        have hsz := hB.size
        exact ⟨a', n', c', rfl, (((hks.setCell (g := w.heap.size + 1) (.inr (by omega)) 0 _).setCell (g := w.heap.size + 1) (.inr (by omega)) 1 _).setCell (g := w.heap.size + 1) (.inr (by omega)) 2 _).more (Nat.le_refl _) (by simp [World.setCell]; omega), hcap, ((hB.setCell (Nat.le_succ _) _).setCell (Nat.le_succ _) _).setCell (Nat.le_succ _) _⟩
      · have hd : (t.toList == x.toList) = false := by rw [sEq]; simpa using hpx
        have Hg := Lib.hid hg
        have Hpx := Lib.hid hpx
        clear hg hpx
        go_wp2_with fail
        refine ⟨⟨j + 1, by omega, by go_num, fun i r hi hgi => ?_, hP, hE, hB⟩, by simp [intOf]; omega⟩
        by_cases e : i = j
        · subst e
          rw [Hg.out] at hgi
          cases hgi
          exact Hpx.out
        · exact Hno.out i r (by omega) hgi
    · have hjn : ¬ (j : Int) < (n2 : Int) := by omega
      have hf : ruleF rs x = (0, .empty, .nil, false) := by
        unfold ruleF
        rw [findB_all fun i r hgi => Hno.out i r (by have := (List.getElem?_eq_some_iff.1 hgi).1; omega) hgi]
      have Hres := Hres.out
      rw [hf] at Hres
      simp only [Prod.mk.injEq] at Hres
      obtain ⟨rfl, rfl, rfl, rfl⟩ := Hres
      clear hf
      go_wp2_with fail
      refine bodyPost_ret (v := .tuple #[.agg #[.int .i64 0, .string .empty, .slice none 0 0], .bool false]) (by simp [results, Tryz.results56, go_sem, *] <;> rfl) rfl ?_
      exact ⟨none, 0, 0, rfl, KA.nil, Nat.le_refl _, ((hB.setCell (Nat.le_succ _) _).setCell (Nat.le_succ _) _).setCell (Nat.le_succ _) _⟩

theorem ruleF_false {rs : List Ru} {x : ByteArray} {k : Int} {s : ByteArray} {ks : Fo} (h : ruleF rs x = (k, s, ks, false)) (fs : List Fl) : findP fs rs x = (0, .empty, .nil, false) := by
  unfold ruleF at h
  unfold findP
  cases hf : findB rs x with
  | some y => rw [hf] at h; simp at h
  | none => split <;> rfl
theorem ruleF_true {rs : List Ru} {x : ByteArray} {k : Int} {s : ByteArray} {ks : Fo} (h : ruleF rs x = (k, s, ks, true)) : findB rs x = some (k, s, ks) := by
  unfold ruleF at h
  cases hf : findB rs x with
  | some y =>
    obtain ⟨k', s', ks'⟩ := y
    rw [hf] at h
    simp only [Prod.mk.injEq] at h
    obtain ⟨rfl, rfl, rfl, _⟩ := h
    rfl
  | none => rw [hf] at h; simp at h
/-- what the reference's FindRule leaves -/
def FsP (k : Int) (s : ByteArray) (ks : Fo) (found : Bool) (w : World) (e : Ending) (w' : World) : Prop := ∃ a c, e = .returned (.tuple #[.agg #[.int .i64 k, .string s, .slice a ks.len c], .bool found]) ∧ ks.len ≤ c ∧ KP w' w.heap.size w'.heap.size ks a ks.len ∧ Below w.heap.size w w'

end Go.Proofs.YtceiafncpimihaaGreat
