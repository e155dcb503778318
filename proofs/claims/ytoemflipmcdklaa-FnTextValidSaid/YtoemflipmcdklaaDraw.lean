/-
  The drawing functions on single strings.
-/
import Derived.Test.YtoemflipmcdklaaRd
namespace Go.Proofs.Ytoemflipmcdklaa
open Go.RowKit

/-- what 'of' leaves: a string with Q, the reader asked once more -/
def OfPost (Q : ByteArray → Prop) (w : World) (B R : Nat) (a : Option Addr) (n c p : Nat) (e : Ending) (w' : World) : Prop :=
  (∃ s : ByteArray, e = .returned (.string s) ∧ Q s) ∧ Step w w' B R a n c p (p + 1) 1

/-- the row of strings at block g has Q throughout -/
def StrsAt (w : World) (Q : ByteArray → Prop) (g m : Nat) : Prop := ∀ i, i < m → ∃ s, w.cell? ⟨g, i, none⟩ = some (.string s) ∧ Q s
theorem StrsAt.of_block {w : World} {Q : ByteArray → Prop} {g : Nat} {cs : Array Value} {T : TypeId} {fr : Nat × Nat} (h : w.heap[g]? = some (.cells cs T fr)) (hQ : ∀ u ∈ cs.toList, ∃ s, u = .string s ∧ Q s) : StrsAt w Q g cs.size := by
  intro i hi
  obtain ⟨s, hs, hq⟩ := hQ (cs[i]) (by simp)
  exact ⟨s, by rw [cell_of_row w g i cs T fr h]; simp [hi, hs], hq⟩

set_option maxHeartbeats 400000 in
theorem of_any {n c p B R g m d : Nat} {a : Option Addr} {w : World} {Q : ByteArray → Prop} (h : Rd w B R a n c p) (hp : p ≤ 1073741824) (hm : m ≤ 1048576) (hm1 : 1 ≤ m) (hne : g ≠ R) (hs : StrsAt w Q g m) :
    Calls Try.prog 24 #[.pointer (some ⟨R, 0, none⟩), .slice (some ⟨g, 0, none⟩) m d] w fun e w' => OfPost Q w B R a n c p e w' := by
  go_enter Try.func24, Try.ntmps24
  go_wp2_with fail
  refine (pick_step h hp (by omega)).mono ?_
  rintro e w1 ⟨⟨x, rfl, hlt, _⟩, hst⟩
  have hxm := hlt (by omega)
  obtain ⟨s, hsc, hq⟩ := hs x (by omega)
  have hgl : g < w.heap.size := World.block_lt_of_cell? w _ hsc
  have hsc' : w1.cell? ⟨g, x, none⟩ = some (.string s) := (hst.cell (i := ⟨g, x, none⟩) hgl hne).trans hsc
  clear hlt
  go_wp2_with fail
  go_ret
  exact ⟨⟨s, rfl, hq⟩, hst⟩

/-- 'of' at a list that was just made -/
theorem of_new {n c p B R d : Nat} {a : Option Addr} {w : World} {T : TypeId} {cs : Array Value} (Q : ByteArray → Prop) (m : Nat) (h : Rd w B R a n c p) (hp : p ≤ 1073741824) (hm : m ≤ 1048576) (hm1 : 1 ≤ m) (hsz : cs.size = m) (hQ : ∀ u ∈ cs.toList, ∃ s, u = .string s ∧ Q s) :
    Calls Try.prog 24 #[.pointer (some ⟨R, 0, none⟩), .slice (some ⟨w.heap.size, 0, none⟩) m d] (w.alloc (.cells cs T)) fun e w' => OfPost Q (w.alloc (.cells cs T)) B R a n c p e w' := by
  have hR := h.lt
  refine of_any (h.alloc _) hp hm hm1 (by omega) ?_
  rw [← hsz]
  exact StrsAt.of_block (heap_alloc_new w _) hQ

set_option maxHeartbeats 400000 in
theorem open_any (a : Option Addr) (n c : Nat) (w : World) (hb : BytesAt w w.heap.size a n) (hn : n ≤ c) (hc : c ≤ maxLen) :
    Calls Try.prog 23 #[.slice a n c] w fun e w' =>
      ∃ g n' c', e = .returned (.pointer (some ⟨g, 0, none⟩)) ∧ w.heap.size ≤ g ∧ Rd w' w.heap.size g a n' c' 0 ∧ Below w.heap.size w w' := by
  unfold maxLen at hc
  by_cases h2 : 2000 < n
  · obtain ⟨b, off, rfl, hbb, hz⟩ := hb (by omega)
    go_enter Try.func23, Try.ntmps23
    go_wp2
    go_ret
    exact ⟨_, _, _, rfl, Nat.le_refl _, Rd.made _ (hb.fewer (by omega)) (by omega), (Below.refl _ _).alloc (Nat.le_refl _) _⟩
  · go_enter Try.func23, Try.ntmps23
    go_wp2
    go_ret
    exact ⟨_, _, _, rfl, Nat.le_refl _, Rd.made _ (hb.fewer (by omega)) (by omega), (Below.refl _ _).alloc (Nat.le_refl _) _⟩

/-- what a drawing function of strings leaves -/
def DrawPost (Q : ByteArray → Prop) (w : World) (B R : Nat) (a : Option Addr) (n c p k : Nat) (e : Ending) (w' : World) : Prop :=
  ∃ s q, e = .returned (.string s) ∧ Q s ∧ Step w w' B R a n c p q k

set_option maxHeartbeats 400000 in
theorem text_any {n c p B R : Nat} {a : Option Addr} {w : World} (h : Rd w B R a n c p) (hp : p ≤ 1073741824) :
    Calls Try.prog 25 #[.pointer (some ⟨R, 0, none⟩)] w fun e w' => DrawPost (fun s => s.size ≤ 10) w B R a n c p 1 e w' := by
  have hR := h.lt
  go_enter Try.func25, Try.ntmps25
  go_wp2_with fail
  refine (of_new (fun s => s.size ≤ 10) 9 h hp (by omega) (by omega) rfl ?_).mono ?_
  · simp; decide
  rintro e w1 ⟨⟨s, rfl, hq⟩, hst⟩
  go_wp2_with fail
  go_ret
  exact ⟨s, _, rfl, hq, (((Step.refl h).alloc _).trans hst).more (by omega)⟩

set_option maxHeartbeats 400000 in
theorem drawPath_any (a : Option Addr) (n c : Nat) (w : World) (hb : BytesAt w w.heap.size a n) (hn : n ≤ c) (hc : c ≤ maxLen) :
    Calls Try.prog 13 #[.slice a n c] w fun e w' => (∃ s : ByteArray, e = .returned (.string s) ∧ s.size ≤ 10) ∧ Below w.heap.size w w' := by
  go_enter Try.func13, Try.ntmps13
  go_wp2_with fail
  refine (open_any a n c w hb hn hc).mono ?_
  rintro e w1 ⟨R, n', c', rfl, hle, hr, hB⟩
  have hR := hr.lt
  go_wp2_with fail
  refine (of_new (fun s => s.size ≤ 10) 10 hr (by omega) (by omega) (by omega) rfl ?_).mono ?_
  · simp; decide
  rintro e w2 ⟨⟨s, rfl, hq⟩, hst⟩
  go_wp2_with fail
  go_ret
  have hst := ((Step.refl hr).alloc _).trans hst
  exact ⟨⟨s, rfl, hq⟩, hB.trans (hst.toBelow hle hB.size)⟩

theorem snoc_size (s : ByteArray) (c : UInt8) : (s ++ { data := #[c] } : ByteArray).size = s.size + 1 := by
  rw [ByteArray.size_append]; rfl
/-- the length of the string in a slot -/
def lenOf : Value → Nat | .string s => s.size | _ => 0

set_option maxHeartbeats 800000 in
theorem drawText_any (a : Option Addr) (n c : Nat) (w : World) (hb : BytesAt w w.heap.size a n) (hn : n ≤ c) (hc : c ≤ maxLen) :
    Calls Try.prog 14 #[.slice a n c] w fun e w' => (∃ s : ByteArray, e = .returned (.string s) ∧ s.size ≤ 80) ∧ Below w.heap.size w w' := by
  go_enter Try.func14, Try.ntmps14
  go_wp2_with fail
  refine (open_any a n c w hb hn hc).mono ?_
  rintro e w1 ⟨R, n', c', rfl, hle, hr, hB⟩
  go_wp2_with fail
  refine (text_any hr (by omega)).mono ?_
  rintro e w2 ⟨s1, q1, rfl, hs1, hst1⟩
  go_wp2_with fail
  refine (text_any hst1.rd (by have := hst1.hi; omega)).mono ?_
  rintro e w3 ⟨s2, q2, rfl, hs2, hst2⟩
  have hst := hst1.trans hst2
  clear hst1 hst2
  have hq2 := hst.hi
  go_wp2_with fail
  refine (pick_step hst.rd (by omega) (by omega)).mono ?_
  rintro e w4 ⟨⟨x, rfl, hlt, _⟩, hst4⟩
  have hst' := hst.trans hst4
  clear hst hst4
  by_cases h0 : x = 0
  · subst h0
    go_wp2_with fail
    refine (of_new (fun s => s.size ≤ 10) 6 hst'.rd (by have := hst'.hi; omega) (by omega) (by omega) rfl ?_).mono ?_
    · simp; decide
    rintro e w5 ⟨⟨s3, rfl, hs3⟩, hst5⟩
    go_wp2_with fail
    go_ret
    exact ⟨⟨_, rfl, by simp; omega⟩, hB.trans (((hst'.alloc _).trans hst5).toBelow hle hB.size)⟩
  · by_cases h1 : x = 1
    · subst h1
      have hx : ((1 : Int) == 0) = false := rfl
      go_wp2_with fail
      go_loopw [4] (fun v wr => ∃ s q, v = .string s ∧ s.size ≤ 61 ∧ Step w1 wr w.heap.size R a n' c' 0 q (3 + s.size)) (fun v _ => 100 - lenOf v)
      case atStart => exact ⟨_, _, rfl, by simp; omega, hst'.more (by omega)⟩
      case round =>
        obtain ⟨s, q, rfl, hs, hst⟩ := hrel
        have hq := hst.hi
        go_wp2_with fail
        refine (pick_step hst.rd (by omega) (by omega)).mono ?_
        rintro e w5 ⟨⟨y, rfl, hlt', _⟩, hst5⟩
        have hy := hlt' (by omega)
        clear hlt'
        have hst6 := hst.trans hst5
        by_cases hlt : (s.size : Int) < 60 + (y : Int)
        · go_wp2_with fail
          go_roundw
          case rel => exact ⟨_, _, rfl, by rw [snoc_size]; omega, hst6.more (by rw [snoc_size]; omega)⟩
          case measure => show 100 - (s ++ { data := #[113] } : ByteArray).size < 100 - s.size; rw [snoc_size]; omega
        · go_wp2_with fail
          go_ret
          exact ⟨⟨_, rfl, by omega⟩, hB.trans (hst6.toBelow hle hB.size)⟩
    · have hx0 : ((x : Int) == 0) = false := by simp; omega
      have hx1 : ((x : Int) == 1) = false := by simp; omega
      go_wp2_with fail
      go_ret
      exact ⟨⟨_, rfl, by simp; omega⟩, hB.trans (hst'.toBelow hle hB.size)⟩
end Go.Proofs.Ytoemflipmcdklaa
