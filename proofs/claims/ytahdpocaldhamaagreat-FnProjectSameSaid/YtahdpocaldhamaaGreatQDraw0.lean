/-
  The random source's 'of', its making, and l1Text.
-/
import Derived.Test.YtahdpocaldhamaaGreatQRd
namespace Go.Proofs.YtahdpocaldhamaaGreat
set_option linter.unusedVariables false
open Go.RowKit

/-- what 'of' leaves: a string with Q, the reader asked once more -/
def OfPost (Q : ByteArray → Prop) (w : World) (B R : Nat) (a : Option Addr) (n c p : Nat) (e : Ending) (w' : World) : Prop :=
  (∃ s : ByteArray, e = .returned (.string s) ∧ Q s) ∧ Step w w' B R a n c p (p + 1) 1

/-- the row of strings at block g has Q throughout -/
def StrsAt (w : World) (Q : ByteArray → Prop) (g m : Nat) : Prop := ∀ i, i < m → ∃ s, w.cell? ⟨g, i, none⟩ = some (.string s) ∧ Q s
theorem StrsAt.of_block {w : World} {Q : ByteArray → Prop} {g : Nat} {cs : Array Value} {T : TypeId} {fr : Nat × Nat} (h : w.heap[g]? = some (.cells cs T fr)) (hQ : ∀ u ∈ cs.toList, ∃ s, u = .string s ∧ Q s) : StrsAt w Q g cs.size := by
  intro i hi
  obtain ⟨s, hs, hq⟩ := hQ (cs[i]) (by simp)
  exact ⟨s, by rw [cell_of_row w g i cs T fr h]; simp [hi, hs], hq⟩

set_option maxHeartbeats 400000 in
theorem of_any {n c p B R g m d : Nat} {a : Option Addr} {w : World} {Q : ByteArray → Prop} (h : Rd w B R a n c p) (hp : p ≤ 1073741824) (hm : m ≤ 1048576) (hm1 : 1 ≤ m) (hne : g ≠ R) (hs : StrsAt w Q g m) :
    Calls Tryz.prog 47 #[.pointer (some ⟨R, 0, none⟩), .slice (some ⟨g, 0, none⟩) m d] w fun e w' => OfPost Q w B R a n c p e w' := by
  go_enter Tryz.func47, Tryz.ntmps47
  go_wp2_with fail
  refine (pick_step h hp (by omega)).mono ?_
  rintro e w1 ⟨⟨x, rfl, hlt, _⟩, hst⟩
  have hxm := hlt (by omega)
  obtain ⟨s, hsc, hq⟩ := hs x (by omega)
  have hgl : g < w.heap.size := World.block_lt_of_cell? w _ hsc
  have hsc' : w1.cell? ⟨g, x, none⟩ = some (.string s) := (hst.cell (i := ⟨g, x, none⟩) hgl hne).trans hsc
  clear hlt
  go_wp2_with fail
  go_ret
  exact ⟨⟨s, rfl, hq⟩, hst⟩

/-- 'of' at a list that was just made -/
theorem of_new {n c p B R d : Nat} {a : Option Addr} {w : World} {T : TypeId} {cs : Array Value} (Q : ByteArray → Prop) (m : Nat) (h : Rd w B R a n c p) (hp : p ≤ 1073741824) (hm : m ≤ 1048576) (hm1 : 1 ≤ m) (hsz : cs.size = m) (hQ : ∀ u ∈ cs.toList, ∃ s, u = .string s ∧ Q s) :
    Calls Tryz.prog 47 #[.pointer (some ⟨R, 0, none⟩), .slice (some ⟨w.heap.size, 0, none⟩) m d] (w.alloc (.cells cs T)) fun e w' => OfPost Q (w.alloc (.cells cs T)) B R a n c p e w' := by
  have hR := h.lt
  refine of_any (h.alloc _) hp hm hm1 (by omega) ?_
  rw [← hsz]
  exact StrsAt.of_block (heap_alloc_new w _) hQ

set_option maxHeartbeats 400000 in
theorem open_any (a : Option Addr) (n c : Nat) (w : World) (hb : BytesAt w w.heap.size a n) (hn : n ≤ c) (hc : c ≤ maxLen) :
    Calls Tryz.prog 22 #[.slice a n c] w fun e w' =>
      ∃ g n' c', e = .returned (.pointer (some ⟨g, 0, none⟩)) ∧ w.heap.size ≤ g ∧ Rd w' w.heap.size g a n' c' 0 ∧ Below w.heap.size w w' := by
  unfold maxLen at hc
  by_cases h2 : 2000 < n
  · obtain ⟨b, off, rfl, hbb, hz⟩ := hb (by omega)
    go_enter Tryz.func22, Tryz.ntmps22
    go_wp2
    go_ret
    exact ⟨_, _, _, rfl, Nat.le_refl _, Rd.made _ (hb.fewer (by omega)) (by omega), (Below.refl _ _).alloc (Nat.le_refl _) _⟩
  · go_enter Tryz.func22, Tryz.ntmps22
    go_wp2
    go_ret
    exact ⟨_, _, _, rfl, Nat.le_refl _, Rd.made _ (hb.fewer (by omega)) (by omega), (Below.refl _ _).alloc (Nat.le_refl _) _⟩

/-- what a drawing function of strings leaves -/
def DrawPost (Q : ByteArray → Prop) (w : World) (B R : Nat) (a : Option Addr) (n c p k : Nat) (e : Ending) (w' : World) : Prop :=
  ∃ s q, e = .returned (.string s) ∧ Q s ∧ Step w w' B R a n c p q k

set_option maxHeartbeats 400000 in
theorem text_any {n c p B R : Nat} {a : Option Addr} {w : World} (h : Rd w B R a n c p) (hp : p ≤ 1073741824) :
    Calls Tryz.prog 86 #[.pointer (some ⟨R, 0, none⟩)] w fun e w' => DrawPost (fun s => s.size ≤ 10) w B R a n c p 1 e w' := by
  have hR := h.lt
  go_enter Tryz.func86, Tryz.ntmps86
  go_wp2_with fail
  refine (of_new (fun s => s.size ≤ 10) 9 h hp (by omega) (by omega) rfl ?_).mono ?_
  · simp; decide
  rintro e w1 ⟨⟨s, rfl, hq⟩, hst⟩
  go_wp2_with fail
  go_ret
  exact ⟨s, _, rfl, hq, (((Step.refl h).alloc _).trans hst).more (by omega)⟩

end Go.Proofs.YtahdpocaldhamaaGreat
