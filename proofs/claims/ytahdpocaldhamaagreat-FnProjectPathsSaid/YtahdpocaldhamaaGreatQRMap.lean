/-
  The program's map of rules by their targets: newRuleMap.
-/
import Derived.Test.YtahdpocaldhamaaGreatQMapV
import Derived.Test.YtahdpocaldhamaaGreatGone
namespace Go.Proofs.YtahdpocaldhamaaGreat
set_option linter.unusedVariables false
set_option linter.unusedSimpArgs false
open Go.RowKit Go.Maps

theorem rlaw : Keyed Tryz.prog 9 := string_keyed Tryz.underlying9
theorem rzero (w : World) : (zeroValue 41).run Tryz.prog w = .ok (.agg #[.int .i64 0, .string .empty, .slice none 0 0]) w := by kernel_rfl
/-- an entry of the map is the rule's body as it lies in memory -/
def BodyV (w : World) (B : Nat) (g : Kv) (x : Ru) : Prop := g.1 = x.1 ∧ ∃ a n c, g.2 = .agg #[.int .i64 x.2.1, .string x.2.2.1, .slice a n c] ∧ n ≤ c ∧ KA w 0 B x.2.2.2 a n
/-- block b is a map of at most m entries that holds the bodies of these rules -/
def MapR (wr : World) (b m : Nat) (rs : List Ru) (w : World) (B : Nat) : Prop := ∃ D gs, wr.ownsMap Tryz.prog 9 anyElem b m D ∧ RepV D gs ∧ (∀ g ∈ gs, ∃ x ∈ rs, BodyV w B g x) ∧ (∀ x ∈ rs, ∃ g ∈ gs, g.1 = x.1)
section
variable {w w' wr : World} {b m B : Nat} {rs : List Ru}
theorem MapR.kept {row : Option Nat} (h : MapR wr b m rs w B) (hg : wr.grownBy w' row) (hne : some b ≠ row) : MapR w' b m rs w B := by
  obtain ⟨D, gs, h1, h2⟩ := h
  exact ⟨D, gs, h1.kept hg hne, h2⟩
theorem MapR.alloc (h : MapR wr b m rs w B) (o : Obj) : MapR (wr.alloc o) b m rs w B := h.kept (World.grownBy_alloc wr o none) (by simp)
theorem MapR.lt (h : MapR wr b m rs w B) : b < wr.heap.size := let ⟨_, _, h1, _⟩ := h; h1.lt
end
theorem bodies_step {w : World} {B j : Nat} {rs : List Ru} {gs : List Kv} {t : ByteArray} {v : Value} {x : Ru} (hg : rs[j]? = some x) (hx : BodyV w B (t, v) x) (h1 : ∀ g ∈ gs, ∃ x ∈ rs.take j, BodyV w B g x) (h2 : ∀ x ∈ rs.take j, ∃ g ∈ gs, g.1 = x.1) :
    (∀ g ∈ putV (t, v) gs, ∃ x ∈ rs.take (j + 1), BodyV w B g x) ∧ (∀ x ∈ rs.take (j + 1), ∃ g ∈ putV (t, v) gs, g.1 = x.1) := by
  rw [List.take_add_one, hg]
  refine ⟨fun g hgm => ?_, fun y hy => ?_⟩
  · rcases mem_putV.1 hgm with rfl | ⟨hgm, _⟩
    · exact ⟨x, by simp, hx⟩
    · obtain ⟨y, hy, hb⟩ := h1 g hgm
      exact ⟨y, List.mem_append_left _ hy, hb⟩
  · rcases List.mem_append.1 hy with hy | hy
    · obtain ⟨g, hgm, e⟩ := h2 y hy
      by_cases ht : g.1 = t
      · exact ⟨(t, v), mem_putV.2 (.inl rfl), by rw [← e, ht]⟩
      · exact ⟨g, mem_putV.2 (.inr ⟨hgm, ht⟩), e⟩
    · obtain rfl : y = x := by simpa using hy
      exact ⟨(t, v), mem_putV.2 (.inl rfl), hx.1⟩

set_option maxRecDepth 100000 in
set_option maxHeartbeats 1000000 in
theorem rmap_anyB (B : Nat) (a : Option Addr) (n c : Nat) (rs : List Ru) (w : World) (hBw : B ≤ w.heap.size) (hr : RuAt w 0 B rs a n) (hrf : RuFits rs) (hn : n ≤ 1048576) :
    Calls Tryz.prog 39 #[.slice a n c] w fun e w' => ∃ b, e = .returned (.map (some b)) ∧ w.heap.size ≤ b ∧ MapR w' b n rs w B ∧ Below w.heap.size w w' := by
  have hlen := Lib.hid hr.1
  have hmm := fun W => run_makeMap_n (P := Tryz.prog) 71 _ _ Tryz.underlying71 n W
  go_enter Tryz.func39, Tryz.ntmps39
  go_wp2_with fail
  go_loopw [11] (fun i wr => ∃ k : Nat, k ≤ n ∧ i = .int .i64 k ∧ MapR wr w.heap.size k (rs.take k) w B ∧ Below w.heap.size w wr) (fun i _ => n - (intOf i).toNat)
  case atStart => exact ⟨0, Nat.zero_le _, rfl, ⟨_, [], World.ownsMap_made _ _ _ _, repV_empty, fun g hg => by simp at hg, fun x hx => by simp at hx⟩, (Below.refl _ _).alloc (Nat.le_refl _) _⟩
  case round =>
    obtain ⟨j, hj, rfl, hM, hB⟩ := hrel
    by_cases hlt : j < n
    · obtain ⟨b, off, t, k, s, ks, a', n', c', rfl, _, hb, hg, hc0, hc1, hc2, hc3, hcap, hks⟩ := (hr.below (hB.mono hBw)).get hlt
      have hbw : b < wr.heap.size := by have := hB.size; omega
      have hbody : BodyV w B (t, .agg #[.int .i64 k, .string s, .slice a' n' c']) (t, k, s, ks) := ⟨rfl, a', n', c', rfl, hcap, hks.keep (Nat.le_refl _) (Nat.le_refl _) fun p _ hp => (hB.cell (Nat.lt_of_lt_of_le hp hBw)).symm⟩
      obtain ⟨D, gs, hown, hrep, hm1, hm2⟩ := hM
      have hjj : (j : Int) < (n : Int) := by omega
      have hj0 : (0 : Int) ≤ (j : Int) := by omega
      have hfit := hrf.get hg
      have hkey := Lib.hid (WideMaps.keyOf_string_mk (P := Tryz.prog) Tryz.underlying9 hfit.1)
      have Hm := Lib.hid (And.intro hrep (And.intro hm1 hm2))
      have Hg := Lib.hid hg
      clear hg hm1 hm2 hrep
      go_wp2_with (at_mapUpdate; refine wpList_mapUpdate_own _ rfl _ _ _ 71 rfl 9 41 rlaw Tryz.underlying71 anyElem w.heap.size j D rfl (hown.alloc _) (by simp only [maxLen]; omega) _ _ _ rfl rfl hkey.out _ _ rfl ?_; intro w1 hown1 hgrow1)
      have hst := bodies_step Hg.out hbody Hm.out.2.1 Hm.out.2.2
      exact ⟨⟨j + 1, by omega, by go_num, ⟨_, _, hown1, Hm.out.1.put t _, hst.1, hst.2⟩, (hB.alloc hB.size _).grown hgrow1 (Nat.le_trans hB.size (by simp)) (fun j hj => by cases hj; exact Nat.le_refl _)⟩, by simp [intOf]; omega⟩
    · have hjn : ¬ (j : Int) < (n : Int) := by omega
      have HM2 : Hid (MapR wr w.heap.size n rs w B) := Lib.hid (by rw [List.take_of_length_le (by have := hlen.out; omega)] at hM; rwa [show n = j from by omega])
      clear hM
      go_wp2_with fail
      go_ret
      exact ⟨_, rfl, Nat.le_refl _, HM2.out, hB⟩
theorem rmap_any (a : Option Addr) (n c : Nat) (rs : List Ru) (w : World) (hr : RuAt w 0 w.heap.size rs a n) (hrf : RuFits rs) (hn : n ≤ 1048576) :
    Calls Tryz.prog 39 #[.slice a n c] w fun e w' => ∃ b, e = .returned (.map (some b)) ∧ w.heap.size ≤ b ∧ MapR w' b n rs w w.heap.size ∧ Below w.heap.size w w' := rmap_anyB w.heap.size a n c rs w (Nat.le_refl _) hr hrf hn
end Go.Proofs.YtahdpocaldhamaaGreat
