/-
  The program's map of entries by their targets: newEntryMap.
-/
import Derived.Test.YtaiijnepeccllaaGreatGone
import Derived.Test.YtaiijnepeccllaaGreatQEnW
namespace Go.Proofs.YtaiijnepeccllaaGreat
set_option linter.unusedVariables false
set_option linter.unusedSimpArgs false
open Go.RowKit Go.Maps

theorem elaw : Keyed Tryz.prog 9 := string_keyed Tryz.underlying9
theorem ezero (w : World) : (zeroValue 26).run Tryz.prog w = .ok (.agg #[.string .empty, .string .empty, .slice none 0 0, .string .empty]) w := by kernel_rfl
/-- an entry of the map is the entry as it lies in memory -/
def EntV (w : World) (B : Nat) (g : Kv) (x : En) : Prop := g.1 = x.1 ∧ ∃ a n c, g.2 = .agg #[.string x.1, .string x.2.1, .slice a n c, .string x.2.2.2] ∧ n ≤ c ∧ FlIn w 0 B a n x.2.2.1
/-- block b is a map of at most m entries that holds these entries -/
def MapE (wr : World) (b m : Nat) (rs : List En) (w : World) (B : Nat) : Prop := ∃ D gs, wr.ownsMap Tryz.prog 9 anyElem b m D ∧ RepV D gs ∧ (∀ g ∈ gs, ∃ x ∈ rs, EntV w B g x) ∧ (∀ x ∈ rs, ∃ g ∈ gs, g.1 = x.1)
section
variable {w w' wr : World} {b m B : Nat} {rs : List En}
theorem MapE.kept {row : Option Nat} (h : MapE wr b m rs w B) (hg : wr.grownBy w' row) (hne : some b ≠ row) : MapE w' b m rs w B := by
  obtain ⟨D, gs, h1, h2⟩ := h
  exact ⟨D, gs, h1.kept hg hne, h2⟩
theorem MapE.alloc (h : MapE wr b m rs w B) (o : Obj) : MapE (wr.alloc o) b m rs w B := h.kept (World.grownBy_alloc wr o none) (by simp)
theorem MapE.lt (h : MapE wr b m rs w B) : b < wr.heap.size := let ⟨_, _, h1, _⟩ := h; h1.lt
end
theorem ents_step {w : World} {B j : Nat} {rs : List En} {gs : List Kv} {t : ByteArray} {v : Value} {x : En} (hg : rs[j]? = some x) (hx : EntV w B (t, v) x) (h1 : ∀ g ∈ gs, ∃ x ∈ rs.take j, EntV w B g x) (h2 : ∀ x ∈ rs.take j, ∃ g ∈ gs, g.1 = x.1) :
    (∀ g ∈ putV (t, v) gs, ∃ x ∈ rs.take (j + 1), EntV w B g x) ∧ (∀ x ∈ rs.take (j + 1), ∃ g ∈ putV (t, v) gs, g.1 = x.1) := by
  rw [List.take_add_one, hg]
  refine ⟨fun g hgm => ?_, fun y hy => ?_⟩
  · rcases mem_putV.1 hgm with rfl | ⟨hgm, _⟩
    · exact ⟨x, by simp, hx⟩
    · obtain ⟨y, hy, hb⟩ := h1 g hgm
      exact ⟨y, List.mem_append_left _ hy, hb⟩
  · rcases List.mem_append.1 hy with hy | hy
    · obtain ⟨g, hgm, e⟩ := h2 y hy
      by_cases ht : g.1 = t
      · exact ⟨(t, v), mem_putV.2 (.inl rfl), by rw [← e, ht]⟩
      · exact ⟨g, mem_putV.2 (.inr ⟨hgm, ht⟩), e⟩
    · obtain rfl : y = x := by simpa using hy
      exact ⟨(t, v), mem_putV.2 (.inl rfl), hx.1⟩

set_option maxRecDepth 100000 in
set_option maxHeartbeats 1000000 in
theorem emap_anyB (B : Nat) (a : Option Addr) (n c : Nat) (rs : List En) (w : World) (hBw : B ≤ w.heap.size) (hr : EnAt w 0 B rs a n) (hrf : EnFits rs) (hn : n ≤ 1048576) :
    Calls Tryz.prog 25 #[.slice a n c] w fun e w' => ∃ b, e = .returned (.map (some b)) ∧ w.heap.size ≤ b ∧ MapE w' b n rs w B ∧ Below w.heap.size w w' := by
  have hlen := Lib.hid hr.1
  have hmm := fun W => run_makeMap_n (P := Tryz.prog) 47 _ _ Tryz.underlying47 n W
  go_enter Tryz.func25, Tryz.ntmps25
  go_wp2_with fail
  go_loopw [11] (fun i wr => ∃ k : Nat, k ≤ n ∧ i = .int .i64 k ∧ MapE wr w.heap.size k (rs.take k) w B ∧ Below w.heap.size w wr) (fun i _ => n - (intOf i).toNat)
  case atStart => exact ⟨0, Nat.zero_le _, rfl, ⟨_, [], World.ownsMap_made _ _ _ _, repV_empty, fun g hg => by simp at hg, fun x hx => by simp at hx⟩, (Below.refl _ _).alloc (Nat.le_refl _) _⟩
  case round =>
    obtain ⟨j, hj, rfl, hM, hB⟩ := hrel
    by_cases hlt : j < n
    · obtain ⟨b, off, t, s, fs, x, a', n', c', rfl, _, hb, hg, hc0, hc1, hc2, hc3, hcap, hks⟩ := (hr.below (hB.mono hBw)).get hlt
      have hbw : b < wr.heap.size := by have := hB.size; omega
      have hbody : EntV w B (t, .agg #[.string t, .string s, .slice a' n' c', .string x]) (t, s, fs, x) := ⟨rfl, a', n', c', rfl, hcap, hks.keep (Nat.le_refl _) (Nat.le_refl _) fun p _ hp => (hB.cell (Nat.lt_of_lt_of_le hp hBw)).symm⟩
      obtain ⟨D, gs, hown, hrep, hm1, hm2⟩ := hM
      have hjj : (j : Int) < (n : Int) := by omega
      have hj0 : (0 : Int) ≤ (j : Int) := by omega
      have hfit := hrf.get hg
      have hkey := Lib.hid (WideMaps.keyOf_string_mk (P := Tryz.prog) Tryz.underlying9 hfit.1)
      have Hm := Lib.hid (And.intro hrep (And.intro hm1 hm2))
      have Hg := Lib.hid hg
      clear hg hm1 hm2 hrep
      go_wp2_with (at_mapUpdate; refine wpList_mapUpdate_own _ rfl _ _ _ 47 rfl 9 26 elaw Tryz.underlying47 anyElem w.heap.size j D rfl (hown.alloc _) (by simp only [maxLen]; omega) _ _ _ rfl rfl hkey.out _ _ rfl ?_; intro w1 hown1 hgrow1)
      have hst := ents_step Hg.out hbody Hm.out.2.1 Hm.out.2.2
      exact ⟨⟨j + 1, by omega, by go_num, ⟨_, _, hown1, Hm.out.1.put t _, hst.1, hst.2⟩, (hB.alloc hB.size _).grown hgrow1 (Nat.le_trans hB.size (by simp)) (fun j hj => by cases hj; exact Nat.le_refl _)⟩, by simp [intOf]; omega⟩
    · have hjn : ¬ (j : Int) < (n : Int) := by omega
      have HM2 : Hid (MapE wr w.heap.size n rs w B) := Lib.hid (by rw [List.take_of_length_le (by have := hlen.out; omega)] at hM; rwa [show n = j from by omega])
      clear hM
      go_wp2_with fail
      go_ret
      exact ⟨_, rfl, Nat.le_refl _, HM2.out, hB⟩
theorem emap_any (a : Option Addr) (n c : Nat) (rs : List En) (w : World) (hr : EnAt w 0 w.heap.size rs a n) (hrf : EnFits rs) (hn : n ≤ 1048576) :
    Calls Tryz.prog 25 #[.slice a n c] w fun e w' => ∃ b, e = .returned (.map (some b)) ∧ w.heap.size ≤ b ∧ MapE w' b n rs w w.heap.size ∧ Below w.heap.size w w' := emap_anyB w.heap.size a n c rs w (Nat.le_refl _) hr hrf hn
end Go.Proofs.YtaiijnepeccllaaGreat
