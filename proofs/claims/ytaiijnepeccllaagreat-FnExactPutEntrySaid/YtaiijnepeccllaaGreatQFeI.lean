/-
  The program's FindEntry.
-/
import Derived.Test.YtaiijnepeccllaaGreatQFeM
import Derived.Test.YtaiijnepeccllaaGreatQCopyE
import Derived.Test.YtaiijnepeccllaaGreatQStI
namespace Go.Proofs.YtaiijnepeccllaaGreat
set_option linter.unusedVariables false
set_option linter.unusedSimpArgs false
open Go.RowKit Go.Maps

theorem anyElem_inv {v u : Value} {d : DataW Value} {ps : List MemPlace} (h : anyElem v = some (d, ps)) (hd : d = .held u) : v = u := by
  subst hd
  unfold anyElem at h
  simp only [Option.some.injEq, Prod.mk.injEq, DataW.held.injEq] at h
  exact h.1
/-- what FindEntry leaves -/
def FeP (y : En × Bool) (w : World) (e : Ending) (w' : World) : Prop := ∃ a c, e = .returned (.tuple #[.agg #[.string y.1.1, .string y.1.2.1, .slice a y.1.2.2.1.length c, .string y.1.2.2.2], .bool y.2]) ∧ OwnsF w' w.heap.size (.slice a y.1.2.2.1.length c) y.1.2.2.1 ∧ Below w.heap.size w w'

set_option maxRecDepth 100000 in
set_option maxHeartbeats 4000000 in
theorem findEI_any (pb : ByteArray → Bool) (hpb : ∀ s, IsP s.data.toList (pb s)) (es : List En) (a : Option Addr) (n c : Nat) (x : ByteArray) (w : World) (hf : EnAt w 0 w.heap.size es a n) (hfit : EnFits es) (hn : n ≤ maxLen) (hz : es.length + enTot es ≤ 1048576) (hx : x.size ≤ maxLen) :
    Calls Tryz.prog 9 #[.slice a n c, .string x] w (FeP (findSt pb es x) w) := by
  have hbz : ∀ x ∈ es, x.2.1.size ≤ 1048576 := by
    intro x hx
    obtain ⟨j, hj⟩ := List.mem_iff_getElem?.1 hx
    have := enTot_get hj
    simp only [enSz] at this
    omega
  have hlen := hf.1
  have hB0 := (Below.refl w.heap.size w).alloc (Nat.le_refl _) (.cells #[.string .empty, .string .empty, .slice none 0 0, .string .empty] 26)
  have hE0 := BxN.new w .empty .empty (.slice none 0 0) .empty 26
  have hf0 := hf.next hB0
  generalize hres : findSt pb es x = res
  have Hres := Lib.hid hres
  clear hres
  have hkey := Lib.hid (WideMaps.keyOf_string_mk (P := Tryz.prog) Tryz.underlying9 hx)
  go_enter Tryz.func9, Tryz.ntmps9
  go_wp2_with fail
  refine (storeI_any pb hpb es a n c _ hf0 hfit hn hbz).mono ?_
  rintro e w1 ⟨rfl, hB1⟩
  have B1 := hB0.trans (hB1.mono hB0.size)
  have hE1 := hE0.next hB1
  have hf1 := hf0.next hB1
  have hs1 := hB1.size
  simp only [World.size_alloc] at hs1
  obtain ⟨e0, e1, e2, e3, f0, f1, f2, f3, el⟩ := hE1.facts
  rcases Bool.eq_false_or_eq_true (stB pb es) with hv | hv
  case inr =>
    have Hr := Hres.out
    rw [show findSt pb es x = (noEn, false) from by unfold findSt; rw [hv]; rfl] at Hr
    subst Hr
    rw [hv]
    go_wp2_with fail
    refine bodyPost_ret (v := .tuple #[.agg #[.string .empty, .string .empty, .slice none 0 0, .string .empty], .bool false]) (by simp [results, Tryz.results9, go_sem, *] <;> rfl) rfl ?_
    exact ⟨none, 0, rfl, World.ownsRow_nil _ _ _ _, (((B1.setCell (Nat.le_refl _) _).setCell (Nat.le_refl _) _).setCell (Nat.le_refl _) _).setCell (Nat.le_refl _) _⟩
  have hasc := Lib.hid (st_asc hv)
  have Hres2 := Lib.hid (show entF es x = res by rw [← Hres.out]; unfold findSt; rw [if_pos hv])
  rw [hv]
  clear hv Hres hpb
  have Hz := Lib.hid hz
  go_wp2_with fail
  refine (emap_any a n c es w1 hf1 hfit (by omega)).mono ?_
  rintro e w2 ⟨b, rfl, hb, hM, hB2⟩
  have hE2 := hE1.next hB2
  have B2 := B1.trans (hB2.mono B1.size)
  have hs2 := hB2.size
  obtain ⟨D, gs, hown, hrep, hm1, hm2⟩ := hM
  have hlk := mapE_look (x := x) hasc.out hrep hm1 hm2
  clear e0 e1 e2 e3 f0 f1 f2 f3 el hrep hm1 hm2 hE0 hE1
  obtain ⟨e0, e1, e2, e3, f0, f1, f2, f3, el⟩ := hE2.facts
  rcases hlk with ⟨⟨t, s, fs, y⟩, a', n', c', hfb, hmem, hhas, hat, hnc, hka⟩ | ⟨hfb, hhas, hat⟩
  · have Hr := Hres2.out
    rw [hfb] at Hr
    subst Hr
    have hkl := hka.1
    simp only at hkl hka hat
    have hn' : n' ≤ 1048576 := by
      obtain ⟨j, hj⟩ := List.mem_iff_getElem?.1 hmem
      have := enTot_get hj
      simp only [enSz] at this
      omega
    have Hat := Lib.hid hat
    clear hat
    go_wp2_with (at_lookup; refine wpList_lookup_own_ok _ rfl _ _ 47 rfl 9 26 elaw Tryz.underlying47 anyElem (ezero _) _ _ rfl b n D rfl hown _ _ rfl hkey.out ?_; rw [hhas]; intro v ps hv2; obtain rfl := anyElem_inv hv2 Hat.out; clear hv2)
    have hB3 : Below w1.heap.size w1 (w2.alloc (.cells #[.string t, .string s, .slice a' n' c', .string y] 26)) := hB2.alloc hB2.size _
    have B3 := B1.trans (hB3.mono B1.size)
    have hs4 := hB3.size
    have hs5 := B3.size
    refine (copyEntry_any _ _ fs _ _ _ _ _ ((hka.next hB3).more (Nat.le_refl _) (Nat.le_refl _)).files (by omega)).mono ?_
    rintro e w4 ⟨a4, c4, rfl, hown4, hB4⟩
    have hE4 := (hE2.alloc (.cells #[.string t, .string s, .slice a' n' c', .string y] 26)).next hB4
    have B4 := B3.trans (hB4.mono B3.size)
    clear e0 e1 e2 e3 f0 f1 f2 f3 el
    obtain ⟨v0, v1, v2, v3, t0, t1, t2, t3, hvl⟩ := hE4.facts
    have hbl : w.heap.size < (w2.alloc (.cells #[.string t, .string s, .slice a' n' c', .string y] 26)).heap.size := by simp; omega
    have Hown4 := Lib.hid hown4
    clear hown4
    go_wp2_with fail
    refine bodyPost_ret (v := .tuple #[.agg #[.string t, .string s, .slice a4 (List.length fs) c4, .string y], .bool true]) (by simp [results, Tryz.results9, go_sem, *] <;> rfl) rfl ?_
    exact ⟨a4, c4, rfl, World.ownsRow.mono ((((Hown4.out.setB hbl _ _).setB hbl _ _).setB hbl _ _).setB hbl _ _) (by omega), (((B4.setCell (Nat.le_refl _) _).setCell (Nat.le_refl _) _).setCell (Nat.le_refl _) _).setCell (Nat.le_refl _) _⟩
  · have Hr := Hres2.out
    rw [hfb] at Hr
    subst Hr
    have Hat := Lib.hid hat
    clear hat
    go_wp2_with (at_lookup; refine wpList_lookup_own_ok _ rfl _ _ 47 rfl 9 26 elaw Tryz.underlying47 anyElem (ezero _) _ _ rfl b n D rfl hown _ _ rfl hkey.out ?_; rw [hhas]; intro v ps hv2; obtain rfl := anyElem_inv hv2 Hat.out; clear hv2)
    have hB3 : Below w1.heap.size w1 (w2.alloc (.cells #[.string .empty, .string .empty, .slice none 0 0, .string .empty] 26)) := hB2.alloc hB2.size _
    have B3 := B1.trans (hB3.mono B1.size)
    have hs4 := hB3.size
    have hs5 := B3.size
    refine (copyEntry_any .empty .empty [] .empty none 0 0 _ ⟨rfl, fun h => absurd h (Nat.lt_irrefl _)⟩ (Nat.zero_le _)).mono ?_
    rintro e w4 ⟨a4, c4, rfl, hown4, hB4⟩
    have hE4 := (hE2.alloc (.cells #[.string .empty, .string .empty, .slice none 0 0, .string .empty] 26)).next hB4
    have B4 := B3.trans (hB4.mono B3.size)
    clear e0 e1 e2 e3 f0 f1 f2 f3 el
    obtain ⟨v0, v1, v2, v3, t0, t1, t2, t3, hvl⟩ := hE4.facts
    have hbl : w.heap.size < (w2.alloc (.cells #[.string .empty, .string .empty, .slice none 0 0, .string .empty] 26)).heap.size := by simp; omega
    have Hown4 := Lib.hid hown4
    clear hown4
    go_wp2_with fail
    refine bodyPost_ret (v := .tuple #[.agg #[.string .empty, .string .empty, .slice a4 (List.length (α := Fl) []) c4, .string .empty], .bool false]) (by simp [results, Tryz.results9, go_sem, *] <;> rfl) rfl ?_
    exact ⟨a4, c4, rfl, World.ownsRow.mono ((((Hown4.out.setB hbl _ _).setB hbl _ _).setB hbl _ _).setB hbl _ _) (by omega), (((B4.setCell (Nat.le_refl _) _).setCell (Nat.le_refl _) _).setCell (Nat.le_refl _) _).setCell (Nat.le_refl _) _⟩
end Go.Proofs.YtaiijnepeccllaaGreat
