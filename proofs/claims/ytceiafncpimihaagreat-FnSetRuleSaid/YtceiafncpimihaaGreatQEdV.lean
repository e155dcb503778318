/-
  The program's change of the rules of a project: the closure of RemoveRule, and RemoveRule.
-/
import Derived.Test.YtceiafncpimihaaGreatGone
import Derived.Test.YtceiafncpimihaaGreatQEdI
import Derived.Test.YtceiafncpimihaaGreatQEdG
import Derived.Test.YtceiafncpimihaaGreatQRuS
namespace Go.Proofs.YtceiafncpimihaaGreat
set_option linter.unusedVariables false
set_option linter.unusedSimpArgs false
open Go.RowKit Go.Maps

theorem mapR_del {x : ByteArray} {rs : List Ru} {gs : List Kv} {w : World} {B : Nat} (h1 : ∀ g ∈ gs, ∃ y ∈ rs, BodyV w B g y) (h2 : ∀ y ∈ rs, ∃ g ∈ gs, g.1 = y.1) :
    (∀ g ∈ delV x gs, ∃ y ∈ delRu x rs, BodyV w B g y) ∧ (∀ y ∈ delRu x rs, ∃ g ∈ delV x gs, g.1 = y.1) := by
  constructor
  · intro g hg
    obtain ⟨hg1, hg2⟩ := mem_delV.1 hg
    obtain ⟨y, hy, hb⟩ := h1 g hg1
    exact ⟨y, mem_delRu.2 ⟨hy, fun e => hg2 (hb.1.trans e)⟩, hb⟩
  · intro y hy
    obtain ⟨hy1, hy2⟩ := mem_delRu.1 hy
    obtain ⟨g, hg, e⟩ := h2 y hy1
    exact ⟨g, mem_delV.2 ⟨hg, fun e' => hy2 (e.symm.trans e')⟩, e⟩
/-- where the change of the rules leaves the project -/
theorem chR_mk {W w1 : World} {g n1 c1 c2 base : Nat} {a1 a2 : Option Addr} {fs : List Fl} {rs' : List Ru} {v : Value} {b : Bool} (hbx : BxP w1 g (.slice a1 n1 c1) v 26) (hf : FilesAt W g a1 n1 fs) (hr : OwnK w1 g base (.slice a2 rs'.length c2) rs') (hgb : g < base) (hnc : rs'.length ≤ c2) (hB : Below W.heap.size W w1) (hg : g < W.heap.size) :
    ChP g fs rs' b W (.returned (.bool b)) (w1.setCell ⟨g, 1, none⟩ (.slice a2 rs'.length c2)) := by
  have hsz : (w1.setCell ⟨g, 1, none⟩ (.slice a2 rs'.length c2)).heap.size = w1.heap.size := by simp [World.setCell]
  obtain ⟨a', c', e, _, hru⟩ := (hr.set (Nat.le_refl g) hgb 1 (.slice a2 rs'.length c2)).form
  injection e with e1 _ e3
  subst e1 e3
  refine ⟨a1, n1, c1, a2, _, c2, rfl, hbx.set1 _, fun _ => ⟨?_, hru, hnc⟩, grown_set (World.grownBy.mk hB.os hB.tape hB.output hB.size fun i hi _ => hB.block i hi) (.inl rfl) _⟩
  refine (((hf.below (hB.mono (Nat.le_of_lt hg))).keep fun p hp => World.cell?_of_block (Below.heap_setCell w1 ⟨g, 1, none⟩ _ p.block (by show p.block ≠ g; omega)))).more ?_
  rw [hsz]; have := hB.size; omega
theorem cf_delRule (args : Array Value) (w' : World) : Sem.run Tryz.prog (callFunc 54 args) w' = .ok (.enter 54 args) w' := by kernel_rfl

set_option maxRecDepth 100000 in
set_option maxHeartbeats 4000000 in
theorem delRule1_any (g gc : Nat) (a1 a2 : Option Addr) (n1 n2 c1 c2 : Nat) (fs : List Fl) (rs : List Ru) (x : ByteArray) (W : World) (hbx : BxP W g (.slice a1 n1 c1) (.slice a2 n2 c2) 26) (hbc : W.heap[gc]? = some (.cells #[.string x] 9 (0, 0))) (hf : FilesAt W g a1 n1 fs) (hr : RuAt W 0 g rs a2 n2) (hrf : RuFits rs) (ha : AscR rs) (hn2 : n2 ≤ 1000000) (hx : x.size ≤ maxLen) :
    Calls Tryz.prog 54 #[.pointer (some ⟨g, 0, none⟩), .pointer (some ⟨gc, 0, none⟩)] W (ChP g fs (delRu x rs) (findB rs x).isSome W) := by
  have hg := blk_lt hbx
  have hgc := blk_lt hbc
  have hlen := hr.1
  have hkey := Lib.hid (WideMaps.keyOf_string_mk (P := Tryz.prog) Tryz.underlying9 hx)
  obtain ⟨p0, p1, pf0, pf1, hpl⟩ := hbx.facts
  have hq0 : W.cell? ⟨gc, 0, none⟩ = some (.string x) := by rw [cell_of_row _ _ _ _ _ _ hbc]; rfl
  have Hc := Lib.hid (rmap_anyB g a2 n2 c2 rs W (Nat.le_of_lt hg) hr hrf (by omega))
  have Ha := Lib.hid ha
  clear ha hrf
  go_enter Tryz.func54, Tryz.ntmps54
  go_wp2_with fail
  refine Hc.out.mono ?_
  rintro e w2 ⟨b, rfl, hb, hM, hB2⟩
  obtain ⟨D, gs, hown, hrep, hm1, hm2⟩ := hM
  have hlk := mapR_look (x := x) Ha.out hrep hm1 hm2
  have hq2 := (hB2.cell (p := ⟨gc, 0, none⟩) hgc).trans hq0
  have hs2 := hB2.size
  have hdel := mapR_del (x := x) hm1 hm2
  have Hd := Lib.hid (And.intro hdel.1 (And.intro hdel.2 (hrep.del x)))
  clear hrep hm1 hm2 p0 p1 pf0 pf1 hpl hq0 hdel Hc
  obtain ⟨u, found, hfs, hhas, hat, ⟨k', s', a', n', c', rfl⟩⟩ : ∃ (u : Value) (found : Bool), (findB rs x).isSome = found ∧ Maps.has D (.string x.data.toList) = found ∧ D.atKey (.string x.data.toList) (.held (.agg #[.int .i64 0, .string .empty, .slice none 0 0])) = .held u ∧ ∃ k s a n c, u = .agg #[.int .i64 k, .string s, .slice a n c] := by
    rcases hlk with ⟨k', s', ks', a', n', c', hfb, hhas, hat, _, _⟩ | ⟨hfb, hhas, hat⟩
    · exact ⟨_, true, by rw [hfb]; rfl, hhas, hat, k', s', a', n', c', rfl⟩
    · exact ⟨_, false, by rw [hfb]; rfl, hhas, hat, 0, .empty, none, 0, 0, rfl⟩
  have Hat := Lib.hid hat
  have Hhas := Lib.hid hhas
  have Hfs := Lib.hid hfs
  clear hat hhas hlk hfs
  have hq3 : (w2.alloc (.cells #[.int .i64 k', .string s', .slice a' n' c'] 43)).cell? ⟨gc, 0, none⟩ = some (.string x) := (World.cell?_alloc_lt w2 _ _ (by show gc < w2.heap.size; omega)).trans hq2
  go_wp2_with (first
    | (at_lookup; refine wpList_lookup_own_ok _ rfl _ _ 78 rfl 9 43 rlaw Tryz.underlying78 anyElem (rzero _) _ _ rfl b n2 D rfl hown _ _ rfl hkey.out ?_; rw [Hhas.out]; intro v ps hv2; obtain rfl := anyElem_inv hv2 Hat.out; clear hv2)
    | (at_delete; refine wpList_delete_own _ rfl _ _ 78 9 rfl 43 rlaw Tryz.underlying78 anyElem b n2 D rfl (hown.alloc _) _ _ rfl hkey.out ?_; intro w4 hown4 hturn4))
  have hB4 : Below W.heap.size W w4 := (hB2.alloc hs2 _).grown hturn4.grown (by simp; omega) (fun j e => by cases e; exact hb)
  have hs4 := hB4.size
  have hM4 : MapR w4 b n2 (delRu x rs) W g := ⟨_, _, hown4, Hd.out.2.2, Hd.out.1, Hd.out.2.1⟩
  have hbx4 : BxP w4 g (.slice a1 n1 c1) (.slice a2 n2 c2) 26 := (hB4.block g hg).trans hbx
  have hdl : (delRu x rs).length ≤ 1048576 := by have := List.length_filter_le (fun r : Ru => decide (r.1 ≠ x)) rs; unfold delRu; omega
  have Hc4 := Lib.hid (mrules_any b n2 g (delRu x rs) w4 W hM4 (delRu_asc Ha.out) (by omega) (fun p hp => hB4.cell (p := p) (by omega)) hdl)
  clear hown hown4 hturn4 hM4 hq2 hq3
  go_wp2_with fail
  refine Hc4.out.mono ?_
  rintro e w5 ⟨a5, c5, rfl, hnc5, hown5, hB5⟩
  have hbx5 := hbx4.next hB5
  have hB45 := hB4.trans (hB5.mono hs4)
  obtain ⟨z0, z1, zf0, zf1, zl⟩ := hbx5.facts
  have HF := Lib.hid (chR_mk (b := (findB rs x).isSome) hbx5 hf hown5 (by omega) hnc5 hB45 hg)
  clear hown5 Hc4 hdl
  go_wp2_with fail
  go_ret
  rw [← Hfs.out]
  exact HF.out
end Go.Proofs.YtceiafncpimihaaGreat
