/-
  The program's SetRule: its closure, and the function.
-/
import Derived.Test.YtceiafncpimihaaGreatQPutR
import Derived.Test.YtceiafncpimihaaGreatQEdG
namespace Go.Proofs.YtceiafncpimihaaGreat
set_option linter.unusedVariables false
set_option linter.unusedSimpArgs false
open Go.RowKit Go.Maps

theorem cf_setRule (args : Array Value) (w' : World) : Sem.run Tryz.prog (callFunc 48 args) w' = .ok (.enter 48 args) w' := by kernel_rfl

set_option maxRecDepth 100000 in
set_option maxHeartbeats 4000000 in
theorem setRule1_any (g gc : Nat) (a1 a2 : Option Addr) (n1 n2 c1 c2 : Nat) (fs : List Fl) (rs : List Ru) (t : ByteArray) (k : Int) (s : ByteArray) (ks : Fo) (a : Option Addr) (c : Nat) (W : World) (hbx : BxP W g (.slice a1 n1 c1) (.slice a2 n2 c2) 26) (hbc : BxR W gc t k s (.slice a ks.len c) 45) (hf : FilesAt W g a1 n1 fs) (hr : RuAt W 0 g rs a2 n2) (hka : KA W 0 g ks a ks.len) (hc : ks.len ≤ c) (hrf : RuFits rs) (ha : AscR rs) (hn2 : n2 ≤ 1000000) (ht : t.size ≤ maxLen) :
    Calls Tryz.prog 48 #[.pointer (some ⟨g, 0, none⟩), .pointer (some ⟨gc, 0, none⟩)] W (ChP g fs (putRu (t, k, s, ks) rs) true W) := by
  have hg := blk_lt hbx
  have hgc := blk_lt hbc
  have hlen := hr.1
  have hkey := Lib.hid (WideMaps.keyOf_string_mk (P := Tryz.prog) Tryz.underlying9 ht)
  obtain ⟨p0, p1, pf0, pf1, hpl⟩ := hbx.facts
  have Hc := Lib.hid (rmap_anyB g a2 n2 c2 rs W (Nat.le_of_lt hg) hr hrf (by omega))
  have Ha := Lib.hid ha
  clear ha hrf
  go_enter Tryz.func48, Tryz.ntmps48
  go_wp2_with fail
  refine Hc.out.mono ?_
  rintro e w2 ⟨b, rfl, hb, hM, hB2⟩
  obtain ⟨D, gs, hown, hrep, hm1, hm2⟩ := hM
  have hs2 := hB2.size
  have hbody : BodyV W g ((t, k, s, ks).1, .agg #[.int .i64 k, .string s, .slice a ks.len c]) (t, k, s, ks) := ⟨rfl, a, ks.len, c, rfl, hc, hka⟩
  have hput := mapR_put (r := (t, k, s, ks)) hbody hm1 hm2
  have Hd := Lib.hid (And.intro hput.1 (And.intro hput.2 (hrep.put t (.agg #[.int .i64 k, .string s, .slice a ks.len c]))))
  obtain ⟨q0, q1, q2, q3, qf0, qf1, qf2, qf3, hql⟩ := (hbc.next hB2).facts
  clear hrep hm1 hm2 p0 p1 pf0 pf1 hpl hput hbody Hc
  go_wp2_with (at_mapUpdate; refine wpList_mapUpdate_own _ rfl _ _ _ 78 rfl 9 43 rlaw Tryz.underlying78 anyElem b n2 D rfl hown (by simp only [maxLen]; omega) _ _ _ rfl rfl hkey.out _ _ rfl ?_; intro w4 hown4 hgrow4)
  have hB4 : Below W.heap.size W w4 := hB2.grown hgrow4 hs2 (fun j e => by cases e; exact hb)
  have hs4 := hB4.size
  have hM4 : MapR w4 b (n2 + 1) (putRu (t, k, s, ks) rs) W g := ⟨_, _, hown4, Hd.out.2.2, Hd.out.1, Hd.out.2.1⟩
  have hbx4 : BxP w4 g (.slice a1 n1 c1) (.slice a2 n2 c2) 26 := (hB4.block g hg).trans hbx
  have hdl := (putRu_tot (t, k, s, ks) rs).1
  have Hc4 := Lib.hid (mrules_any b (n2 + 1) g (putRu (t, k, s, ks) rs) w4 W hM4 (putRu_asc Ha.out) (by omega) (fun p hp => hB4.cell (p := p) (by omega)) (by omega))
  clear hown hown4 hgrow4 hM4 q0 q1 q2 q3 qf0 qf1 qf2 qf3 hql hdl
  go_wp2_with fail
  refine Hc4.out.mono ?_
  rintro e w5 ⟨a5, c5, rfl, hnc5, hown5, hB5⟩
  have hbx5 := hbx4.next hB5
  have hB45 := hB4.trans (hB5.mono hs4)
  obtain ⟨z0, z1, zf0, zf1, zl⟩ := hbx5.facts
  have HF := Lib.hid (chR_mk (b := true) hbx5 hf hown5 (by omega) hnc5 hB45 hg)
  clear hown5 Hc4
  go_wp2_with fail
  go_ret
  exact HF.out
end Go.Proofs.YtceiafncpimihaaGreat
