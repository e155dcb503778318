/-
  The program's freeResult and ExprFree.
-/
import Derived.Test.YtbcghkdjhicocaaGreatFreeO
import Derived.Test.YtbcghkdjhicocaaGreatFreeC
import Derived.Test.YtbcghkdjhicocaaGreatFmtM
namespace Go.Proofs.YtbcghkdjhicocaaGreat
set_option linter.unusedVariables false
open Go.RowKit

/-- a node's methods 'operands' and 'combine', as a dynamic call finds them -/
def DispC (w : World) (D : Nat) (k : Int) (s : ByteArray) (os : List Value) (v : Value) : Prop := ∃ T X FO FC, v = .iface T X ∧
  (∀ (n : Nat) (w' : World), Sem.run Tryz.prog (method (n + 1) T X "loop.example/buildengine/impl.operands") w' = .ok (FO, X) w') ∧ (∀ (args : Array Value) (w' : World), Sem.run Tryz.prog (callFunc FO args) w' = .ok (.enter FO args) w') ∧
  (∀ w', Below D w w' → Calls Tryz.prog FO #[X] w' (OpP os w')) ∧
  (∀ (n : Nat) (w' : World), Sem.run Tryz.prog (method (n + 1) T X "loop.example/buildengine/impl.combine") w' = .ok (FC, X) w') ∧ (∀ (args : Array Value) (w' : World), Sem.run Tryz.prog (callFunc FC args) w' = .ok (.enter FC args) w') ∧
  (∀ (ra : Option Addr) (rc : Nat) (xs : List ByteArray) (w' : World), xs.length = os.length → xs.length ≤ rc → StAt w' ra xs → (∀ y ∈ xs, y.size ≤ 60) → Calls Tryz.prog FC #[X, .slice ra xs.length rc] w' (CbP (if k = 1 then some s else comb k xs) w'))
theorem co_text (args : Array Value) (w' : World) : Sem.run Tryz.prog (callFunc 78 args) w' = .ok (.enter 78 args) w' := by kernel_rfl
theorem cc_text (args : Array Value) (w' : World) : Sem.run Tryz.prog (callFunc 76 args) w' = .ok (.enter 76 args) w' := by kernel_rfl
theorem co_join (args : Array Value) (w' : World) : Sem.run Tryz.prog (callFunc 82 args) w' = .ok (.enter 82 args) w' := by kernel_rfl
theorem cc_join (args : Array Value) (w' : World) : Sem.run Tryz.prog (callFunc 80 args) w' = .ok (.enter 80 args) w' := by kernel_rfl
theorem co_same (args : Array Value) (w' : World) : Sem.run Tryz.prog (callFunc 94 args) w' = .ok (.enter 94 args) w' := by kernel_rfl
theorem cc_same (args : Array Value) (w' : World) : Sem.run Tryz.prog (callFunc 92 args) w' = .ok (.enter 92 args) w' := by kernel_rfl
theorem co_read (args : Array Value) (w' : World) : Sem.run Tryz.prog (callFunc 72 args) w' = .ok (.enter 72 args) w' := by kernel_rfl
theorem cc_read (args : Array Value) (w' : World) : Sem.run Tryz.prog (callFunc 73 args) w' = .ok (.enter 73 args) w' := by kernel_rfl
theorem co_first (args : Array Value) (w' : World) : Sem.run Tryz.prog (callFunc 72 args) w' = .ok (.enter 72 args) w' := by kernel_rfl
theorem cc_first (args : Array Value) (w' : World) : Sem.run Tryz.prog (callFunc 96 args) w' = .ok (.enter 96 args) w' := by kernel_rfl
theorem co_rest (args : Array Value) (w' : World) : Sem.run Tryz.prog (callFunc 72 args) w' = .ok (.enter 72 args) w' := by kernel_rfl
theorem cc_rest (args : Array Value) (w' : World) : Sem.run Tryz.prog (callFunc 99 args) w' = .ok (.enter 99 args) w' := by kernel_rfl
theorem co_count (args : Array Value) (w' : World) : Sem.run Tryz.prog (callFunc 72 args) w' = .ok (.enter 72 args) w' := by kernel_rfl
theorem cc_count (args : Array Value) (w' : World) : Sem.run Tryz.prog (callFunc 102 args) w' = .ok (.enter 102 args) w' := by kernel_rfl

theorem disp_of {w : World} {L D : Nat} {k : Int} {s : ByteArray} {ks : Fo} {v : Value} (hv : NV1 w L D k s ks v) (hn : nodeB k s ks.len = true) : ∃ os, NVs w L D ks os ∧ DispC w D k s os v := by
  obtain ⟨os, oa, oc, hnv, rfl, hsl⟩ := hv
  have hol := nvs_len hnv
  refine ⟨os, hnv, ?_⟩
  rcases node_kinds hn with ⟨rfl, h0, hp⟩ | ⟨rfl, h4, rfl⟩ | ⟨rfl, h4, rfl⟩ | ⟨hk, h1, rfl⟩
  · have hz : os = [] := List.eq_nil_of_length_eq_zero (by omega)
    subst hz
    exact ⟨_, _, _, _, rfl, fun n w' => mo_text n s w', co_text, fun w' _ => op_text s w', fun n w' => mc_text n s w', cc_text, fun ra rc xs w' _ _ _ _ => cb_text s _ w'⟩
  · refine ⟨_, _, _, _, rfl, fun n w' => mo_join n _ w', co_join, fun w' hB => ?_, fun n w' => mc_join n _ w', cc_join, fun ra rc xs w' hl hc hst hs => cb_join _ xs ra rc w' hst hc (by omega) hs⟩
    rw [← hol]
    refine op_join os oa oc w' fun hn => ?_
    obtain ⟨b, off, ho, _, hD, hc⟩ := hsl hn
    exact ⟨b, off, ho, fun j v hv => (hB.cell (p := ⟨b, off + j, none⟩) hD).trans (hc j v hv)⟩
  · obtain ⟨v0, v1, v2, v3, rfl⟩ : ∃ v0 v1 v2 v3, os = [v0, v1, v2, v3] := by
      match os, (show os.length = 4 by omega) with
      | [v0, v1, v2, v3], _ => exact ⟨v0, v1, v2, v3, rfl⟩
    obtain ⟨t0, x0, rfl⟩ := nvs_iface hnv v0 (by simp)
    obtain ⟨t1, x1, rfl⟩ := nvs_iface hnv v1 (by simp)
    obtain ⟨t2, x2, rfl⟩ := nvs_iface hnv v2 (by simp)
    obtain ⟨t3, x3, rfl⟩ := nvs_iface hnv v3 (by simp)
    refine ⟨_, _, _, _, rfl, fun n w' => mo_same n _ _ _ _ w', co_same, fun w' _ => op_same t0 t1 t2 t3 x0 x1 x2 x3 w', fun n w' => mc_same n _ _ _ _ w', cc_same, fun ra rc xs w' hl hc hst hs => ?_⟩
    obtain ⟨y0, y1, y2, y3, rfl⟩ : ∃ y0 y1 y2 y3, xs = [y0, y1, y2, y3] := by
      match xs, hl with
      | [y0, y1, y2, y3], _ => exact ⟨y0, y1, y2, y3, rfl⟩
    exact cb_same _ _ _ _ y0 y1 y2 y3 ra rc w' hst
  · obtain ⟨v0, rfl⟩ : ∃ v0, os = [v0] := by
      match os, (show os.length = 1 by omega) with
      | [v0], _ => exact ⟨v0, rfl⟩
    obtain ⟨t0, x0, rfl⟩ := nvs_iface hnv v0 (by simp)
    have one : ∀ xs : List ByteArray, xs.length = [Value.iface t0 x0].length → ∃ y, xs = [y] := fun xs hl => by
      match xs, hl with
      | [y], _ => exact ⟨y, rfl⟩
    rcases hk with rfl | rfl | rfl | rfl
    · refine ⟨_, _, _, _, rfl, fun n w' => mo_read n t0 x0 w', co_read, fun w' _ => op_one t0 x0 w', fun n w' => mc_read n _ w', cc_read, fun ra rc xs w' hl hc hst hs => ?_⟩
      obtain ⟨y, rfl⟩ := one xs hl
      exact cb_read _ _ w'
    · refine ⟨_, _, _, _, rfl, fun n w' => mo_first n t0 x0 w', co_first, fun w' _ => op_one t0 x0 w', fun n w' => mc_first n _ w', cc_first, fun ra rc xs w' hl hc hst hs => ?_⟩
      obtain ⟨y, rfl⟩ := one xs hl
      exact cb_first _ y ra rc w' hst (hs y (by simp))
    · refine ⟨_, _, _, _, rfl, fun n w' => mo_rest n t0 x0 w', co_rest, fun w' _ => op_one t0 x0 w', fun n w' => mc_rest n _ w', cc_rest, fun ra rc xs w' hl hc hst hs => ?_⟩
      obtain ⟨y, rfl⟩ := one xs hl
      exact cb_rest _ y ra rc w' hst (hs y (by simp))
    · refine ⟨_, _, _, _, rfl, fun n w' => mo_count n t0 x0 w', co_count, fun w' _ => op_one t0 x0 w', fun n w' => mc_count n _ w', cc_count, fun ra rc xs w' hl hc hst hs => ?_⟩
      obtain ⟨y, rfl⟩ := one xs hl
      exact cb_count _ y ra rc w' hst (hs y (by simp))

/-- the contract of freeResult at one node -/
def FrC (k : Int) (s : ByteArray) (ks : Fo) : Prop := ∀ (v : Value) (L D : Nat) (w : World), NV1 w L D k s ks v → nodeB k s ks.len = true → good ks = true → ks.size ≤ 1000 → D ≤ w.heap.size →
  Calls Tryz.prog 17 #[v] w fun e w' => e = .returned (resV (fr1 k s ks)) ∧ Below w.heap.size w w'
/-- a row of strings of the call's own -/
theorem own_st {w : World} {base e n : Nat} {o : Value} {xs : List ByteArray} (h : w.ownsRow base e 1 o n (xs.map Value.string)) : ∃ ra rc, o = .slice ra xs.length rc ∧ StAt w ra xs ∧ xs.length ≤ rc := by
  have hl := h.1
  rw [Nat.mul_one, List.length_map] at hl
  rcases h.2 with ⟨rfl, h0⟩ | ⟨g, cap, cur, rfl, hb, hg, hnc, _⟩
  · have : xs.length = 0 := by omega
    exact ⟨none, 0, by rw [this], fun hn => absurd hn (by omega), by omega⟩
  · refine ⟨some ⟨g, 0, none⟩, cap, by rw [hl], fun _ => ⟨g, 0, rfl, blk_lt hg, fun j x hx => ?_⟩, by omega⟩
    have := h.cells (g := g) rfl j (.string x) (by rw [List.getElem?_map, hx]; rfl)
    rwa [add_none] at this
theorem str_info : (Tryz.prog.info? 9).map (fun i => (i.zero, i.size, i.bytes)) = some (some (.string .empty), 1, 16) := by kernel_rfl

set_option maxRecDepth 100000 in
set_option maxHeartbeats 2000000 in
theorem fr_of (k : Int) (s : ByteArray) (ks : Fo) (ih : ∀ k' s' ks', Fo.size ks' < ks.size → FrC k' s' ks') : FrC k s ks := by
  intro v L D w hv hn hg hz hD
  obtain ⟨os, hnv, T, X, FO, FC, rfl, hmo, hco, hop, hmc, hcc, hcb⟩ := disp_of hv hn
  obtain ⟨i0, hi, hz0, hzz1, hzz2⟩ := info_parts str_info
  have hol := nvs_len hnv
  have hos : os.length ≤ 1000 := by have := ks.len_size; omega
  have Hnv := Lib.hid (And.intro hnv (And.intro (nvs_iface hnv) (And.intro hg hol)))
  have Hop := Lib.hid (hop w (Below.refl _ _))
  have Hcb := Lib.hid hcb
  clear hv hnv hop hcb hg hol
  go_enter Tryz.func17, Tryz.ntmps17
  go_wp2_with fail
  refine Hop.out.mono ?_
  rintro e w1 ⟨o, oc, rfl, hvs, hB1⟩
  have Hvs := Lib.hid hvs
  clear hvs
  go_wp2_with fail
  go_loopw [4, 12] (fun rv i wr => ∃ (j : Nat) (xs : List ByteArray), j ≤ os.length ∧ xs.length = j ∧ i = .int .i64 j ∧ wr.ownsRow w1.heap.size 9 1 rv j (xs.map Value.string) ∧ frS ks = (frS (ks.drop j)).map (xs ++ ·) ∧ (∀ y ∈ xs, y.size ≤ 60) ∧ Below w1.heap.size w1 wr) (fun _ i _ => os.length - (intOf i).toNat)
  case atStart => exact ⟨0, [], Nat.zero_le _, rfl, rfl, World.ownsRow_nil _ _ _ _, by rw [Fo.drop_zero]; cases frS ks <;> rfl, by simp, Below.refl _ _⟩
  case round =>
    obtain ⟨j, xs, hj, hxl, rfl, hown, hfr, hys, hB⟩ := hrel
    subst hxl
    obtain ⟨ra, rc, rfl, hst, hrc⟩ := own_st hown
    have hBB := hB1.trans (hB.mono hB1.size)
    have HBB := Lib.hid hBB
    have Hown := Lib.hid hown
    have Hfr := Lib.hid hfr
    have Hys := Lib.hid hys
    have Hst := Lib.hid hst
    by_cases hlt : xs.length < os.length
    · obtain ⟨⟨k', s', ks'⟩, hgt⟩ := Fo.get_some (f := ks) (j := xs.length) (by have := Hnv.out.2.2.2; omega)
      obtain ⟨v', hv1, hv2⟩ := nvs_get Hnv.out.1 hgt
      obtain ⟨hn', hg'⟩ := good_get Hnv.out.2.2.1 hgt
      have hsz := Fo.get_size hgt
      obtain ⟨t', x', rfl⟩ := hv2.iface
      obtain ⟨b, off, rfl, hcells⟩ := Hvs.out (by omega)
      have hcell := hcells _ _ hv1
      have hcell2 := (hB.cell (p := ⟨b, off + xs.length, none⟩) (World.block_lt_of_cell? w1 _ hcell)).trans hcell
      have hv3 : NV1 wr L D k' s' ks' (.iface t' x') := hv2.keep (Nat.le_refl _) (Nat.le_refl _) fun p _ h2 => hBB.cell (by omega)
      have Hih := Lib.hid (ih k' s' ks' (by omega) (.iface t' x') L D wr hv3 hn' hg' (by omega) (Nat.le_trans hD hBB.size))
      have hfd : frS (ks.drop xs.length) = (fr1 k' s' ks').bind fun x => (frS (ks.drop (xs.length + 1))).map (x :: ·) := by rw [Fo.drop_get hgt, frS_node]
      have Hfd := Lib.hid hfd
      have hsize : ∀ x, fr1 k' s' ks' = some x → x.size ≤ 60 := fun x hx => fr1_size hn' hg' hx
      have Hsize := Lib.hid hsize
      clear hown hfr hys hst hv1 hv2 hv3 hgt hn' hg' hcells hcell hfd hsize
      go_wp2_with fail
      refine Hih.out.mono ?_
      intro e w2 hpost
      obtain ⟨he, hB2⟩ := hpost
      cases hfx : fr1 k' s' ks' with
      | none =>
        rw [hfx] at he
        subst he
        have hno : fr1 k s ks = none := by
          have h1 : frS ks = none := by rw [Hfr.out, Hfd.out, hfx]; rfl
          unfold fr1
          by_cases hk1 : k = 1
          · exfalso
            subst hk1
            have h2 := node_kinds hn
            have h3 := Hnv.out.2.2.2
            rcases h2 with h2 | h2 | h2 | h2
            · omega
            · omega
            · omega
            · omega
          · rw [if_neg hk1, h1]; rfl
        have Hno := Lib.hid hno
        have HB3 := Lib.hid (hBB.trans (hB2.mono hBB.size))
        clear hfx hno hB2
        simp only [resV]
        go_wp2_with fail
        go_ret2
        exact ⟨by rw [Hno.out]; rfl, HB3.out⟩
      | some x =>
        rw [hfx] at he
        subst he
        have hown2 : w2.ownsRow w1.heap.size 9 1 (.slice ra xs.length rc) xs.length (xs.map Value.string) := Hown.out.kept (⟨hB2.os, hB2.tape, hB2.output, hB2.size, fun k hk _ => hB2.block k hk⟩ : wr.grownBy w2 none) (by cases hq : (Value.slice ra xs.length rc).ownBlock <;> simp)
        have hfx2 : frS ks = (frS (ks.drop (xs.length + 1))).map ((xs ++ [x]) ++ ·) := by
          rw [Hfr.out, Hfd.out, hfx, Option.bind_some]
          cases frS (ks.drop (xs.length + 1)) <;> simp
        have hx60 := Hsize.out x hfx
        have hys2 : ∀ y ∈ xs ++ [x], y.size ≤ 60 := fun y hy => by
          rcases List.mem_append.1 hy with hy | hy
          · exact Hys.out y hy
          · obtain rfl : y = x := by simpa using hy
            exact hx60
        have hB4 := hB.trans (hB2.mono hB.size)
        have hB5 := hB4.alloc hB4.size (.cells #[.string x] 9)
        have Hall := Lib.hid (And.intro hown2 (And.intro hfx2 (And.intro hys2 hB5)))
        have hsz2 := hB4.size
        clear hfx hown2 hfx2 hys2 hB4 hB5 hB2 hx60
        simp only [resV]
        go_wp2_with (at_builtin; refine wpList_append_own _ rfl _ _ 30 rfl w1.heap.size 9 i0 _ 1 16 Tryz.underlying30 hi hz0 hzz1 hzz2 rfl (by decide) _ _ _ rfl (Hall.out.1.alloc _) ⟨w2.heap.size, 0, none⟩ 1 1 [.string x] rfl rfl (cell_one _ _ _) (by simp [Value.oneCell']) (by simp only [maxLen]; omega) (by omega) (by simp; omega) ?_; intro v4 w4 hown4 hgrow4 _)
        have hB6 := Hall.out.2.2.2.grown hgrow4 (by simp; omega) (fun g e => by have := (Hall.out.1.lt g e); omega)
        have Hfin := Lib.hid (show ∃ (j : Nat) (ys : List ByteArray), j ≤ os.length ∧ ys.length = j ∧ Value.int .i64 ((xs.length : Int) + 1) = .int .i64 j ∧ w4.ownsRow w1.heap.size 9 1 v4 j (ys.map Value.string) ∧ frS ks = (frS (ks.drop j)).map (ys ++ ·) ∧ (∀ y ∈ ys, y.size ≤ 60) ∧ Below w1.heap.size w1 w4 from
          ⟨xs.length + 1, xs ++ [x], by omega, by simp, rfl, by rw [List.map_append]; exact hown4, Hall.out.2.1, Hall.out.2.2.1, hB6⟩)
        clear hown4 hgrow4 hB6
        go_wp2_with fail
        exact ⟨Hfin.out, by simp [intOf]; omega⟩
    · have e0 : xs.length = os.length := by omega
      have hfr2 : fr1 k s ks = (if k = 1 then some s else comb k xs) := by
        have h1 : frS ks = some xs := by rw [Hfr.out, Fo.drop_all (f := ks) (j := xs.length) (by have := Hnv.out.2.2.2; omega)]; simp [frS]
        unfold fr1
        rw [h1]
        rfl
      have Hcc := Lib.hid (Hcb.out ra rc xs wr e0 hrc Hst.out Hys.out)
      have Hf2 := Lib.hid hfr2
      clear hown hfr hys hst hfr2 e0 hmo hco
      go_wp2_with fail
      refine Hcc.out.mono ?_
      intro e w5 hpost
      obtain ⟨he, hB5⟩ := hpost
      rw [← Hf2.out] at he
      have HB6 := Lib.hid (HBB.out.trans (hB5.mono HBB.out.size))
      clear hB5
      cases hfx : fr1 k s ks with
      | none =>
        rw [hfx] at he
        subst he
        have Hfx := Lib.hid hfx
        clear hfx
        simp only [resV]
        go_wp2_with fail
        go_ret2
        exact ⟨by rw [Hfx.out]; rfl, HB6.out⟩
      | some x =>
        rw [hfx] at he
        subst he
        have Hfx := Lib.hid hfx
        clear hfx
        simp only [resV]
        go_wp2_with fail
        go_ret2
        exact ⟨by rw [Hfx.out]; rfl, HB6.out⟩
end Go.Proofs.YtbcghkdjhicocaaGreat
