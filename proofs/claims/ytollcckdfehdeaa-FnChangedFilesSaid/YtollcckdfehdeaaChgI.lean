/-
  The iterator over two lists of files: its contract.
-/
import Derived.RangeFuncNested
import Derived.RangeFuncBound
import Derived.RangeFuncCalls
import Derived.RangeFuncLeaves
import Derived.Shelf.Abstract
import Derived.Shelf.RegionOpen
import Derived.WalkKit
import Derived.OwnWalkIn
import Derived.TacticsInMore
import Derived.LoopNIn
import Derived.LoopIn
import Derived.Test.YtollcckdfehdeaaChgC
namespace Go.Proofs.Ytollcckdfehdeaa
set_option linter.unusedVariables false
open Go.RowKit Go.Shelf
attribute [local go_sem] Oper.semAt_some

def encF (f : Fl) : Value := .agg #[.string f.1, .string f.2]
/-- what the closure has captured -/
def lbF (Ba Bb : Nat) : Array Value := #[.pointer (some ⟨Ba, 0, none⟩), .pointer (some ⟨Bb, 0, none⟩)]

theorem maker_any (a b : Option Addr) (n c m d : Nat) (w : World) :
    CallsIn Fence.wide 5 Try.prog 27 #[.slice a n c, .slice b m d] w fun e w' => e = .returned (.func (.func 39) #[] (lbF w.heap.size (w.heap.size + 1))) ∧ w' = (w.alloc (.cells #[.slice a n c] 23)).alloc (.cells #[.slice b m d] 23) := by
  refine callsIn_wide.2 ?_
  go_enter Try.func27, Try.ntmps27
  go_wp2
  go_ret
  exact ⟨rfl, rfl⟩

/-- a slice value that is nil or a part of a row -/
def SlOk (a : Option Addr) (n c : Nat) : Prop := (a = none ∧ n = 0 ∧ c = 0) ∨ (n ≤ c ∧ ∃ b off, a = some ⟨b, off, none⟩)
theorem growN {w w' : World} (h : Below w.heap.size w w') : w.grownBy w' none := ⟨h.os, h.tape, h.output, h.size, fun k hk _ => h.block k hk⟩
theorem headSome {w : World} {b off n : Nat} {p t : ByteArray} (h : w.cell? ⟨b, off, none⟩ = some (.string p)) (hn : 0 < n) : HeadAt w (some ⟨b, off, none⟩) n (some (p, t)) := ⟨hn, b, off, rfl, h⟩
theorem headNone {w : World} {a : Option Addr} {n : Nat} (hn : n = 0) : HeadAt w a n none := hn
theorem ordO_at (fs gs : List Fl) (i j : Nat) : ordO fs[i]? gs[j]? = ordAt fs gs i j := by
  unfold ordO ordAt
  cases fs[i]? <;> cases gs[j]? <;> rfl

theorem cpaths_is {a b : Option Addr} {n c m d : Nat} {f g : Option Fl} {w : World} {o : Int} (h : ordO f g = o) (hf : HeadAt w a n f) (hg : HeadAt w b m g) :
    Calls Try.prog 40 #[.slice a n c, .slice b m d] w fun e w' => e = .returned (.int .i64 o) ∧ ∃ k, w' = w.drewN k := by
  subst h; exact cpaths_any a b n c m d f g w hf hg

/-- what a round that goes on keeps: the blocks below n₀, and the two boxes of the lists -/
structure KpF (n₀ Ba Bb : Nat) (w w' : World) : Prop where
  b : Below n₀ w w'
  ca : w'.heap[Ba]? = w.heap[Ba]?
  cb : w'.heap[Bb]? = w.heap[Bb]?
theorem KpF.refl (n₀ Ba Bb : Nat) (w : World) : KpF n₀ Ba Bb w w := ⟨Below.refl _ _, rfl, rfl⟩
theorem KpF.trans {n₀ Ba Bb : Nat} {w w' w'' : World} (h : KpF n₀ Ba Bb w w') (h' : KpF n₀ Ba Bb w' w'') : KpF n₀ Ba Bb w w'' := ⟨h.b.trans h'.b, h'.ca.trans h.ca, h'.cb.trans h.cb⟩
theorem cell_of_heap {w w' : World} {b : Nat} (h : w'.heap[b]? = w.heap[b]?) (o : Nat) (r : Option Nat) : w'.cell? ⟨b, o, r⟩ = w.cell? ⟨b, o, r⟩ := by
  have h2 : Below (b + 1) { w with heap := #[] } { w with heap := #[] } := Below.refl _ _
  unfold World.cell?
  rw [h]
theorem KpF.cellA {n₀ Ba Bb : Nat} {w w' : World} (h : KpF n₀ Ba Bb w w') : w'.cell? ⟨Ba, 0, none⟩ = w.cell? ⟨Ba, 0, none⟩ := cell_of_heap h.ca 0 none
theorem KpF.cellB {n₀ Ba Bb : Nat} {w w' : World} (h : KpF n₀ Ba Bb w w') : w'.cell? ⟨Bb, 0, none⟩ = w.cell? ⟨Bb, 0, none⟩ := cell_of_heap h.cb 0 none
theorem KpF.of {n₀ Ba Bb : Nat} {w w' : World} (h : Below w.heap.size w w') (hn : n₀ ≤ w.heap.size) (ha : Ba < w.heap.size) (hb : Bb < w.heap.size) : KpF n₀ Ba Bb w w' := ⟨h.mono hn, h.block _ ha, h.block _ hb⟩
/-- what holds at the head of each round -/
def IRel (fs gs : List Fl) (n₀ Ba Bb : Nat) (W : World) (J : List (Fl × Fl) → World → Prop) (i j : Value) (wr : World) : Prop :=
  ∃ (x y : Nat) (pre : List (Fl × Fl)), x ≤ fs.length ∧ y ≤ gs.length ∧ i = .int .i64 x ∧ j = .int .i64 y ∧ allP fs gs 0 0 = pre ++ allP fs gs x y ∧ J pre wr ∧ KpF n₀ Ba Bb W wr
/-- one round: which pair comes, and where the next begins -/
def Way (fs gs : List Fl) (x y : Nat) (f g : Fl) (x' y' : Nat) : Prop :=
  (x < fs.length ∨ y < gs.length) ∧ lAt fs gs x y = f ∧ rAt fs gs x y = g ∧ iNext fs gs x y = x' ∧ jNext fs gs x y = y'
theorem way_neg {fs gs : List Fl} {x y : Nat} {f : Fl} (hg : fs[x]? = some f) (h : ordO fs[x]? gs[y]? = -1) : Way fs gs x y f noF (x + 1) y := by
  rw [ordO_at] at h
  obtain ⟨hl, -⟩ := List.getElem?_eq_some_iff.1 hg
  refine ⟨.inl hl, ?_, ?_, ?_, ?_⟩ <;> (first | unfold lAt | unfold rAt | unfold iNext | unfold jNext) <;> rw [h] <;> simp [hg]
theorem way_pos {fs gs : List Fl} {x y : Nat} {g : Fl} (hg : gs[y]? = some g) (h : ordO fs[x]? gs[y]? = 1) : Way fs gs x y noF g x (y + 1) := by
  rw [ordO_at] at h
  obtain ⟨hl, -⟩ := List.getElem?_eq_some_iff.1 hg
  refine ⟨.inr hl, ?_, ?_, ?_, ?_⟩ <;> (first | unfold lAt | unfold rAt | unfold iNext | unfold jNext) <;> rw [h] <;> simp [hg]
theorem way_zero {fs gs : List Fl} {x y : Nat} {f g : Fl} (hf : fs[x]? = some f) (hg : gs[y]? = some g) (h : ordO fs[x]? gs[y]? = 0) : Way fs gs x y f g (x + 1) (y + 1) := by
  rw [ordO_at] at h
  obtain ⟨hl, -⟩ := List.getElem?_eq_some_iff.1 hg
  refine ⟨.inr hl, ?_, ?_, ?_, ?_⟩ <;> (first | unfold lAt | unfold rAt | unfold iNext | unfold jNext) <;> rw [h] <;> simp [hf, hg]
theorem irel_next {fs gs : List Fl} {n₀ Ba Bb : Nat} {W W3 : World} {J : List (Fl × Fl) → World → Prop} {x y x' y' : Nat} {pre : List (Fl × Fl)} {f g : Fl} {i j : Value}
    (hx : x ≤ fs.length) (hy : y ≤ gs.length) (hpre : allP fs gs 0 0 = pre ++ allP fs gs x y) (hw : Way fs gs x y f g x' y') (hi : i = .int .i64 x') (hj : j = .int .i64 y')
    (hJ : J (pre ++ [(f, g)]) W3) (hB : KpF n₀ Ba Bb W W3) : IRel fs gs n₀ Ba Bb W J i j W3 := by
  obtain ⟨hor, rfl, rfl, rfl, rfl⟩ := hw
  obtain ⟨h1, h2⟩ := next_le hx hy hor
  exact ⟨_, _, _, h1, h2, hi, hj, by rw [hpre, allP_step hx hy hor]; simp, hJ, hB⟩
theorem irel_stop {fs gs : List Fl} {x y x' y' : Nat} {pre : List (Fl × Fl)} {f g : Fl}
    (hx : x ≤ fs.length) (hy : y ≤ gs.length) (hpre : allP fs gs 0 0 = pre ++ allP fs gs x y) (hw : Way fs gs x y f g x' y') : ∃ q, (pre ++ [(f, g)]) ++ q = allP fs gs 0 0 := by
  obtain ⟨hor, rfl, rfl, -, -⟩ := hw
  exact ⟨allP fs gs (iNext fs gs x y) (jNext fs gs x y), by rw [hpre, allP_step hx hy hor]; simp⟩
theorem way_short {fs gs : List Fl} {x y x' y' : Nat} {pre : List (Fl × Fl)} {f g : Fl}
    (hx : x ≤ fs.length) (hy : y ≤ gs.length) (hpre : allP fs gs 0 0 = pre ++ allP fs gs x y) (hw : Way fs gs x y f g x' y') : pre.length < fs.length + gs.length := pre_short hpre hx hy hw.1

set_option maxRecDepth 100000 in
set_option maxHeartbeats 8000000 in
theorem iter_in (n₀ l Ba Bb : Nat) (a b : Option Addr) (c d : Nat) (fs gs : List Fl) (hn : fs.length ≤ 1048576) (hm : gs.length ≤ 1048576) (hsa : SlOk a fs.length c) (hsb : SlOk b gs.length d) (J Jx : List (Fl × Fl) → World → Prop)
    (hY : ∀ pre x W, J pre W → pre.length < fs.length + gs.length → YieldAt Fence.wide 4 Try.prog l #[encF x.1, encF x.2] W fun e W' =>
      (e = .returned (.bool true) ∧ J (pre ++ [x]) W' ∧ KpF n₀ Ba Bb W W') ∨ (e = .returned (.bool false) ∧ Jx (pre ++ [x]) W'))
    (W : World) (hn₀ : n₀ ≤ W.heap.size) (hBa : Ba < W.heap.size) (hBb : Bb < W.heap.size) (hJ : AbidesFrom W.heap.size J)
    (hcA : W.cell? ⟨Ba, 0, none⟩ = some (.slice a fs.length c)) (hcB : W.cell? ⟨Bb, 0, none⟩ = some (.slice b gs.length d)) (hf : FilesAt W n₀ a fs.length fs) (hg : FilesAt W n₀ b gs.length gs) (h0 : J [] W) :
    CallsIn Fence.wide 5 Try.prog 39 (#[.func (.yield l) #[] #[]] ++ lbF Ba Bb) W fun e W' => (∃ v, e = .returned v) ∧
      ((∃ ys, ys = allP fs gs 0 0 ∧ J ys W') ∨ (∃ pre, (∃ q, pre ++ q = allP fs gs 0 0) ∧ Jx pre W')) := by
  refine callsIn_of_wp Try.func39 rfl trivial ?_ rfl
  simp only [lbF, Try.ntmps39, List.size_toArray, List.length_cons, List.length_nil, Nat.reduceAdd, Nat.reduceSub, Array.replicate_succ, Array.replicate_zero, List.push_toArray, List.append_toArray, List.nil_append, List.cons_append]
  gi_wp2
  gi_loopw [4, 5] (fun i j wr => IRel fs gs n₀ Ba Bb W J i j wr) (fun i j _ => fs.length + gs.length - ((intOf i).toNat + (intOf j).toNat))
  case atStart => exact ⟨0, 0, [], Nat.zero_le _, Nat.zero_le _, rfl, rfl, rfl, h0, KpF.refl _ _ _ _⟩
  case round =>
    obtain ⟨x, y, pre, hx, hy, rfl, rfl, hpre, hJs, hB⟩ := hrel
    have hcA' := hB.cellA.trans hcA
    have hcB' := hB.cellB.trans hcB
    have hf' := hf.below hB.b
    have hg' := hg.below hB.b
    have hsz := hB.b.size
    have hBa' : Ba < wr.heap.size := by omega
    have hBb' : Bb < wr.heap.size := by omega
    have hBa2 : Ba < wr.heap.size + 1 := by omega
    have hBb2 : Bb < wr.heap.size + 1 := by omega
    have Hpre := Lib.hid hpre
    have HJs := Lib.hid hJs
    clear hpre hJs hcA hcB hf hg
    by_cases hxl : x < fs.length
    · obtain ⟨b1, o1, p, t, rfl, hb1, hgx, hx1, hx2⟩ := hf'.get hxl
      have hb1' : b1 < wr.heap.size := by omega
      have hb1'' : b1 < wr.heap.size + 1 := by omega
      have hxc : ¬ x = c := by rcases hsa with ⟨h, _⟩ | ⟨h, _⟩; cases h; omega
      have hxc2 : x ≤ c := by rcases hsa with ⟨h, _⟩ | ⟨h, _⟩; cases h; omega
      have hlc : fs.length ≤ c := by rcases hsa with ⟨h, _⟩ | ⟨h, _⟩; cases h; omega
      have hx0 : (0 : Int) ≤ (x : Int) := by omega
      have hx3 : (x : Int) < (fs.length : Int) := by omega
      have Hgx := Lib.hid hgx
      clear hgx
      by_cases hyl : y < gs.length
      · obtain ⟨b2, o2, q, u, rfl, hb2, hgy, hy1, hy2⟩ := hg'.get hyl
        have hb2' : b2 < wr.heap.size := by omega
        have hb2'' : b2 < wr.heap.size + 1 := by omega
        have hyc : ¬ y = d := by rcases hsb with ⟨h, _⟩ | ⟨h, _⟩; cases h; omega
        have hyc2 : y ≤ d := by rcases hsb with ⟨h, _⟩ | ⟨h, _⟩; cases h; omega
        have hld : gs.length ≤ d := by rcases hsb with ⟨h, _⟩ | ⟨h, _⟩; cases h; omega
        have hy0 : (0 : Int) ≤ (y : Int) := by omega
        have hy3 : (y : Int) < (gs.length : Int) := by omega
        have Hgy := Lib.hid hgy
        clear hgy
        rcases (show p = q ∨ sLess p q = true ∨ sLess q p = true by by_cases h1 : p = q; exact .inl h1; cases h2 : sLess p q; exact .inr (.inr (sLess_total h2 h1)); exact .inr (.inl rfl)) with heq | hlt | hgt
        · have HFX := Lib.hid Hgx.out
          have HGY := Lib.hid Hgy.out
          have Hord := Lib.hid (show ordO fs[x]? gs[y]? = 0 from by rw [HFX.out, HGY.out]; show cmpS p q = 0; unfold cmpS; rw [if_pos heq])
          clear heq
          have Hord2 := Lib.hid (show ordO (some (p, t)) (some (q, u)) = 0 from by have := Hord.out; rw [HFX.out, HGY.out] at this; exact this)
          have HW := Lib.hid (way_zero Hgx.out Hgy.out Hord.out)
          gi_wp2_with fail
          refine wpIn_wide.2 ?_
          go_quiet ((go_at_call 40; exact Calls.quiet_of (cpaths_is Hord2.out (headSome hx1 (by omega)) (headSome hy1 (by omega)))))
          have HJ1 := Lib.hid (hJ _ _ (wr.drewN nq) none HJs.out (growN (below_drewN (Below.refl _ wr) nq)) (fun r h => nomatch h))
          have hB1 := hB.trans (KpF.of (below_drewN (Below.refl _ wr) nq) (by omega) hBa' hBb')
          generalize hw1 : wr.drewN nq = w1 at HJ1 hB1 ⊢
          have hcA1 : w1.cell? ⟨Ba, 0, none⟩ = some (.slice (some ⟨b1, o1, none⟩) fs.length c) := by rw [← hw1]; exact hcA'
          have hcB1 : w1.cell? ⟨Bb, 0, none⟩ = some (.slice (some ⟨b2, o2, none⟩) gs.length d) := by rw [← hw1]; exact hcB'
          have hx11 : w1.cell? ⟨b1, o1 + x * 2, none⟩ = some (.string p) := by rw [← hw1]; exact hx1
          have hx12 : w1.cell? ⟨b1, o1 + x * 2 + 1, none⟩ = some (.string t) := by rw [← hw1]; exact hx2
          have hy11 : w1.cell? ⟨b2, o2 + y * 2, none⟩ = some (.string q) := by rw [← hw1]; exact hy1
          have hy12 : w1.cell? ⟨b2, o2 + y * 2 + 1, none⟩ = some (.string u) := by rw [← hw1]; exact hy2
          have hz1 : wr.heap.size = w1.heap.size := by rw [← hw1]; rfl
          rw [hz1] at hBa' hBa2 hBb' hBb2 hb1' hb1'' hb2' hb2'' hsz
          clear hcA' hcB' hx1 hx2 hy1 hy2 hf' hg' hB HJs hw1 Hord Hord2 HFX HGY
          have hB2 := hB1.trans (KpF.of (((Below.refl w1.heap.size w1).alloc (Nat.le_refl _) (Obj.cells #[Value.string p, Value.string t] 49)).alloc (by simp) (Obj.cells #[Value.string q, Value.string u] 49)) (by omega) hBa' hBb')
          obtain ⟨fn, tmps, assign, body, hyld, hR⟩ := hY pre ((p, t), (q, u)) ((w1.alloc (Obj.cells #[Value.string p, Value.string t] 49)).alloc (Obj.cells #[Value.string q, Value.string u] 49)) (hJ _ _ _ none HJ1.out (growN (((Below.refl _ w1).alloc (Nat.le_refl _) _).alloc (by simp) _)) (fun r h => nomatch h)) (way_short hx hy Hpre.out HW.out)
          simp only [encF] at hyld
          clear hY
          gi_wp2_with fail
          refine hR.mono ?_
          clear hR
          rintro e W3 (⟨rfl, hJ3, hk3⟩ | ⟨rfl, hJx3⟩)
          · have HJ3 := Lib.hid hJ3
            clear hJ3
            gi_wp2
            go_roundw
            case rel => exact irel_next hx hy Hpre.out HW.out (by first | rfl | (congr 1; done) | (congr 1; omega)) (by first | rfl | (congr 1; done) | (congr 1; omega)) HJ3.out (hB2.trans hk3)
            case measure => simp [intOf]; omega
          · have HJ3 := Lib.hid hJx3
            clear hJx3
            gi_wp2
            refine bodyPost_ret (results_none rfl _ _ _) rfl ?_
            exact ⟨⟨_, rfl⟩, .inr ⟨_, irel_stop hx hy Hpre.out HW.out, HJ3.out⟩⟩
        · have HFX := Lib.hid Hgx.out
          have HGY := Lib.hid Hgy.out
          have Hord := Lib.hid (show ordO fs[x]? gs[y]? = -1 from by rw [HFX.out, HGY.out]; show cmpS p q = -1; unfold cmpS; rw [if_neg (sLess_ne hlt), if_pos hlt])
          clear hlt
          have Hord2 := Lib.hid (show ordO (some (p, t)) (some (q, u)) = (-1) from by have := Hord.out; rw [HFX.out, HGY.out] at this; exact this)
          have HW := Lib.hid (way_neg Hgx.out Hord.out)
          gi_wp2_with fail
          refine wpIn_wide.2 ?_
          go_quiet ((go_at_call 40; exact Calls.quiet_of (cpaths_is Hord2.out (headSome hx1 (by omega)) (headSome hy1 (by omega)))))
          have HJ1 := Lib.hid (hJ _ _ (wr.drewN nq) none HJs.out (growN (below_drewN (Below.refl _ wr) nq)) (fun r h => nomatch h))
          have hB1 := hB.trans (KpF.of (below_drewN (Below.refl _ wr) nq) (by omega) hBa' hBb')
          generalize hw1 : wr.drewN nq = w1 at HJ1 hB1 ⊢
          have hcA1 : w1.cell? ⟨Ba, 0, none⟩ = some (.slice (some ⟨b1, o1, none⟩) fs.length c) := by rw [← hw1]; exact hcA'
          have hcB1 : w1.cell? ⟨Bb, 0, none⟩ = some (.slice (some ⟨b2, o2, none⟩) gs.length d) := by rw [← hw1]; exact hcB'
          have hx11 : w1.cell? ⟨b1, o1 + x * 2, none⟩ = some (.string p) := by rw [← hw1]; exact hx1
          have hx12 : w1.cell? ⟨b1, o1 + x * 2 + 1, none⟩ = some (.string t) := by rw [← hw1]; exact hx2
          have hy11 : w1.cell? ⟨b2, o2 + y * 2, none⟩ = some (.string q) := by rw [← hw1]; exact hy1
          have hy12 : w1.cell? ⟨b2, o2 + y * 2 + 1, none⟩ = some (.string u) := by rw [← hw1]; exact hy2
          have hz1 : wr.heap.size = w1.heap.size := by rw [← hw1]; rfl
          rw [hz1] at hBa' hBa2 hBb' hBb2 hb1' hb1'' hb2' hb2'' hsz
          clear hcA' hcB' hx1 hx2 hy1 hy2 hf' hg' hB HJs hw1 Hord Hord2 HFX HGY
          have hB2 := hB1.trans (KpF.of (((Below.refl w1.heap.size w1).alloc (Nat.le_refl _) (Obj.cells #[Value.string p, Value.string t] 49)).alloc (by simp) (Obj.cells #[Value.string { data := #[] }, Value.string { data := #[] }] 49)) (by omega) hBa' hBb')
          obtain ⟨fn, tmps, assign, body, hyld, hR⟩ := hY pre ((p, t), ({ data := #[] }, { data := #[] })) ((w1.alloc (Obj.cells #[Value.string p, Value.string t] 49)).alloc (Obj.cells #[Value.string { data := #[] }, Value.string { data := #[] }] 49)) (hJ _ _ _ none HJ1.out (growN (((Below.refl _ w1).alloc (Nat.le_refl _) _).alloc (by simp) _)) (fun r h => nomatch h)) (way_short hx hy Hpre.out HW.out)
          simp only [encF] at hyld
          clear hY
          gi_wp2_with fail
          refine hR.mono ?_
          clear hR
          rintro e W3 (⟨rfl, hJ3, hk3⟩ | ⟨rfl, hJx3⟩)
          · have HJ3 := Lib.hid hJ3
            clear hJ3
            gi_wp2
            go_roundw
            case rel => exact irel_next hx hy Hpre.out HW.out (by first | rfl | (congr 1; done) | (congr 1; omega)) (by first | rfl | (congr 1; done) | (congr 1; omega)) HJ3.out (hB2.trans hk3)
            case measure => simp [intOf]; omega
          · have HJ3 := Lib.hid hJx3
            clear hJx3
            gi_wp2
            refine bodyPost_ret (results_none rfl _ _ _) rfl ?_
            exact ⟨⟨_, rfl⟩, .inr ⟨_, irel_stop hx hy Hpre.out HW.out, HJ3.out⟩⟩
        · have HFX := Lib.hid Hgx.out
          have HGY := Lib.hid Hgy.out
          have Hord := Lib.hid (show ordO fs[x]? gs[y]? = 1 from by rw [HFX.out, HGY.out]; show cmpS p q = 1; unfold cmpS; rw [if_neg (sLess_ne hgt).symm, if_neg (by rw [sLess_asymm hgt]; simp)])
          clear hgt
          have Hord2 := Lib.hid (show ordO (some (p, t)) (some (q, u)) = 1 from by have := Hord.out; rw [HFX.out, HGY.out] at this; exact this)
          have HW := Lib.hid (way_pos Hgy.out Hord.out)
          gi_wp2_with fail
          refine wpIn_wide.2 ?_
          go_quiet ((go_at_call 40; exact Calls.quiet_of (cpaths_is Hord2.out (headSome hx1 (by omega)) (headSome hy1 (by omega)))))
          have HJ1 := Lib.hid (hJ _ _ (wr.drewN nq) none HJs.out (growN (below_drewN (Below.refl _ wr) nq)) (fun r h => nomatch h))
          have hB1 := hB.trans (KpF.of (below_drewN (Below.refl _ wr) nq) (by omega) hBa' hBb')
          generalize hw1 : wr.drewN nq = w1 at HJ1 hB1 ⊢
          have hcA1 : w1.cell? ⟨Ba, 0, none⟩ = some (.slice (some ⟨b1, o1, none⟩) fs.length c) := by rw [← hw1]; exact hcA'
          have hcB1 : w1.cell? ⟨Bb, 0, none⟩ = some (.slice (some ⟨b2, o2, none⟩) gs.length d) := by rw [← hw1]; exact hcB'
          have hx11 : w1.cell? ⟨b1, o1 + x * 2, none⟩ = some (.string p) := by rw [← hw1]; exact hx1
          have hx12 : w1.cell? ⟨b1, o1 + x * 2 + 1, none⟩ = some (.string t) := by rw [← hw1]; exact hx2
          have hy11 : w1.cell? ⟨b2, o2 + y * 2, none⟩ = some (.string q) := by rw [← hw1]; exact hy1
          have hy12 : w1.cell? ⟨b2, o2 + y * 2 + 1, none⟩ = some (.string u) := by rw [← hw1]; exact hy2
          have hz1 : wr.heap.size = w1.heap.size := by rw [← hw1]; rfl
          rw [hz1] at hBa' hBa2 hBb' hBb2 hb1' hb1'' hb2' hb2'' hsz
          clear hcA' hcB' hx1 hx2 hy1 hy2 hf' hg' hB HJs hw1 Hord Hord2 HFX HGY
          have hB2 := hB1.trans (KpF.of (((Below.refl w1.heap.size w1).alloc (Nat.le_refl _) (Obj.cells #[Value.string { data := #[] }, Value.string { data := #[] }] 49)).alloc (by simp) (Obj.cells #[Value.string q, Value.string u] 49)) (by omega) hBa' hBb')
          obtain ⟨fn, tmps, assign, body, hyld, hR⟩ := hY pre (({ data := #[] }, { data := #[] }), (q, u)) ((w1.alloc (Obj.cells #[Value.string { data := #[] }, Value.string { data := #[] }] 49)).alloc (Obj.cells #[Value.string q, Value.string u] 49)) (hJ _ _ _ none HJ1.out (growN (((Below.refl _ w1).alloc (Nat.le_refl _) _).alloc (by simp) _)) (fun r h => nomatch h)) (way_short hx hy Hpre.out HW.out)
          simp only [encF] at hyld
          clear hY
          gi_wp2_with fail
          refine hR.mono ?_
          clear hR
          rintro e W3 (⟨rfl, hJ3, hk3⟩ | ⟨rfl, hJx3⟩)
          · have HJ3 := Lib.hid hJ3
            clear hJ3
            gi_wp2
            go_roundw
            case rel => exact irel_next hx hy Hpre.out HW.out (by first | rfl | (congr 1; done) | (congr 1; omega)) (by first | rfl | (congr 1; done) | (congr 1; omega)) HJ3.out (hB2.trans hk3)
            case measure => simp [intOf]; omega
          · have HJ3 := Lib.hid hJx3
            clear hJx3
            gi_wp2
            refine bodyPost_ret (results_none rfl _ _ _) rfl ?_
            exact ⟨⟨_, rfl⟩, .inr ⟨_, irel_stop hx hy Hpre.out HW.out, HJ3.out⟩⟩
      · obtain rfl : y = gs.length := by omega
        have HGY := Lib.hid (show gs[gs.length]? = none from List.getElem?_eq_none (Nat.le_refl _))
        have HFX := Lib.hid Hgx.out
        have Hord := Lib.hid (show ordO fs[x]? gs[gs.length]? = -1 from by rw [HFX.out, HGY.out]; rfl)
        rcases hsb with ⟨rfl, hl0, rfl⟩ | ⟨hlc2, bz, oz, rfl⟩
        · have hl1 : (gs.length : Int) = 0 := by omega
          have Hord2 := Lib.hid (show ordO (some (p, t)) none = (-1) from by have := Hord.out; rw [HFX.out, HGY.out] at this; exact this)
          have HW := Lib.hid (way_neg Hgx.out Hord.out)
          gi_wp2_with fail
          refine wpIn_wide.2 ?_
          go_quiet ((go_at_call 40; exact Calls.quiet_of (cpaths_is Hord2.out (headSome hx1 (by omega)) (headNone (by omega)))))
          have HJ1 := Lib.hid (hJ _ _ (wr.drewN nq) none HJs.out (growN (below_drewN (Below.refl _ wr) nq)) (fun r h => nomatch h))
          have hB1 := hB.trans (KpF.of (below_drewN (Below.refl _ wr) nq) (by omega) hBa' hBb')
          generalize hw1 : wr.drewN nq = w1 at HJ1 hB1 ⊢
          have hcA1 : w1.cell? ⟨Ba, 0, none⟩ = some (.slice (some ⟨b1, o1, none⟩) fs.length c) := by rw [← hw1]; exact hcA'
          have hcB1 : w1.cell? ⟨Bb, 0, none⟩ = some (.slice none gs.length 0) := by rw [← hw1]; exact hcB'
          have hx11 : w1.cell? ⟨b1, o1 + x * 2, none⟩ = some (.string p) := by rw [← hw1]; exact hx1
          have hx12 : w1.cell? ⟨b1, o1 + x * 2 + 1, none⟩ = some (.string t) := by rw [← hw1]; exact hx2
          have hz1 : wr.heap.size = w1.heap.size := by rw [← hw1]; rfl
          rw [hz1] at hBa' hBa2 hBb' hBb2 hb1' hb1'' hsz
          clear hcA' hcB' hx1 hx2 hf' hg' hB HJs hw1 Hord Hord2 HFX HGY
          have hB2 := hB1.trans (KpF.of (((Below.refl w1.heap.size w1).alloc (Nat.le_refl _) (Obj.cells #[Value.string p, Value.string t] 49)).alloc (by simp) (Obj.cells #[Value.string { data := #[] }, Value.string { data := #[] }] 49)) (by omega) hBa' hBb')
          obtain ⟨fn, tmps, assign, body, hyld, hR⟩ := hY pre ((p, t), ({ data := #[] }, { data := #[] })) ((w1.alloc (Obj.cells #[Value.string p, Value.string t] 49)).alloc (Obj.cells #[Value.string { data := #[] }, Value.string { data := #[] }] 49)) (hJ _ _ _ none HJ1.out (growN (((Below.refl _ w1).alloc (Nat.le_refl _) _).alloc (by simp) _)) (fun r h => nomatch h)) (way_short hx hy Hpre.out HW.out)
          simp only [encF] at hyld
          clear hY
          gi_wp2_with fail
          refine hR.mono ?_
          clear hR
          rintro e W3 (⟨rfl, hJ3, hk3⟩ | ⟨rfl, hJx3⟩)
          · have HJ3 := Lib.hid hJ3
            clear hJ3
            gi_wp2
            go_roundw
            case rel => exact irel_next hx hy Hpre.out HW.out (by first | rfl | (congr 1; done) | (congr 1; omega)) (by first | rfl | (congr 1; done) | (congr 1; omega)) HJ3.out (hB2.trans hk3)
            case measure => simp [intOf]; omega
          · have HJ3 := Lib.hid hJx3
            clear hJx3
            gi_wp2
            refine bodyPost_ret (results_none rfl _ _ _) rfl ?_
            exact ⟨⟨_, rfl⟩, .inr ⟨_, irel_stop hx hy Hpre.out HW.out, HJ3.out⟩⟩
        · by_cases hfull : gs.length = d
          · subst hfull
            have Hord2 := Lib.hid (show ordO (some (p, t)) none = (-1) from by have := Hord.out; rw [HFX.out, HGY.out] at this; exact this)
            have HW := Lib.hid (way_neg Hgx.out Hord.out)
            gi_wp2_with fail
            refine wpIn_wide.2 ?_
            go_quiet ((go_at_call 40; exact Calls.quiet_of (cpaths_is Hord2.out (headSome hx1 (by omega)) (headNone (by omega)))))
            have HJ1 := Lib.hid (hJ _ _ (wr.drewN nq) none HJs.out (growN (below_drewN (Below.refl _ wr) nq)) (fun r h => nomatch h))
            have hB1 := hB.trans (KpF.of (below_drewN (Below.refl _ wr) nq) (by omega) hBa' hBb')
            generalize hw1 : wr.drewN nq = w1 at HJ1 hB1 ⊢
            have hcA1 : w1.cell? ⟨Ba, 0, none⟩ = some (.slice (some ⟨b1, o1, none⟩) fs.length c) := by rw [← hw1]; exact hcA'
            have hcB1 : w1.cell? ⟨Bb, 0, none⟩ = some (.slice (some ⟨bz, oz, none⟩) gs.length gs.length) := by rw [← hw1]; exact hcB'
            have hx11 : w1.cell? ⟨b1, o1 + x * 2, none⟩ = some (.string p) := by rw [← hw1]; exact hx1
            have hx12 : w1.cell? ⟨b1, o1 + x * 2 + 1, none⟩ = some (.string t) := by rw [← hw1]; exact hx2
            have hz1 : wr.heap.size = w1.heap.size := by rw [← hw1]; rfl
            rw [hz1] at hBa' hBa2 hBb' hBb2 hb1' hb1'' hsz
            clear hcA' hcB' hx1 hx2 hf' hg' hB HJs hw1 Hord Hord2 HFX HGY
            have hB2 := hB1.trans (KpF.of (((Below.refl w1.heap.size w1).alloc (Nat.le_refl _) (Obj.cells #[Value.string p, Value.string t] 49)).alloc (by simp) (Obj.cells #[Value.string { data := #[] }, Value.string { data := #[] }] 49)) (by omega) hBa' hBb')
            obtain ⟨fn, tmps, assign, body, hyld, hR⟩ := hY pre ((p, t), ({ data := #[] }, { data := #[] })) ((w1.alloc (Obj.cells #[Value.string p, Value.string t] 49)).alloc (Obj.cells #[Value.string { data := #[] }, Value.string { data := #[] }] 49)) (hJ _ _ _ none HJ1.out (growN (((Below.refl _ w1).alloc (Nat.le_refl _) _).alloc (by simp) _)) (fun r h => nomatch h)) (way_short hx hy Hpre.out HW.out)
            simp only [encF] at hyld
            clear hY
            gi_wp2_with fail
            refine hR.mono ?_
            clear hR
            rintro e W3 (⟨rfl, hJ3, hk3⟩ | ⟨rfl, hJx3⟩)
            · have HJ3 := Lib.hid hJ3
              clear hJ3
              gi_wp2
              go_roundw
              case rel => exact irel_next hx hy Hpre.out HW.out (by first | rfl | (congr 1; done) | (congr 1; omega)) (by first | rfl | (congr 1; done) | (congr 1; omega)) HJ3.out (hB2.trans hk3)
              case measure => simp [intOf]; omega
            · have HJ3 := Lib.hid hJx3
              clear hJx3
              gi_wp2
              refine bodyPost_ret (results_none rfl _ _ _) rfl ?_
              exact ⟨⟨_, rfl⟩, .inr ⟨_, irel_stop hx hy Hpre.out HW.out, HJ3.out⟩⟩
          · have hroom : gs.length < d := by omega
            have Hord2 := Lib.hid (show ordO (some (p, t)) none = (-1) from by have := Hord.out; rw [HFX.out, HGY.out] at this; exact this)
            have HW := Lib.hid (way_neg Hgx.out Hord.out)
            gi_wp2_with fail
            refine wpIn_wide.2 ?_
            go_quiet ((go_at_call 40; exact Calls.quiet_of (cpaths_is Hord2.out (headSome hx1 (by omega)) (headNone (by omega)))))
            have HJ1 := Lib.hid (hJ _ _ (wr.drewN nq) none HJs.out (growN (below_drewN (Below.refl _ wr) nq)) (fun r h => nomatch h))
            have hB1 := hB.trans (KpF.of (below_drewN (Below.refl _ wr) nq) (by omega) hBa' hBb')
            generalize hw1 : wr.drewN nq = w1 at HJ1 hB1 ⊢
            have hcA1 : w1.cell? ⟨Ba, 0, none⟩ = some (.slice (some ⟨b1, o1, none⟩) fs.length c) := by rw [← hw1]; exact hcA'
            have hcB1 : w1.cell? ⟨Bb, 0, none⟩ = some (.slice (some ⟨bz, oz, none⟩) gs.length d) := by rw [← hw1]; exact hcB'
            have hx11 : w1.cell? ⟨b1, o1 + x * 2, none⟩ = some (.string p) := by rw [← hw1]; exact hx1
            have hx12 : w1.cell? ⟨b1, o1 + x * 2 + 1, none⟩ = some (.string t) := by rw [← hw1]; exact hx2
            have hz1 : wr.heap.size = w1.heap.size := by rw [← hw1]; rfl
            rw [hz1] at hBa' hBa2 hBb' hBb2 hb1' hb1'' hsz
            clear hcA' hcB' hx1 hx2 hf' hg' hB HJs hw1 Hord Hord2 HFX HGY
            have hB2 := hB1.trans (KpF.of (((Below.refl w1.heap.size w1).alloc (Nat.le_refl _) (Obj.cells #[Value.string p, Value.string t] 49)).alloc (by simp) (Obj.cells #[Value.string { data := #[] }, Value.string { data := #[] }] 49)) (by omega) hBa' hBb')
            obtain ⟨fn, tmps, assign, body, hyld, hR⟩ := hY pre ((p, t), ({ data := #[] }, { data := #[] })) ((w1.alloc (Obj.cells #[Value.string p, Value.string t] 49)).alloc (Obj.cells #[Value.string { data := #[] }, Value.string { data := #[] }] 49)) (hJ _ _ _ none HJ1.out (growN (((Below.refl _ w1).alloc (Nat.le_refl _) _).alloc (by simp) _)) (fun r h => nomatch h)) (way_short hx hy Hpre.out HW.out)
            simp only [encF] at hyld
            clear hY
            gi_wp2_with fail
            refine hR.mono ?_
            clear hR
            rintro e W3 (⟨rfl, hJ3, hk3⟩ | ⟨rfl, hJx3⟩)
            · have HJ3 := Lib.hid hJ3
              clear hJ3
              gi_wp2
              go_roundw
              case rel => exact irel_next hx hy Hpre.out HW.out (by first | rfl | (congr 1; done) | (congr 1; omega)) (by first | rfl | (congr 1; done) | (congr 1; omega)) HJ3.out (hB2.trans hk3)
              case measure => simp [intOf]; omega
            · have HJ3 := Lib.hid hJx3
              clear hJx3
              gi_wp2
              refine bodyPost_ret (results_none rfl _ _ _) rfl ?_
              exact ⟨⟨_, rfl⟩, .inr ⟨_, irel_stop hx hy Hpre.out HW.out, HJ3.out⟩⟩
    · by_cases hyl : y < gs.length
      · obtain rfl : x = fs.length := by omega
        have HFX := Lib.hid (show fs[fs.length]? = none from List.getElem?_eq_none (Nat.le_refl _))
        obtain ⟨b2, o2, q, u, rfl, hb2, hgy, hy1, hy2⟩ := hg'.get hyl
        have hb2' : b2 < wr.heap.size := by omega
        have hb2'' : b2 < wr.heap.size + 1 := by omega
        have hyc : ¬ y = d := by rcases hsb with ⟨h, _⟩ | ⟨h, _⟩; cases h; omega
        have hyc2 : y ≤ d := by rcases hsb with ⟨h, _⟩ | ⟨h, _⟩; cases h; omega
        have hld : gs.length ≤ d := by rcases hsb with ⟨h, _⟩ | ⟨h, _⟩; cases h; omega
        have hy0 : (0 : Int) ≤ (y : Int) := by omega
        have hy3 : (y : Int) < (gs.length : Int) := by omega
        have Hgy := Lib.hid hgy
        clear hgy
        have HGY := Lib.hid Hgy.out
        have Hord := Lib.hid (show ordO fs[fs.length]? gs[y]? = 1 from by rw [HFX.out]; rfl)
        rcases hsa with ⟨rfl, hl0, rfl⟩ | ⟨hlc2, bz, oz, rfl⟩
        · have hl1 : (fs.length : Int) = 0 := by omega
          have Hord2 := Lib.hid (show ordO none (some (q, u)) = 1 from by have := Hord.out; rw [HFX.out, HGY.out] at this; exact this)
          have HW := Lib.hid (way_pos Hgy.out Hord.out)
          gi_wp2_with fail
          refine wpIn_wide.2 ?_
          go_quiet ((go_at_call 40; exact Calls.quiet_of (cpaths_is Hord2.out (headNone (by omega)) (headSome hy1 (by omega)))))
          have HJ1 := Lib.hid (hJ _ _ (wr.drewN nq) none HJs.out (growN (below_drewN (Below.refl _ wr) nq)) (fun r h => nomatch h))
          have hB1 := hB.trans (KpF.of (below_drewN (Below.refl _ wr) nq) (by omega) hBa' hBb')
          generalize hw1 : wr.drewN nq = w1 at HJ1 hB1 ⊢
          have hcA1 : w1.cell? ⟨Ba, 0, none⟩ = some (.slice none fs.length 0) := by rw [← hw1]; exact hcA'
          have hcB1 : w1.cell? ⟨Bb, 0, none⟩ = some (.slice (some ⟨b2, o2, none⟩) gs.length d) := by rw [← hw1]; exact hcB'
          have hy11 : w1.cell? ⟨b2, o2 + y * 2, none⟩ = some (.string q) := by rw [← hw1]; exact hy1
          have hy12 : w1.cell? ⟨b2, o2 + y * 2 + 1, none⟩ = some (.string u) := by rw [← hw1]; exact hy2
          have hz1 : wr.heap.size = w1.heap.size := by rw [← hw1]; rfl
          rw [hz1] at hBa' hBa2 hBb' hBb2 hb2' hb2'' hsz
          clear hcA' hcB' hy1 hy2 hf' hg' hB HJs hw1 Hord Hord2 HFX HGY
          have hB2 := hB1.trans (KpF.of (((Below.refl w1.heap.size w1).alloc (Nat.le_refl _) (Obj.cells #[Value.string { data := #[] }, Value.string { data := #[] }] 49)).alloc (by simp) (Obj.cells #[Value.string q, Value.string u] 49)) (by omega) hBa' hBb')
          obtain ⟨fn, tmps, assign, body, hyld, hR⟩ := hY pre (({ data := #[] }, { data := #[] }), (q, u)) ((w1.alloc (Obj.cells #[Value.string { data := #[] }, Value.string { data := #[] }] 49)).alloc (Obj.cells #[Value.string q, Value.string u] 49)) (hJ _ _ _ none HJ1.out (growN (((Below.refl _ w1).alloc (Nat.le_refl _) _).alloc (by simp) _)) (fun r h => nomatch h)) (way_short hx hy Hpre.out HW.out)
          simp only [encF] at hyld
          clear hY
          gi_wp2_with fail
          refine hR.mono ?_
          clear hR
          rintro e W3 (⟨rfl, hJ3, hk3⟩ | ⟨rfl, hJx3⟩)
          · have HJ3 := Lib.hid hJ3
            clear hJ3
            gi_wp2
            go_roundw
            case rel => exact irel_next hx hy Hpre.out HW.out (by first | rfl | (congr 1; done) | (congr 1; omega)) (by first | rfl | (congr 1; done) | (congr 1; omega)) HJ3.out (hB2.trans hk3)
            case measure => simp [intOf]; omega
          · have HJ3 := Lib.hid hJx3
            clear hJx3
            gi_wp2
            refine bodyPost_ret (results_none rfl _ _ _) rfl ?_
            exact ⟨⟨_, rfl⟩, .inr ⟨_, irel_stop hx hy Hpre.out HW.out, HJ3.out⟩⟩
        · by_cases hfull : fs.length = c
          · subst hfull
            have Hord2 := Lib.hid (show ordO none (some (q, u)) = 1 from by have := Hord.out; rw [HFX.out, HGY.out] at this; exact this)
            have HW := Lib.hid (way_pos Hgy.out Hord.out)
            gi_wp2_with fail
            refine wpIn_wide.2 ?_
            go_quiet ((go_at_call 40; exact Calls.quiet_of (cpaths_is Hord2.out (headNone (by omega)) (headSome hy1 (by omega)))))
            have HJ1 := Lib.hid (hJ _ _ (wr.drewN nq) none HJs.out (growN (below_drewN (Below.refl _ wr) nq)) (fun r h => nomatch h))
            have hB1 := hB.trans (KpF.of (below_drewN (Below.refl _ wr) nq) (by omega) hBa' hBb')
            generalize hw1 : wr.drewN nq = w1 at HJ1 hB1 ⊢
            have hcA1 : w1.cell? ⟨Ba, 0, none⟩ = some (.slice (some ⟨bz, oz, none⟩) fs.length fs.length) := by rw [← hw1]; exact hcA'
            have hcB1 : w1.cell? ⟨Bb, 0, none⟩ = some (.slice (some ⟨b2, o2, none⟩) gs.length d) := by rw [← hw1]; exact hcB'
            have hy11 : w1.cell? ⟨b2, o2 + y * 2, none⟩ = some (.string q) := by rw [← hw1]; exact hy1
            have hy12 : w1.cell? ⟨b2, o2 + y * 2 + 1, none⟩ = some (.string u) := by rw [← hw1]; exact hy2
            have hz1 : wr.heap.size = w1.heap.size := by rw [← hw1]; rfl
            rw [hz1] at hBa' hBa2 hBb' hBb2 hb2' hb2'' hsz
            clear hcA' hcB' hy1 hy2 hf' hg' hB HJs hw1 Hord Hord2 HFX HGY
            have hB2 := hB1.trans (KpF.of (((Below.refl w1.heap.size w1).alloc (Nat.le_refl _) (Obj.cells #[Value.string { data := #[] }, Value.string { data := #[] }] 49)).alloc (by simp) (Obj.cells #[Value.string q, Value.string u] 49)) (by omega) hBa' hBb')
            obtain ⟨fn, tmps, assign, body, hyld, hR⟩ := hY pre (({ data := #[] }, { data := #[] }), (q, u)) ((w1.alloc (Obj.cells #[Value.string { data := #[] }, Value.string { data := #[] }] 49)).alloc (Obj.cells #[Value.string q, Value.string u] 49)) (hJ _ _ _ none HJ1.out (growN (((Below.refl _ w1).alloc (Nat.le_refl _) _).alloc (by simp) _)) (fun r h => nomatch h)) (way_short hx hy Hpre.out HW.out)
            simp only [encF] at hyld
            clear hY
            gi_wp2_with fail
            refine hR.mono ?_
            clear hR
            rintro e W3 (⟨rfl, hJ3, hk3⟩ | ⟨rfl, hJx3⟩)
            · have HJ3 := Lib.hid hJ3
              clear hJ3
              gi_wp2
              go_roundw
              case rel => exact irel_next hx hy Hpre.out HW.out (by first | rfl | (congr 1; done) | (congr 1; omega)) (by first | rfl | (congr 1; done) | (congr 1; omega)) HJ3.out (hB2.trans hk3)
              case measure => simp [intOf]; omega
            · have HJ3 := Lib.hid hJx3
              clear hJx3
              gi_wp2
              refine bodyPost_ret (results_none rfl _ _ _) rfl ?_
              exact ⟨⟨_, rfl⟩, .inr ⟨_, irel_stop hx hy Hpre.out HW.out, HJ3.out⟩⟩
          · have hroom : fs.length < c := by omega
            have Hord2 := Lib.hid (show ordO none (some (q, u)) = 1 from by have := Hord.out; rw [HFX.out, HGY.out] at this; exact this)
            have HW := Lib.hid (way_pos Hgy.out Hord.out)
            gi_wp2_with fail
            refine wpIn_wide.2 ?_
            go_quiet ((go_at_call 40; exact Calls.quiet_of (cpaths_is Hord2.out (headNone (by omega)) (headSome hy1 (by omega)))))
            have HJ1 := Lib.hid (hJ _ _ (wr.drewN nq) none HJs.out (growN (below_drewN (Below.refl _ wr) nq)) (fun r h => nomatch h))
            have hB1 := hB.trans (KpF.of (below_drewN (Below.refl _ wr) nq) (by omega) hBa' hBb')
            generalize hw1 : wr.drewN nq = w1 at HJ1 hB1 ⊢
            have hcA1 : w1.cell? ⟨Ba, 0, none⟩ = some (.slice (some ⟨bz, oz, none⟩) fs.length c) := by rw [← hw1]; exact hcA'
            have hcB1 : w1.cell? ⟨Bb, 0, none⟩ = some (.slice (some ⟨b2, o2, none⟩) gs.length d) := by rw [← hw1]; exact hcB'
            have hy11 : w1.cell? ⟨b2, o2 + y * 2, none⟩ = some (.string q) := by rw [← hw1]; exact hy1
            have hy12 : w1.cell? ⟨b2, o2 + y * 2 + 1, none⟩ = some (.string u) := by rw [← hw1]; exact hy2
            have hz1 : wr.heap.size = w1.heap.size := by rw [← hw1]; rfl
            rw [hz1] at hBa' hBa2 hBb' hBb2 hb2' hb2'' hsz
            clear hcA' hcB' hy1 hy2 hf' hg' hB HJs hw1 Hord Hord2 HFX HGY
            have hB2 := hB1.trans (KpF.of (((Below.refl w1.heap.size w1).alloc (Nat.le_refl _) (Obj.cells #[Value.string { data := #[] }, Value.string { data := #[] }] 49)).alloc (by simp) (Obj.cells #[Value.string q, Value.string u] 49)) (by omega) hBa' hBb')
            obtain ⟨fn, tmps, assign, body, hyld, hR⟩ := hY pre (({ data := #[] }, { data := #[] }), (q, u)) ((w1.alloc (Obj.cells #[Value.string { data := #[] }, Value.string { data := #[] }] 49)).alloc (Obj.cells #[Value.string q, Value.string u] 49)) (hJ _ _ _ none HJ1.out (growN (((Below.refl _ w1).alloc (Nat.le_refl _) _).alloc (by simp) _)) (fun r h => nomatch h)) (way_short hx hy Hpre.out HW.out)
            simp only [encF] at hyld
            clear hY
            gi_wp2_with fail
            refine hR.mono ?_
            clear hR
            rintro e W3 (⟨rfl, hJ3, hk3⟩ | ⟨rfl, hJx3⟩)
            · have HJ3 := Lib.hid hJ3
              clear hJ3
              gi_wp2
              go_roundw
              case rel => exact irel_next hx hy Hpre.out HW.out (by first | rfl | (congr 1; done) | (congr 1; omega)) (by first | rfl | (congr 1; done) | (congr 1; omega)) HJ3.out (hB2.trans hk3)
              case measure => simp [intOf]; omega
            · have HJ3 := Lib.hid hJx3
              clear hJx3
              gi_wp2
              refine bodyPost_ret (results_none rfl _ _ _) rfl ?_
              exact ⟨⟨_, rfl⟩, .inr ⟨_, irel_stop hx hy Hpre.out HW.out, HJ3.out⟩⟩
      · obtain rfl : x = fs.length := by omega
        obtain rfl : y = gs.length := by omega
        gi_wp2
        go_end0
        exact ⟨⟨_, rfl⟩, .inl ⟨_, by rw [Hpre.out, allP_end, List.append_nil], HJs.out⟩⟩
end Go.Proofs.Ytollcckdfehdeaa
