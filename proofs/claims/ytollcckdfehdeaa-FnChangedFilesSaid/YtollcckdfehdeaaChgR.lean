/-
  The program's ChangedFiles: the changed paths, in a list of its own.
-/
import Derived.Test.YtollcckdfehdeaaChgI
import Derived.Test.YtollcckdfehdeaaRound
import Derived.Test.YtollcckdfehdeaaFValid
import Derived.RangeFuncBox
import Derived.Maps.AppendAt
import Derived.Deep.Onto
namespace Go.Proofs.Ytollcckdfehdeaa
set_option linter.unusedVariables false
set_option linter.unusedSimpArgs false
open Go.RowKit Go.Shelf
attribute [local go_sem] Oper.semAt_some

theorem infoStr : (Try.prog.info? 9).map (fun i => (i.zero, i.size, i.bytes)) = some (some (.string .empty), 1, 16) := by kernel_rfl
theorem underStrs : Try.prog.underlying 28 = some (.slice 9) := by kernel_rfl

theorem iter_stops (n₀ Ba Bb : Nat) (a b : Option Addr) (c d : Nat) (fs gs : List Fl) (hn : fs.length ≤ 1048576) (hm : gs.length ≤ 1048576) (hsa : SlOk a fs.length c) (hsb : SlOk b gs.length d)
    (w : World) (hn₀ : n₀ ≤ w.heap.size) (hBa : Ba < w.heap.size) (hBb : Bb < w.heap.size) (hcA : w.cell? ⟨Ba, 0, none⟩ = some (.slice a fs.length c)) (hcB : w.cell? ⟨Bb, 0, none⟩ = some (.slice b gs.length d)) (hf : FilesAt w n₀ a fs.length fs) (hg : FilesAt w n₀ b gs.length gs) :
    SeqStopsK Fence.wide 5 Try.prog 39 (lbF Ba Bb) (fun x : Fl × Fl => #[encF x.1, encF x.2]) (KpF n₀ Ba Bb) (fun ys => ys = allP fs gs 0 0) (fun pre => ∃ q, pre ++ q = allP fs gs 0 0) (fs.length + gs.length) w :=
  fun l J Jx W hW hJ _ hY h0 => iter_in n₀ l Ba Bb a b c d fs gs hn hm hsa hsb J Jx hY W (Nat.le_trans hn₀ hW.size) (Nat.lt_of_lt_of_le hBa hW.size) (Nat.lt_of_lt_of_le hBb hW.size) hJ ((hW.cell (p := ⟨Ba, 0, none⟩) hBa).trans hcA) ((hW.cell (p := ⟨Bb, 0, none⟩) hBb).trans hcB) (hf.below (hW.mono hn₀)) (hg.below (hW.mono hn₀)) h0
theorem KpF.ofB {n₀ Ba Bb m : Nat} {w w' : World} (h : Below m w w') (hn : n₀ ≤ m) (ha : Ba < m) (hb : Bb < m) : KpF n₀ Ba Bb w w' := ⟨h.mono hn, h.block _ ha, h.block _ hb⟩
def Boxed2 (W : World) (B : Nat) (f : Fl) : Prop := W.heap[B]? = some (.cells #[.string f.1, .string f.2] 49 (0, 0))
theorem Boxed2.lt {W : World} {B : Nat} {f : Fl} (h : Boxed2 W B f) : B < W.heap.size := (Array.getElem?_eq_some_iff.1 h).1
theorem Boxed2.cell1 {W : World} {B : Nat} {f : Fl} (h : Boxed2 W B f) : W.cell? ⟨B, 0, none⟩ = some (.string f.1) := by simp [World.cell?, show W.heap[B]? = _ from h]
theorem Boxed2.cell2 {W : World} {B : Nat} {f : Fl} (h : Boxed2 W B f) : W.cell? ⟨B, 1, none⟩ = some (.string f.2) := by simp [World.cell?, show W.heap[B]? = _ from h]
theorem Boxed2.kept {W W' : World} {row : Option Nat} {B : Nat} {f : Fl} (h : Boxed2 W B f) (hg : W.grownBy W' row) (hne : some B ≠ row) : Boxed2 W' B f := (hg.block B h.lt hne).trans h
theorem Boxed2.alloc {W : World} {B : Nat} {f : Fl} (h : Boxed2 W B f) (o : Obj) : Boxed2 (W.alloc o) B f := h.kept (World.grownBy_alloc W o none) (by simp)
theorem Boxed2.new (W : World) (f : Fl) : Boxed2 (W.alloc (.cells #[.string f.1, .string f.2] 49)) W.heap.size f := World.alloc_heap_new W _
theorem Boxed2.not_row {W : World} {B : Nat} {f : Fl} (h : Boxed2 W B f) {base k : Nat} {v : Value} {xs : List Value} (hr : W.ownsRow base 9 1 v k xs) : some B ≠ v.ownBlock := by
  rcases hr.2 with ⟨rfl, _⟩ | ⟨g, cap, cur, rfl, _, hgb, _⟩
  · simp [Value.ownBlock]
  · intro e
    obtain rfl : B = g := by simpa [Value.ownBlock] using e
    rw [show W.heap[B]? = _ from h] at hgb
    cases hgb
theorem Boxed2.ne {W : World} {B C : Nat} {f : Fl} {v : Value} (h : Boxed2 W B f) (h2 : Boxed W C 28 v) : B ≠ C := by
  rintro rfl
  have h3 := (show W.heap[B]? = _ from h).symm.trans (show W.heap[B]? = _ from h2)
  cases h3
theorem Boxed2.other {W : World} {B C : Nat} {f : Fl} (h : Boxed2 W B f) (hne : B ≠ C) (u : Value) : Boxed2 (W.setCell ⟨C, 0, none⟩ u) B f := h.kept (grownBy_setCell' W C u) (fun e => hne (by cases e; rfl))
theorem boxed2_own {β : Type} (B : Nat) (f : Fl) : Own (fun (s : β) W => Boxed2 W B f) := fun s X Y row hs hg hrow =>
  hs.kept hg (fun e => by obtain ⟨o, ho, hc⟩ := hrow _ e.symm; rw [show X.heap[B]? = _ from hs] at ho; cases ho; cases hc)
theorem wp_append_own2 {P : Program} {o : Oper} {a : Act} {w : World} {K : Act → World → Prop} {Q : Exit → Act → World → Prop} (s x : Operand) (t : TypeId) (hop : o.op = Op.call { callee := Callee.builtin Builtin.append, args := #[s, x], argTypes := #[t, t] })
    (base : Nat) (e : TypeId) (i : TypeInfo) (z : Value) (size bytes : Nat) (h1 : P.underlying t = some (.slice e)) (h2 : P.info? e = some i) (h3 : i.zero = some z) (h4 : i.size = size) (h5 : i.bytes = bytes) (h6 : z.cells.size = size) (h7 : 0 < size)
    (v : Value) (k : Nat) (xs : List Value) (hs : a.eval s = v) (hown : w.ownsRow base e size v k xs) (ad : Addr) (m c : Nat) (news : List Value) (hx : a.eval x = .slice (some ad) m c) (hn : news.length = m * size)
    (hc : ∀ j u, news[j]? = some u → w.cell? (ad.add j) = some u) (h1c : ∀ u ∈ news, u.oneCell' = true) (b1 : k + m ≤ maxLen) (b2 : (k + m) * bytes ≤ 140737488355328) (b3 : base ≤ w.heap.size)
    (hK : ∀ v' w', w'.ownsRow base e size v' (k + m) (xs ++ news) → w.grownBy w' v.ownBlock → (v' = .slice none 0 0 ↔ v = .slice none 0 0 ∧ m = 0) → K (a.put o.dst v') w') : o.wp P a w K Q := by
  obtain ⟨v', w', hrun, r1, r2, r3⟩ := run_append_own (P := P) w base t o.type e i z size bytes h1 h2 h3 h4 h5 h6 h7 v k xs hown ad m c news hn hc h1c b1 b2 b3
  unfold Oper.wp
  simp [execOp, hop, resolve, invoke, builtin, hs, hx, hrun, Result.andThen]
  exact hK v' w' r1 r2 r3
/-- a list of strings of one's own -/
def OwnsS (w : World) (B : Nat) (v : Value) (xs : List ByteArray) : Prop := w.ownsRow B 9 1 v xs.length (xs.map .string)
def StrsR (xs : List ByteArray) (w : World) (e : Ending) (w' : World) : Prop := ∃ v, e = .returned v ∧ OwnsS w' w.heap.size v xs ∧ Below w.heap.size w w'
theorem chgR_not1 {fs gs : List Fl} (h : validB fs = false) : chgR fs gs = [] := by unfold chgR; rw [h]; simp
theorem chgR_not2 {fs gs : List Fl} (h : validB gs = false) : chgR fs gs = [] := by unfold chgR; rw [h]; simp
theorem chgR_yes {fs gs : List Fl} (h1 : validB fs = true) (h2 : validB gs = true) : chgR fs gs = chgs (allP fs gs 0 0) := by unfold chgR; rw [h1, h2]; simp
theorem StrsR.none {xs : List ByteArray} {w w' : World} (h : xs = []) (hb : Below w.heap.size w w') : StrsR xs w (.returned (.slice none 0 0)) w' := by
  subst h; exact ⟨_, rfl, World.ownsRow_nil _ _ _ _, hb⟩

set_option maxRecDepth 100000 in
set_option maxHeartbeats 8000000 in
theorem chg_in (a b : Option Addr) (c d : Nat) (fs gs : List Fl) (w : World) (hsa : SlOk a fs.length c) (hsb : SlOk b gs.length d)
    (hf : FilesAt w w.heap.size a fs.length fs) (hg : FilesAt w w.heap.size b gs.length gs) (hfit : Fits fs) (hfit2 : Fits gs) (hn : fs.length ≤ maxLen) (hm : gs.length ≤ maxLen) :
    CallsIn Fence.wide 6 Try.prog 7 #[.slice a fs.length c, .slice b gs.length d] w (StrsR (chgR fs gs) w) := by
  have hro : Fence.wide.round = none := rfl
  refine callsIn_of_wp_marks Try.func7 rfl trivial ?_ hro
  simp only [Try.ntmps7, List.size_toArray, List.length_cons, List.length_nil, Nat.reduceAdd, Nat.reduceSub, Array.replicate_succ, Array.replicate_zero, List.push_toArray, List.append_toArray, List.nil_append, List.cons_append]
  have hfit1 := Lib.hid hfit
  have hfit3 := Lib.hid hfit2
  have hn1 := Lib.hid hn
  have hm1 := Lib.hid hm
  have hf1 := Lib.hid hf
  have hg1 := Lib.hid hg
  clear hfit hfit2 hn hm hf hg
  cases hv1 : validB fs with
  | false =>
    have HR := Lib.hid (chgR_not1 (gs := gs) hv1)
    gi_wp2_with fail
    refine ⟨trivial, ?_⟩; refine (callsIn_wide.2 (validI_any _ _ _ _ _ hf1.out hfit1.out hn1.out)).mono ?_
    rintro e w1 ⟨rfl, hB1⟩
    rw [hv1]
    gi_wp2_with fail
    refine ⟨trivial, ?_⟩
    gi_wp2_with fail
    refine ⟨_, results_tmp rfl _ _ _, ?_⟩
    exact StrsR.none HR.out hB1
  | true =>
    cases hv2 : validB gs with
    | false =>
      have HR := Lib.hid (chgR_not2 (fs := fs) hv2)
      gi_wp2_with fail
      refine ⟨trivial, ?_⟩; refine (callsIn_wide.2 (validI_any _ _ _ _ _ hf1.out hfit1.out hn1.out)).mono ?_
      rintro e w1 ⟨rfl, hB1⟩
      rw [hv1]
      gi_wp2_with fail
      refine ⟨trivial, ?_⟩; refine (callsIn_wide.2 (validI_any _ _ _ _ _ ((hg1.out.below hB1).more hB1.size) hfit3.out hm1.out)).mono ?_
      rintro e w2 ⟨rfl, hB2⟩
      rw [hv2]
      have hB02 := Lib.hid (hB1.trans (hB2.mono hB1.size))
      gi_wp2_with fail
      refine ⟨_, results_tmp rfl _ _ _, ?_⟩
      exact StrsR.none HR.out hB02.out
    | true =>
      have HR := Lib.hid (chgR_yes hv1 hv2)
      gi_wp2_with fail
      refine ⟨trivial, ?_⟩; refine (callsIn_wide.2 (validI_any _ _ _ _ _ hf1.out hfit1.out hn1.out)).mono ?_
      rintro e w1 ⟨rfl, hB1⟩
      rw [hv1]
      gi_wp2_with fail
      refine ⟨trivial, ?_⟩; refine (callsIn_wide.2 (validI_any _ _ _ _ _ ((hg1.out.below hB1).more hB1.size) hfit3.out hm1.out)).mono ?_
      rintro e w2 ⟨rfl, hB2⟩
      rw [hv2]
      have hB02 := Lib.hid (hB1.trans (hB2.mono hB1.size))
      have hfa := Lib.hid ((hf1.out.below hB02.out).more hB02.out.size)
      have hga := Lib.hid ((hg1.out.below hB02.out).more hB02.out.size)
      clear hB1 hB2
      gi_wp2_with fail
      refine ⟨trivial, ?_⟩
      refine (maker_any a b fs.length c gs.length d _).mono ?_
      rintro e w3 ⟨rfl, rfl⟩
      simp only [lbF]
      gi_wp2_with fail
      simp only [World.size_alloc]
      have hl1 := Lib.hid (valid_length hv1)
      have hl2 := Lib.hid (valid_length hv2)
      obtain ⟨i0, hi, hz0, hz1, hz2⟩ := info_parts infoStr
      have bP := ((Boxed.new w2 28 (.slice none 0 0)).alloc (.cells #[.slice a fs.length c] 23)).alloc (.cells #[.slice b gs.length d] 23)
      have bA := (Boxed.new (w2.alloc (.cells #[.slice none 0 0] 28)) 23 (.slice a fs.length c)).alloc (.cells #[.slice b gs.length d] 23)
      have bB := Boxed.new ((w2.alloc (.cells #[.slice none 0 0] 28)).alloc (.cells #[.slice a fs.length c] 23)) 23 (.slice b gs.length d)
      have hBW := Lib.hid ((((Below.refl w2.heap.size w2).alloc (Nat.le_refl _) (.cells #[.slice none 0 0] 28)).alloc (by simp) (.cells #[.slice a fs.length c] 23)).alloc (by simp; omega) (.cells #[.slice b gs.length d] 23))
      simp only [World.size_alloc] at bA bB
      obtain ⟨W0, hW0⟩ : ∃ W0, ((w2.alloc (.cells #[.slice none 0 0] 28)).alloc (.cells #[.slice a fs.length c] 23)).alloc (.cells #[.slice b gs.length d] 23) = W0 := ⟨_, rfl⟩
      have hsz : W0.heap.size = w2.heap.size + 3 := by rw [← hW0]; simp
      rw [hW0] at bP bA bB hBW ⊢
      have hfb := Lib.hid (hfa.out.below hBW.out)
      have hgb := Lib.hid (hga.out.below hBW.out)
      clear hf1 hg1 hfa hga hfit1 hfit3 hW0
      refine wpIn_rangeFunc_ownH hro (by omega) (gf := 39) (lb := lbF (w2.heap.size + 1) (w2.heap.size + 1 + 1)) rfl trivial (enters_of Try.func39 (by kernel_rfl) rfl)
        (iter_stops w2.heap.size (w2.heap.size + 1) (w2.heap.size + 1 + 1) a b c d fs gs (by have := hl1.out; omega) (by have := hl2.out; omega) hsa hsb W0 (by omega) (by omega) (by omega) bA.cell bB.cell hfb.out hgb.out)
        KpF.trans (fun W l o o' hl h h1 h2 => KpF.ofB (belowK_b (w := W0) (Nat.le_refl _) W l o o' hl h h1 h2) (by omega) (by omega) (by omega)) (Below.refl _ _) (fun _ => rfl)
        (fun pre W => (∃ v, Boxed W w2.heap.size 28 v ∧ W.ownsRow w2.heap.size 9 1 v (chgs pre).length ((chgs pre).map Value.string) ∧ True) ∧ ((Boxed W (w2.heap.size + 1) 23 (.slice a fs.length c) ∧ Boxed W (w2.heap.size + 1 + 1) 23 (.slice b gs.length d)) ∧ Below w2.heap.size w2 W))
        (fun _ _ _ => False)
        (OwnFrom.and (Own.from (holdsRow_own w2.heap.size w2.heap.size 28 9 1 (fun pre => (chgs pre).length) (fun pre => (chgs pre).map Value.string) (fun pre v => True)) _) (OwnFrom.and (OwnFrom.and (Own.from (boxed_own _ _ (fun _ => _)) _) (Own.from (boxed_own _ _ (fun _ => _)) _)) (ownFrom_below (Nat.le_refl _) (by omega))))
        (fun _ _ _ _ _ hs _ _ => hs)
        ⟨⟨_, bP, World.ownsRow_nil _ _ _ _, trivial⟩, ⟨bA, bB⟩, hBW.out⟩
        (fun x a' W => ∃ Bx By, (Boxed2 W Bx x.1 ∧ Boxed2 W By x.2) ∧ a' = { tmps := #[.slice a fs.length c, .slice b gs.length d, undef, undef, .slice none 0 0, .pointer (some ⟨w2.heap.size, 0, none⟩), .pointer (some ⟨Bx, 0, none⟩), .pointer (some ⟨By, 0, none⟩), .slice a fs.length c, .bool true, .bool false, .bool false, .slice b gs.length d, .bool true, .bool false, .bool false, .slice a fs.length c, .slice b gs.length d, .func (.func 39) #[] #[.pointer (some ⟨w2.heap.size + 1, 0, none⟩), .pointer (some ⟨w2.heap.size + 1 + 1, 0, none⟩)], encF x.1, encF x.2, undef, undef, undef, undef, undef, undef, undef, undef, undef, undef, undef, undef, undef], defers := [] })
        (fun x a' _ X Y row hs hg hr => by
          obtain ⟨Bx, By, ⟨h1, h2⟩, h3⟩ := hs
          exact ⟨Bx, By, ⟨boxed2_own Bx x.1 () X Y row h1 hg (fun r e => (hr r e).2), boxed2_own By x.2 () X Y row h2 hg (fun r e => (hr r e).2)⟩, h3⟩)
        ?assign ?body ?done ?stop
      case assign =>
        rintro l pre x W K ⟨⟨v, hv, hrow, -⟩, ⟨hA, hBx⟩, hB1⟩ hK
        simp only [encF]
        gi_wp2_with fail
        have h2 := Boxed2.new (W.alloc (.cells #[.string x.1.1, .string x.1.2] 49)) x.2
        rw [World.size_alloc] at h2
        exact hK _ _ (((KeepsOthers.alloc _ _).trans (KeepsOthers.alloc _ _)).from _) (KpF.ofB (((Below.refl W.heap.size W).alloc (Nat.le_refl _) _).alloc (by simp) _) hB1.size hA.lt hBx.lt)
          ⟨⟨v, (hv.alloc _).alloc _, (hrow.alloc _).alloc _, trivial⟩, ⟨(hA.alloc _).alloc _, (hBx.alloc _).alloc _⟩, (hB1.alloc hB1.size _).alloc (by have := hB1.size; simp; omega) _⟩ ⟨W.heap.size, W.heap.size + 1, ⟨(Boxed2.new W x.1).alloc _, h2⟩, rfl⟩
      case body =>
        rintro l pre ⟨⟨p, t⟩, ⟨q, u⟩⟩ a' W hl ⟨r, hr⟩ ⟨⟨v, hv, hrow, -⟩, ⟨hA, hBx⟩, hB1⟩ ⟨Bx, By, ⟨hX, hY⟩, rfl⟩ hlt
        have hc1 := hX.cell1
        have hc2 := hX.cell2
        have hc3 := hY.cell1
        have hc4 := hY.cell2
        have hcv := hv.cell
        dsimp only at hc1 hc2 hc3 hc4
        simp only [encF]
        gi_wp2_with fail
        · have he : p = q := by rename_i h1 h2; exact bytes_ext (by simpa [Lib.toList_data] using h1)
          have he2 : t = u := by rename_i h1 h2; exact bytes_ext (by simpa [Lib.toList_data] using h2)
          subst he he2
          exact ⟨KeepsFrom.refl _ _, KpF.refl _ _ _ _, ⟨v, hv, by rw [chgs_append, chgs_one]; simp only [chg, if_true, List.append_nil]; exact hrow⟩, ⟨hA, hBx⟩, hB1⟩
        all_goals
          have HN := Lib.hid (show ¬ ((p, t) = (q, u)) from by intro e; cases e; simp_all)
          refine region_in_round (fun w' => w'.cell? ⟨Bx, 0, none⟩ = some (.string p) ∧ w'.cell? ⟨By, 0, none⟩ = some (.string q)) (by kernel_rfl) (by simp) (by rintro ⟨a, w, h⟩; exact h) ⟨hc1, hc3⟩ (fun hHeld => ?_)
          refine wpAnyH_take (i := 1) (v := .pointer (some ⟨Bx, 0, none⟩)) rfl (by kernel_rfl) (by kernel_rfl) (by kernel_rfl) (fun _ _ _ h => h) (Or.inl ⟨by rfl, (by intro w hSw; go_simp)⟩) (by assumption) ?_
          try simp only [Act.put, List.setIfInBounds_toArray, List.set_cons_zero, List.set_cons_succ]
          refine wpAnyH_take (i := 3) (v := .pointer (some ⟨By, 0, none⟩)) rfl (by kernel_rfl) (by kernel_rfl) (by kernel_rfl) (fun _ _ _ h => h) (Or.inl ⟨by rfl, (by intro w hSw; go_simp)⟩) (by assumption) ?_
          try simp only [Act.put, List.setIfInBounds_toArray, List.set_cons_zero, List.set_cons_succ]
          refine wpAnyH_take (i := 2) (v := .string p) rfl (by kernel_rfl) (by kernel_rfl) (by kernel_rfl) (fun _ _ _ h => h) (Or.inl ⟨by rfl, (by intro w hSw; go_simp)⟩) (by assumption) ?_
          try simp only [Act.put, List.setIfInBounds_toArray, List.set_cons_zero, List.set_cons_succ]
          refine wpAnyH_take (i := 4) (v := .string q) rfl (by kernel_rfl) (by kernel_rfl) (by kernel_rfl) (fun _ _ _ h => h) (Or.inl ⟨by rfl, (by intro w hSw; go_simp)⟩) (by assumption) ?_
          try simp only [Act.put, List.setIfInBounds_toArray, List.set_cons_zero, List.set_cons_succ]
          refine wpAnyH_ready (rs := [0, 5]) (by kernel_rfl) (by simp) ?_
          refine AllReadyH.cons rfl (fun K hK => ?_) (AllReadyH.cons rfl (fun K hK => ?_) AllReadyH.nil)
          · go_simp
            refine hK.out _ _ (by assumption) (fun _ => ?_)
            clear hK K
            try simp only [Act.put, List.setIfInBounds_toArray, List.set_cons_zero, List.set_cons_succ]
            refine wpAnyH_ready (rs := [5]) (by kernel_rfl) (by simp) ?_
            refine AllReadyH.cons rfl (fun K hK => ?_) AllReadyH.nil
            go_simp
            have hv5 : Boxed (W.alloc (.cells #[.string p, .string q] 9)).drew w2.heap.size 28 v := hv.alloc _
            have hA5 : Boxed (W.alloc (.cells #[.string p, .string q] 9)).drew (w2.heap.size + 1) 23 (.slice a fs.length c) := hA.alloc _
            have hB5 : Boxed (W.alloc (.cells #[.string p, .string q] 9)).drew (w2.heap.size + 1 + 1) 23 (.slice b gs.length d) := hBx.alloc _
            have hX5 : Boxed2 (W.alloc (.cells #[.string p, .string q] 9)).drew Bx (p, t) := hX.alloc _
            have hY5 : Boxed2 (W.alloc (.cells #[.string p, .string q] 9)).drew By (q, u) := hY.alloc _
            have hrow5 : (W.alloc (.cells #[.string p, .string q] 9)).drew.ownsRow w2.heap.size 9 1 v (chgs pre).length ((chgs pre).map Value.string) := hrow.alloc _
            have hk5 : KeepsOthers W (W.alloc (.cells #[.string p, .string q] 9)).drew := (KeepsOthers.alloc W (.cells #[.string p, .string q] 9)).trans (KeepsOthers.drew _)
            have hb5 : Below w2.heap.size W (W.alloc (.cells #[.string p, .string q] 9)).drew := ((Below.refl w2.heap.size W).alloc hB1.size (.cells #[.string p, .string q] 9)).drew
            have hs5 : (W.alloc (.cells #[.string p, .string q] 9)).drew.heap.size = W.heap.size + 1 := World.size_alloc _ _
            have h50 : (W.alloc (.cells #[.string p, .string q] 9)).drew.cell? ⟨W.heap.size, 0, none⟩ = some (.string p) := by simp [go_sem]
            have h51 : (W.alloc (.cells #[.string p, .string q] 9)).drew.cell? ⟨W.heap.size, 1, none⟩ = some (.string q) := by simp [go_sem]
            refine hK.out _ _ ⟨hX5.cell1, hY5.cell1⟩ (fun hHeld5 => ?_)
            clear hK K hHeld hc1 hc2 hc3 hc4 hcv
            generalize (W.alloc (.cells #[.string p, .string q] 9)).drew = W5 at hv5 hA5 hB5 hX5 hY5 hrow5 hk5 hb5 hs5 h50 h51 hHeld5 ⊢
            have hcv := hv5.cell
            try simp only [Act.put, List.setIfInBounds_toArray, List.set_cons_zero, List.set_cons_succ]
            refine wpAnyH_ready (rs := [6]) (by kernel_rfl) (by simp) ?_
            refine AllReadyH.cons rfl (fun K hK => ?_) AllReadyH.nil
            go_simp
            refine (or_any p q W.heap.size W5 h50 h51).mono ?_
            rintro e W5 ⟨rfl, rfl⟩
            dsimp only
            refine hK.out _ _ (by assumption) (fun _ => ?_)
            clear hK K
            try simp only [Act.put, List.setIfInBounds_toArray, List.set_cons_zero, List.set_cons_succ]
            refine wpAnyH_ready (rs := [7]) (by kernel_rfl) (by simp) ?_
            refine AllReadyH.cons rfl (fun K hK => ?_) AllReadyH.nil
            go_simp
            refine hK.out _ _ ⟨(hX5.alloc _).cell1, (hY5.alloc _).cell1⟩ (fun hHeld6 => ?_)
            clear hK K
            have hcv := (hv5.alloc (.cells #[.string (orS p q)] 9)).cell
            try simp only [Act.put, List.setIfInBounds_toArray, List.set_cons_zero, List.set_cons_succ]
            refine wpAnyH_ready (rs := [8]) (by kernel_rfl) (by simp) ?_
            refine AllReadyH.cons rfl (fun K hK => ?_) AllReadyH.nil
            rw [if_pos (by rfl)]
            have hpl := chgs_length pre
            have hl12 := hl1.out
            have hl22 := hl2.out
            refine wp_append_own2 _ _ 28 rfl w2.heap.size 9 i0 (.string .empty) 1 16 underStrs hi hz0 hz1 hz2 rfl (by decide) _ _ _ rfl (hrow5.alloc _) ⟨W.heap.size + 1, 0, none⟩ 1 1 [.string (orS p q)] rfl rfl (by rw [← hs5]; exact cell_one_new _ _ _) (by simp [Value.oneCell']) (by unfold maxLen; omega) (by omega) (by have := hB1.size; simp; omega) ?_
            intro v' w1 hown' hgrow _
            obtain ⟨hv1, hv2, hr2, hk2, hb2⟩ := hv5.appended (by decide) hrow5 (by have := hB1.size; omega) (Nat.le_refl _) hown' hgrow
            have hX1 := (hX5.alloc _).kept hgrow (hX5.not_row hrow5)
            have hY1 := (hY5.alloc _).kept hgrow (hY5.not_row hrow5)
            have hA1 := ((hA5.alloc _).kept hgrow (hA5.not_row (by decide) hrow5)).other (show w2.heap.size + 1 ≠ w2.heap.size by omega) v'
            have hB1' := ((hB5.alloc _).kept hgrow (hB5.not_row (by decide) hrow5)).other (show w2.heap.size + 1 + 1 ≠ w2.heap.size by omega) v'
            have hX2 := hX1.other (hX1.ne hv1) v'
            have hY2 := hY1.other (hY1.ne hv1) v'
            have hc1 := hv1.cell
            have hf1 := hv1.frozen
            obtain ⟨g', cap', rfl⟩ := ownsRow_succ hown'
            refine hK.out _ _ ⟨hX1.cell1, hY1.cell1⟩ (fun _ => ?_)
            clear hK K
            try simp only [Act.put, List.setIfInBounds_toArray, List.set_cons_zero, List.set_cons_succ]
            refine wpAnyH_ready (rs := [9]) (by kernel_rfl) (by simp) ?_
            refine AllReadyH.cons rfl (fun K hK => ?_) AllReadyH.nil
            go_simp
            refine hK.out _ _ ⟨hX2.cell1, hY2.cell1⟩ (fun _ => ?_)
            clear hK K
            refine wpAnyH_done (by kernel_rfl) ?_ _
            gi_wp2_with fail
            have hk := ((hk5.trans hk2).from W0.heap.size)
            exact ⟨hk, ⟨hb5.trans hb2, hA1.trans hA.symm, hB1'.trans hBx.symm⟩, ⟨_, hv2, by rw [chgs_append, chgs_one, show chg ((p, t), (q, u)) = [orS p q] from if_neg HN.out]; simpa using hr2⟩, ⟨hA1, hB1'⟩, (hB1.trans hb5).trans hb2⟩
          · go_simp
            have hv5 : Boxed (W.alloc (.cells #[.string p, .string q] 9)).drew w2.heap.size 28 v := hv.alloc _
            have hA5 : Boxed (W.alloc (.cells #[.string p, .string q] 9)).drew (w2.heap.size + 1) 23 (.slice a fs.length c) := hA.alloc _
            have hB5 : Boxed (W.alloc (.cells #[.string p, .string q] 9)).drew (w2.heap.size + 1 + 1) 23 (.slice b gs.length d) := hBx.alloc _
            have hX5 : Boxed2 (W.alloc (.cells #[.string p, .string q] 9)).drew Bx (p, t) := hX.alloc _
            have hY5 : Boxed2 (W.alloc (.cells #[.string p, .string q] 9)).drew By (q, u) := hY.alloc _
            have hrow5 : (W.alloc (.cells #[.string p, .string q] 9)).drew.ownsRow w2.heap.size 9 1 v (chgs pre).length ((chgs pre).map Value.string) := hrow.alloc _
            have hk5 : KeepsOthers W (W.alloc (.cells #[.string p, .string q] 9)).drew := (KeepsOthers.alloc W (.cells #[.string p, .string q] 9)).trans (KeepsOthers.drew _)
            have hb5 : Below w2.heap.size W (W.alloc (.cells #[.string p, .string q] 9)).drew := ((Below.refl w2.heap.size W).alloc hB1.size (.cells #[.string p, .string q] 9)).drew
            have hs5 : (W.alloc (.cells #[.string p, .string q] 9)).drew.heap.size = W.heap.size + 1 := World.size_alloc _ _
            have h50 : (W.alloc (.cells #[.string p, .string q] 9)).drew.cell? ⟨W.heap.size, 0, none⟩ = some (.string p) := by simp [go_sem]
            have h51 : (W.alloc (.cells #[.string p, .string q] 9)).drew.cell? ⟨W.heap.size, 1, none⟩ = some (.string q) := by simp [go_sem]
            refine hK.out _ _ ⟨hX5.cell1, hY5.cell1⟩ (fun hHeld5 => ?_)
            clear hK K hHeld hc1 hc2 hc3 hc4 hcv
            generalize (W.alloc (.cells #[.string p, .string q] 9)).drew = W5 at hv5 hA5 hB5 hX5 hY5 hrow5 hk5 hb5 hs5 h50 h51 hHeld5 ⊢
            have hcv := hv5.cell
            try simp only [Act.put, List.setIfInBounds_toArray, List.set_cons_zero, List.set_cons_succ]
            refine wpAnyH_ready (rs := [0, 6]) (by kernel_rfl) (by simp) ?_
            refine AllReadyH.cons rfl (fun K hK => ?_) (AllReadyH.cons rfl (fun K hK => ?_) AllReadyH.nil)
            · go_simp
              refine hK.out _ _ (by assumption) (fun _ => ?_)
              clear hK K
              try simp only [Act.put, List.setIfInBounds_toArray, List.set_cons_zero, List.set_cons_succ]
              refine wpAnyH_ready (rs := [6]) (by kernel_rfl) (by simp) ?_
              refine AllReadyH.cons rfl (fun K hK => ?_) AllReadyH.nil
              go_simp
              refine (or_any p q W.heap.size W5 h50 h51).mono ?_
              rintro e W5 ⟨rfl, rfl⟩
              dsimp only
              refine hK.out _ _ (by assumption) (fun _ => ?_)
              clear hK K
              try simp only [Act.put, List.setIfInBounds_toArray, List.set_cons_zero, List.set_cons_succ]
              refine wpAnyH_ready (rs := [7]) (by kernel_rfl) (by simp) ?_
              refine AllReadyH.cons rfl (fun K hK => ?_) AllReadyH.nil
              go_simp
              refine hK.out _ _ ⟨(hX5.alloc _).cell1, (hY5.alloc _).cell1⟩ (fun hHeld6 => ?_)
              clear hK K
              have hcv := (hv5.alloc (.cells #[.string (orS p q)] 9)).cell
              try simp only [Act.put, List.setIfInBounds_toArray, List.set_cons_zero, List.set_cons_succ]
              refine wpAnyH_ready (rs := [8]) (by kernel_rfl) (by simp) ?_
              refine AllReadyH.cons rfl (fun K hK => ?_) AllReadyH.nil
              rw [if_pos (by rfl)]
              have hpl := chgs_length pre
              have hl12 := hl1.out
              have hl22 := hl2.out
              refine wp_append_own2 _ _ 28 rfl w2.heap.size 9 i0 (.string .empty) 1 16 underStrs hi hz0 hz1 hz2 rfl (by decide) _ _ _ rfl (hrow5.alloc _) ⟨W.heap.size + 1, 0, none⟩ 1 1 [.string (orS p q)] rfl rfl (by rw [← hs5]; exact cell_one_new _ _ _) (by simp [Value.oneCell']) (by unfold maxLen; omega) (by omega) (by have := hB1.size; simp; omega) ?_
              intro v' w1 hown' hgrow _
              obtain ⟨hv1, hv2, hr2, hk2, hb2⟩ := hv5.appended (by decide) hrow5 (by have := hB1.size; omega) (Nat.le_refl _) hown' hgrow
              have hX1 := (hX5.alloc _).kept hgrow (hX5.not_row hrow5)
              have hY1 := (hY5.alloc _).kept hgrow (hY5.not_row hrow5)
              have hA1 := ((hA5.alloc _).kept hgrow (hA5.not_row (by decide) hrow5)).other (show w2.heap.size + 1 ≠ w2.heap.size by omega) v'
              have hB1' := ((hB5.alloc _).kept hgrow (hB5.not_row (by decide) hrow5)).other (show w2.heap.size + 1 + 1 ≠ w2.heap.size by omega) v'
              have hX2 := hX1.other (hX1.ne hv1) v'
              have hY2 := hY1.other (hY1.ne hv1) v'
              have hc1 := hv1.cell
              have hf1 := hv1.frozen
              obtain ⟨g', cap', rfl⟩ := ownsRow_succ hown'
              refine hK.out _ _ ⟨hX1.cell1, hY1.cell1⟩ (fun _ => ?_)
              clear hK K
              try simp only [Act.put, List.setIfInBounds_toArray, List.set_cons_zero, List.set_cons_succ]
              refine wpAnyH_ready (rs := [9]) (by kernel_rfl) (by simp) ?_
              refine AllReadyH.cons rfl (fun K hK => ?_) AllReadyH.nil
              go_simp
              refine hK.out _ _ ⟨hX2.cell1, hY2.cell1⟩ (fun _ => ?_)
              clear hK K
              refine wpAnyH_done (by kernel_rfl) ?_ _
              gi_wp2_with fail
              have hk := ((hk5.trans hk2).from W0.heap.size)
              exact ⟨hk, ⟨hb5.trans hb2, hA1.trans hA.symm, hB1'.trans hBx.symm⟩, ⟨_, hv2, by rw [chgs_append, chgs_one, show chg ((p, t), (q, u)) = [orS p q] from if_neg HN.out]; simpa using hr2⟩, ⟨hA1, hB1'⟩, (hB1.trans hb5).trans hb2⟩
            · go_simp
              refine (or_any p q W.heap.size W5 h50 h51).mono ?_
              rintro e W5 ⟨rfl, rfl⟩
              dsimp only
              refine hK.out _ _ (by assumption) (fun _ => ?_)
              clear hK K
              try simp only [Act.put, List.setIfInBounds_toArray, List.set_cons_zero, List.set_cons_succ]
              refine wpAnyH_ready (rs := [0, 7]) (by kernel_rfl) (by simp) ?_
              refine AllReadyH.cons rfl (fun K hK => ?_) (AllReadyH.cons rfl (fun K hK => ?_) AllReadyH.nil)
              · go_simp
                refine hK.out _ _ (by assumption) (fun _ => ?_)
                clear hK K
                try simp only [Act.put, List.setIfInBounds_toArray, List.set_cons_zero, List.set_cons_succ]
                refine wpAnyH_ready (rs := [7]) (by kernel_rfl) (by simp) ?_
                refine AllReadyH.cons rfl (fun K hK => ?_) AllReadyH.nil
                go_simp
                refine hK.out _ _ ⟨(hX5.alloc _).cell1, (hY5.alloc _).cell1⟩ (fun hHeld6 => ?_)
                clear hK K
                have hcv := (hv5.alloc (.cells #[.string (orS p q)] 9)).cell
                try simp only [Act.put, List.setIfInBounds_toArray, List.set_cons_zero, List.set_cons_succ]
                refine wpAnyH_ready (rs := [8]) (by kernel_rfl) (by simp) ?_
                refine AllReadyH.cons rfl (fun K hK => ?_) AllReadyH.nil
                rw [if_pos (by rfl)]
                have hpl := chgs_length pre
                have hl12 := hl1.out
                have hl22 := hl2.out
                refine wp_append_own2 _ _ 28 rfl w2.heap.size 9 i0 (.string .empty) 1 16 underStrs hi hz0 hz1 hz2 rfl (by decide) _ _ _ rfl (hrow5.alloc _) ⟨W.heap.size + 1, 0, none⟩ 1 1 [.string (orS p q)] rfl rfl (by rw [← hs5]; exact cell_one_new _ _ _) (by simp [Value.oneCell']) (by unfold maxLen; omega) (by omega) (by have := hB1.size; simp; omega) ?_
                intro v' w1 hown' hgrow _
                obtain ⟨hv1, hv2, hr2, hk2, hb2⟩ := hv5.appended (by decide) hrow5 (by have := hB1.size; omega) (Nat.le_refl _) hown' hgrow
                have hX1 := (hX5.alloc _).kept hgrow (hX5.not_row hrow5)
                have hY1 := (hY5.alloc _).kept hgrow (hY5.not_row hrow5)
                have hA1 := ((hA5.alloc _).kept hgrow (hA5.not_row (by decide) hrow5)).other (show w2.heap.size + 1 ≠ w2.heap.size by omega) v'
                have hB1' := ((hB5.alloc _).kept hgrow (hB5.not_row (by decide) hrow5)).other (show w2.heap.size + 1 + 1 ≠ w2.heap.size by omega) v'
                have hX2 := hX1.other (hX1.ne hv1) v'
                have hY2 := hY1.other (hY1.ne hv1) v'
                have hc1 := hv1.cell
                have hf1 := hv1.frozen
                obtain ⟨g', cap', rfl⟩ := ownsRow_succ hown'
                refine hK.out _ _ ⟨hX1.cell1, hY1.cell1⟩ (fun _ => ?_)
                clear hK K
                try simp only [Act.put, List.setIfInBounds_toArray, List.set_cons_zero, List.set_cons_succ]
                refine wpAnyH_ready (rs := [9]) (by kernel_rfl) (by simp) ?_
                refine AllReadyH.cons rfl (fun K hK => ?_) AllReadyH.nil
                go_simp
                refine hK.out _ _ ⟨hX2.cell1, hY2.cell1⟩ (fun _ => ?_)
                clear hK K
                refine wpAnyH_done (by kernel_rfl) ?_ _
                gi_wp2_with fail
                have hk := ((hk5.trans hk2).from W0.heap.size)
                exact ⟨hk, ⟨hb5.trans hb2, hA1.trans hA.symm, hB1'.trans hBx.symm⟩, ⟨_, hv2, by rw [chgs_append, chgs_one, show chg ((p, t), (q, u)) = [orS p q] from if_neg HN.out]; simpa using hr2⟩, ⟨hA1, hB1'⟩, (hB1.trans hb5).trans hb2⟩
              · go_simp
                refine hK.out _ _ ⟨(hX5.alloc _).cell1, (hY5.alloc _).cell1⟩ (fun hHeld6 => ?_)
                clear hK K
                have hcv := (hv5.alloc (.cells #[.string (orS p q)] 9)).cell
                try simp only [Act.put, List.setIfInBounds_toArray, List.set_cons_zero, List.set_cons_succ]
                refine wpAnyH_ready (rs := [0]) (by kernel_rfl) (by simp) ?_
                refine AllReadyH.cons rfl (fun K hK => ?_) AllReadyH.nil
                go_simp
                refine hK.out _ _ (by assumption) (fun _ => ?_)
                clear hK K
                try simp only [Act.put, List.setIfInBounds_toArray, List.set_cons_zero, List.set_cons_succ]
                refine wpAnyH_ready (rs := [8]) (by kernel_rfl) (by simp) ?_
                refine AllReadyH.cons rfl (fun K hK => ?_) AllReadyH.nil
                rw [if_pos (by rfl)]
                have hpl := chgs_length pre
                have hl12 := hl1.out
                have hl22 := hl2.out
                refine wp_append_own2 _ _ 28 rfl w2.heap.size 9 i0 (.string .empty) 1 16 underStrs hi hz0 hz1 hz2 rfl (by decide) _ _ _ rfl (hrow5.alloc _) ⟨W.heap.size + 1, 0, none⟩ 1 1 [.string (orS p q)] rfl rfl (by rw [← hs5]; exact cell_one_new _ _ _) (by simp [Value.oneCell']) (by unfold maxLen; omega) (by omega) (by have := hB1.size; simp; omega) ?_
                intro v' w1 hown' hgrow _
                obtain ⟨hv1, hv2, hr2, hk2, hb2⟩ := hv5.appended (by decide) hrow5 (by have := hB1.size; omega) (Nat.le_refl _) hown' hgrow
                have hX1 := (hX5.alloc _).kept hgrow (hX5.not_row hrow5)
                have hY1 := (hY5.alloc _).kept hgrow (hY5.not_row hrow5)
                have hA1 := ((hA5.alloc _).kept hgrow (hA5.not_row (by decide) hrow5)).other (show w2.heap.size + 1 ≠ w2.heap.size by omega) v'
                have hB1' := ((hB5.alloc _).kept hgrow (hB5.not_row (by decide) hrow5)).other (show w2.heap.size + 1 + 1 ≠ w2.heap.size by omega) v'
                have hX2 := hX1.other (hX1.ne hv1) v'
                have hY2 := hY1.other (hY1.ne hv1) v'
                have hc1 := hv1.cell
                have hf1 := hv1.frozen
                obtain ⟨g', cap', rfl⟩ := ownsRow_succ hown'
                refine hK.out _ _ ⟨hX1.cell1, hY1.cell1⟩ (fun _ => ?_)
                clear hK K
                try simp only [Act.put, List.setIfInBounds_toArray, List.set_cons_zero, List.set_cons_succ]
                refine wpAnyH_ready (rs := [9]) (by kernel_rfl) (by simp) ?_
                refine AllReadyH.cons rfl (fun K hK => ?_) AllReadyH.nil
                go_simp
                refine hK.out _ _ ⟨hX2.cell1, hY2.cell1⟩ (fun _ => ?_)
                clear hK K
                refine wpAnyH_done (by kernel_rfl) ?_ _
                gi_wp2_with fail
                have hk := ((hk5.trans hk2).from W0.heap.size)
                exact ⟨hk, ⟨hb5.trans hb2, hA1.trans hA.symm, hB1'.trans hBx.symm⟩, ⟨_, hv2, by rw [chgs_append, chgs_one, show chg ((p, t), (q, u)) = [orS p q] from if_neg HN.out]; simpa using hr2⟩, ⟨hA1, hB1'⟩, (hB1.trans hb5).trans hb2⟩
      case done =>
        rintro D ys W hD rfl ⟨⟨v, hv, hrow, -⟩, -, hB1⟩ hK
        have hc := hv.cell
        gi_wp2_with fail
        refine ⟨by simp, .inl ⟨_, _, rfl, run_takeDeferred hK, ?_⟩⟩
        refine ⟨_, results_tmp rfl _ _ _, ?_⟩
        refine ⟨v, rfl, ?_, (hB02.out.trans ((hB1.mono hB02.out.size))).trans ((belowK_b (w := W0) (Nat.le_refl _) W D _ _ hD hK rfl rfl).mono (by have := hB02.out.size; omega))⟩
        rw [HR.out]
        exact World.ownsRow.mono (ownsRow_putObj hrow _ hK rfl) hB02.out.size
      case stop =>
        rintro D c pre W _ _ h _
        exact h.elim
end Go.Proofs.Ytollcckdfehdeaa
