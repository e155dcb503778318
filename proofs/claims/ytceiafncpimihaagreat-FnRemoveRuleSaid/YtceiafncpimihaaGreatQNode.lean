/-
  The program's nodes: newText, newOneOperand, newNode.
-/
import Derived.Test.YtceiafncpimihaaGreatGtwo
import Derived.Test.YtceiafncpimihaaGreatQStr
import Derived.Deep.QuietTactic
import Derived.Deep.RegionHeld3
namespace Go.Proofs.YtceiafncpimihaaGreat
set_option linter.unusedVariables false
open Go.RowKit

/-- the type of a node with one operand -/
def oneT (k : Int) : TypeId := if k = 2 then 155 else if k = 5 then 156 else if k = 6 then 157 else 158
/-- the node of an expression whose operands are these values, held in the slice J -/
def nodeV (k : Int) (s : ByteArray) (J : Value) (os : List Value) : Value :=
  if k = 1 then .iface 153 (.agg #[.string s]) else if k = 3 then .iface 133 (.agg #[J]) else if k = 4 then .iface 135 (.agg os.toArray) else .iface (oneT k) (.agg os.toArray)
/-- what a function that makes a node answers -/
def mk? (b : Bool) (v : Value) : Value := if b = true then .tuple #[v, .bool true] else .tuple #[.nilIface, .bool false]

theorem newText_any (s : ByteArray) (m : Nat) (w : World) (hs : s.size ≤ maxLen) :
    Calls Tryz.prog 102 #[.string s, .int .i64 m] w fun e w' => e = .returned (mk? (decide (m = 0) && plainB s) (.iface 153 (.agg #[.string s]))) ∧ w' = w := by
  by_cases hm : m = 0
  · subst hm
    rcases Bool.eq_false_or_eq_true (textB s) with h1 | h1
    · rcases Bool.eq_false_or_eq_true (noQ s.data.toList) with h2 | h2
      · rw [show mk? (decide (0 = 0) && plainB s) (.iface 153 (.agg #[.string s])) = .tuple #[.iface 153 (.agg #[.string s]), .bool true] from by unfold mk? plainB; simp [h1, h2]]
        go_enter Tryz.func102, Tryz.ntmps102
        go_wp2_with fail
        refine (textI_any s _ hs).mono ?_
        rintro e w1 ⟨rfl, rfl⟩
        rw [h1]
        go_wp2_with fail
        refine (quote_any s _).mono ?_
        rintro e w1 ⟨rfl, rfl⟩
        rw [h2]
        go_wp2_with fail
        go_ret2
        exact ⟨rfl, rfl⟩
      · rw [show mk? (decide (0 = 0) && plainB s) (.iface 153 (.agg #[.string s])) = .tuple #[.nilIface, .bool false] from by unfold mk? plainB; simp [h2]]
        go_enter Tryz.func102, Tryz.ntmps102
        go_wp2_with fail
        refine (textI_any s _ hs).mono ?_
        rintro e w1 ⟨rfl, rfl⟩
        rw [h1]
        go_wp2_with fail
        refine (quote_any s _).mono ?_
        rintro e w1 ⟨rfl, rfl⟩
        rw [h2]
        go_wp2_with fail
        go_ret2
        exact ⟨rfl, rfl⟩
    · rw [show mk? (decide (0 = 0) && plainB s) (.iface 153 (.agg #[.string s])) = .tuple #[.nilIface, .bool false] from by unfold mk? plainB; simp [h1]]
      go_enter Tryz.func102, Tryz.ntmps102
      go_wp2_with fail
      refine (textI_any s _ hs).mono ?_
      rintro e w1 ⟨rfl, rfl⟩
      rw [h1]
      go_wp2_with fail
      go_ret2
      exact ⟨rfl, rfl⟩
  · have h1 : ((m : Int) != 0) = true := by simp; omega
    rw [show mk? (decide (m = 0) && plainB s) (.iface 153 (.agg #[.string s])) = .tuple #[.nilIface, .bool false] from by unfold mk?; rw [decide_eq_false hm]; rfl]
    go_enter Tryz.func102, Tryz.ntmps102
    go_wp2_with fail
    go_ret2
    exact ⟨rfl, rfl⟩
theorem newOne_any (k : Int) (op : Value) (w : World) :
    Calls Tryz.prog 103 #[.int .i64 k, .agg #[op]] w fun e w' => e = .returned (mk? (decide (k = 2) || decide (k = 5) || decide (k = 6) || decide (k = 7)) (.iface (oneT k) (.agg #[op]))) ∧ Below w.heap.size w w' := by
  have hB := (Below.refl w.heap.size w).alloc (Nat.le_refl _) (.cells #[op] 138)
  by_cases h2 : k = 2
  · subst h2
    rw [show mk? (decide ((2 : Int) = 2) || decide ((2 : Int) = 5) || decide ((2 : Int) = 6) || decide ((2 : Int) = 7)) (.iface (oneT 2) (.agg #[op])) = .tuple #[.iface 155 (.agg #[op]), .bool true] from rfl]
    go_enter Tryz.func103, Tryz.ntmps103
    go_wp2_with fail
    go_ret2
    exact ⟨rfl, hB⟩
  by_cases h5 : k = 5
  · subst h5
    rw [show mk? (decide ((5 : Int) = 2) || decide ((5 : Int) = 5) || decide ((5 : Int) = 6) || decide ((5 : Int) = 7)) (.iface (oneT 5) (.agg #[op])) = .tuple #[.iface 156 (.agg #[op]), .bool true] from rfl]
    go_enter Tryz.func103, Tryz.ntmps103
    go_wp2_with fail
    go_ret2
    exact ⟨rfl, hB⟩
  by_cases h6 : k = 6
  · subst h6
    rw [show mk? (decide ((6 : Int) = 2) || decide ((6 : Int) = 5) || decide ((6 : Int) = 6) || decide ((6 : Int) = 7)) (.iface (oneT 6) (.agg #[op])) = .tuple #[.iface 157 (.agg #[op]), .bool true] from rfl]
    go_enter Tryz.func103, Tryz.ntmps103
    go_wp2_with fail
    go_ret2
    exact ⟨rfl, hB⟩
  by_cases h7 : k = 7
  · subst h7
    rw [show mk? (decide ((7 : Int) = 2) || decide ((7 : Int) = 5) || decide ((7 : Int) = 6) || decide ((7 : Int) = 7)) (.iface (oneT 7) (.agg #[op])) = .tuple #[.iface 158 (.agg #[op]), .bool true] from rfl]
    go_enter Tryz.func103, Tryz.ntmps103
    go_wp2_with fail
    go_ret2
    exact ⟨rfl, hB⟩
  have e2 : (k == 2) = false := beq_eq_false_iff_ne.2 h2
  have e5 : (k == 5) = false := beq_eq_false_iff_ne.2 h5
  have e6 : (k == 6) = false := beq_eq_false_iff_ne.2 h6
  have e7 : (k == 7) = false := beq_eq_false_iff_ne.2 h7
  rw [show mk? (decide (k = 2) || decide (k = 5) || decide (k = 6) || decide (k = 7)) (.iface (oneT k) (.agg #[op])) = .tuple #[.nilIface, .bool false] from by unfold mk?; rw [decide_eq_false h2, decide_eq_false h5, decide_eq_false h6, decide_eq_false h7]; rfl]
  go_enter Tryz.func103, Tryz.ntmps103
  go_wp2_with fail
  go_ret2
  exact ⟨rfl, hB⟩
/-- values that lie side by side -/
def VsAt (w : World) (a : Option Addr) (os : List Value) : Prop := 0 < os.length → ∃ b off, a = some ⟨b, off, none⟩ ∧ ∀ j v, os[j]? = some v → w.cell? ⟨b, off + j, none⟩ = some v
theorem nE_false' {s : ByteArray} (h : s ≠ .empty) : (s.toList == ([] : List UInt8)) = false := by
  rw [beq_eq_false_iff_ne]
  intro e
  exact h (WideShapes.bytes_inj (by rw [← Lib.toList_data, e]; rfl))

set_option maxHeartbeats 1000000 in
set_option maxRecDepth 100000 in
theorem newNode_any (k : Int) (s : ByteArray) (v : Value) (o : Option Addr) (oc : Nat) (os : List Value) (w : World) (hs : s.size ≤ maxLen) (ho : VsAt w o os) (hif : ∀ v ∈ os, ∃ t x, v = .iface t x) (hl : os.length ≤ maxLen) :
    Calls Tryz.prog 96 #[.agg #[.int .i64 k, .string s, v], .slice o os.length oc] w fun e w' => e = .returned (mk? (nodeB k s os.length) (nodeV k s (.slice o os.length oc) os)) ∧ Below w.heap.size w w' := by
  have hB := (Below.refl w.heap.size w).alloc (Nat.le_refl _) (.cells #[.int .i64 k, .string s, v] 43)
  have Hs := Lib.hid hs
  have hkk : (k == k) = true := by simp
  unfold maxLen at hl
  by_cases h1 : k = 1
  · subst h1
    have hnb : nodeB 1 s os.length = (decide (os.length = 0) && plainB s) := by unfold nodeB kidsB; simp
    rw [hnb]
    have hnv : nodeV 1 s (.slice o os.length oc) os = .iface 153 (.agg #[.string s]) := rfl
    rw [hnv]
    rcases Bool.eq_false_or_eq_true (decide (os.length = 0) && plainB s) with h2 | h2
    · rw [show mk? (decide (os.length = 0) && plainB s) (.iface 153 (.agg #[.string s])) = .tuple #[.iface 153 (.agg #[.string s]), .bool true] from by unfold mk?; rw [h2]; rfl]
      go_enter Tryz.func96, Tryz.ntmps96
      go_wp2_with fail
      refine (newText_any s os.length _ Hs.out).mono ?_
      rintro e w1 ⟨rfl, rfl⟩
      rw [show mk? (decide (os.length = 0) && plainB s) (.iface 153 (.agg #[.string s])) = .tuple #[.iface 153 (.agg #[.string s]), .bool true] from by unfold mk?; rw [h2]; rfl]
      go_wp2_with fail
      go_ret2
      exact ⟨rfl, hB⟩
    · rw [show mk? (decide (os.length = 0) && plainB s) (.iface 153 (.agg #[.string s])) = .tuple #[.nilIface, .bool false] from by unfold mk?; rw [h2]; rfl]
      go_enter Tryz.func96, Tryz.ntmps96
      go_wp2_with fail
      refine (newText_any s os.length _ Hs.out).mono ?_
      rintro e w1 ⟨rfl, rfl⟩
      rw [show mk? (decide (os.length = 0) && plainB s) (.iface 153 (.agg #[.string s])) = .tuple #[.nilIface, .bool false] from by unfold mk?; rw [h2]; rfl]
      go_wp2_with fail
      go_ret2
      exact ⟨rfl, hB⟩
  have e1 : (k == 1) = false := beq_eq_false_iff_ne.2 h1
  by_cases hse : s = .empty
  case neg =>
    have e2 := nE_false' hse
    have hnb : nodeB k s os.length = false := by unfold nodeB; rw [decide_eq_false h1, decide_eq_false hse]; simp
    rw [hnb]
    rw [show ∀ x, mk? false x = .tuple #[.nilIface, .bool false] from fun _ => rfl]
    go_enter Tryz.func96, Tryz.ntmps96
    go_wp2_with fail
    go_ret2
    exact ⟨rfl, hB⟩
  subst hse
  have hnb : nodeB k .empty os.length = kidsB k os.length := by
    unfold nodeB
    rw [show plainB .empty = true from by decide]
    simp
  rw [hnb]
  clear hnb
  have hmk0 : ∀ x, mk? false x = .tuple #[.nilIface, .bool false] := fun _ => rfl
  have hmk1 : ∀ x, mk? true x = .tuple #[x, .bool true] := fun _ => rfl
  by_cases h3 : k = 3
  · subst h3
    by_cases h4 : os.length ≤ 4
    · rw [show kidsB 3 os.length = true from by simp [kidsB, h4], hmk1, show nodeV 3 .empty (.slice o os.length oc) os = .iface 133 (.agg #[.slice o os.length oc]) from rfl]
      clear hmk0 hmk1
      go_enter Tryz.func96, Tryz.ntmps96
      go_wp2_with fail
      go_ret2
      exact ⟨rfl, hB⟩
    · rw [show kidsB 3 os.length = false from by simp [kidsB, h4], hmk0]
      have h5 : ((os.length : Int) == 1) = false := beq_eq_false_iff_ne.2 (by omega)
      clear hmk0 hmk1
      go_enter Tryz.func96, Tryz.ntmps96
      go_wp2_with fail
      go_ret2
      exact ⟨rfl, hB⟩
  have e3 : (k == 3) = false := beq_eq_false_iff_ne.2 h3
  by_cases hk4 : k = 4 ∧ os.length = 4
  · obtain ⟨rfl, hl4⟩ := hk4
    obtain ⟨v0, v1, v2, v3, rfl⟩ : ∃ v0 v1 v2 v3, os = [v0, v1, v2, v3] := by
      match os, hl4 with
      | [v0, v1, v2, v3], _ => exact ⟨v0, v1, v2, v3, rfl⟩
    obtain ⟨t0, x0, rfl⟩ := hif v0 (by simp)
    obtain ⟨t1, x1, rfl⟩ := hif v1 (by simp)
    obtain ⟨t2, x2, rfl⟩ := hif v2 (by simp)
    obtain ⟨t3, x3, rfl⟩ := hif v3 (by simp)
    clear hif
    obtain ⟨b, off, rfl, hc⟩ := ho (by simp)
    have hbl : b < w.heap.size := World.block_lt_of_cell? w ⟨b, off + 0, none⟩ (hc 0 (Value.iface t0 x0) rfl)
    have hal : ∀ j x, [(Value.iface t0 x0), (Value.iface t1 x1), (Value.iface t2 x2), (Value.iface t3 x3)][j]? = some x → (w.alloc (.cells #[.int .i64 4, .string .empty, v] 43)).cell? ⟨b, off + j, none⟩ = some x := fun j x hx => (World.cell?_alloc_lt w _ ⟨b, off + j, none⟩ hbl).trans (hc j x hx)
    have c0 : (w.alloc (.cells #[.int .i64 4, .string .empty, v] 43)).cell? ⟨b, off, none⟩ = some (Value.iface t0 x0) := hal 0 (Value.iface t0 x0) rfl
    have c1 := hal 1 (Value.iface t1 x1) rfl
    have c2 := hal 2 (Value.iface t2 x2) rfl
    have c3 := hal 3 (Value.iface t3 x3) rfl
    clear hc ho hal hbl
    rw [show kidsB 4 [(Value.iface t0 x0), (Value.iface t1 x1), (Value.iface t2 x2), (Value.iface t3 x3)].length = true from by simp [kidsB], hmk1, show nodeV 4 .empty (.slice (some ⟨b, off, none⟩) [(Value.iface t0 x0), (Value.iface t1 x1), (Value.iface t2 x2), (Value.iface t3 x3)].length oc) [(Value.iface t0 x0), (Value.iface t1 x1), (Value.iface t2 x2), (Value.iface t3 x3)] = .iface 135 (.agg #[(Value.iface t0 x0), (Value.iface t1 x1), (Value.iface t2 x2), (Value.iface t3 x3)]) from rfl]
    simp only [List.length_cons, List.length_nil] at hl ⊢
    clear hmk0 hmk1
    go_enter Tryz.func96, Tryz.ntmps96
    go_wp2_with fail
    generalize w.alloc (.cells #[.int .i64 4, .string .empty, v] 43) = w1 at *
    go_quiet (fail)
    go_wp2_with fail
    go_ret2
    exact ⟨rfl, below_drewN hB _⟩
  have e4 : (k == 4) = false ∨ ((os.length : Int) == 4) = false := by
    by_cases hk : k = 4
    · exact .inr (beq_eq_false_iff_ne.2 (fun h => hk4 ⟨hk, by omega⟩))
    · exact .inl (beq_eq_false_iff_ne.2 hk)
  by_cases hl1 : os.length = 1
  · obtain ⟨v0, rfl⟩ : ∃ v0, os = [v0] := by
      match os, hl1 with
      | [v0], _ => exact ⟨v0, rfl⟩
    obtain ⟨t0, x0, rfl⟩ := hif v0 (by simp)
    clear hif
    obtain ⟨b, off, rfl, hc⟩ := ho (by simp)
    have hbl : b < w.heap.size := World.block_lt_of_cell? w ⟨b, off + 0, none⟩ (hc 0 (Value.iface t0 x0) rfl)
    have hbx : (w.alloc (.cells #[.int .i64 k, .string .empty, v] 43)).cell? ⟨w.heap.size, 0, none⟩ = some (.int .i64 k) := by rw [cell_of_row _ _ _ _ _ _ (heap_alloc_new w _)]; rfl
    have c0 : (w.alloc (.cells #[.int .i64 k, .string .empty, v] 43)).cell? ⟨b, off, none⟩ = some (Value.iface t0 x0) := (World.cell?_alloc_lt w _ ⟨b, off, none⟩ hbl).trans (hc 0 (Value.iface t0 x0) rfl)
    clear hc ho hbl
    have hkb : kidsB k [(Value.iface t0 x0)].length = (decide (k = 2) || decide (k = 5) || decide (k = 6) || decide (k = 7)) := by unfold kidsB; simp [h1, h3]
    rw [hkb]
    by_cases hk4 : k = 4
    · subst hk4
      rw [show (decide ((4 : Int) = 2) || decide ((4 : Int) = 5) || decide ((4 : Int) = 6) || decide ((4 : Int) = 7)) = false from by decide, hmk0]
      simp only [List.length_cons, List.length_nil] at hl ⊢
      clear hmk0 hmk1
      go_enter Tryz.func96, Tryz.ntmps96
      go_wp2_with fail
      generalize w.alloc (.cells #[.int .i64 4, .string .empty, v] 43) = w1 at *
      have hbxl := World.block_lt_of_cell? w1 _ hbx
      have hcl := World.block_lt_of_cell? w1 _ c0
      go_region_held3 (fun w' => w'.cell? ⟨w.heap.size, 0, none⟩ = some (.int .i64 4) ∧ w'.cell? ⟨b, off, none⟩ = some (.iface t0 x0)) (first | go_keep | exact ⟨hx2, c02⟩) ((go_at_call 103; refine (newOne_any 4 (Value.iface t0 x0) _).mono ?_; rintro e w2 ⟨rfl, hB1⟩; rw [show mk? (decide ((4 : Int) = 2) || decide ((4 : Int) = 5) || decide ((4 : Int) = 6) || decide ((4 : Int) = 7)) (.iface (oneT 4) (.agg #[(Value.iface t0 x0)])) = .tuple #[.nilIface, .bool false] from rfl]; have hx2 := (hB1.cell (p := ⟨w.heap.size, 0, none⟩) hbxl).trans hbx; have c02 := (hB1.cell (p := ⟨b, off, none⟩) hcl).trans c0; have hBB := hB.drew.trans (hB1.mono hB.drew.size)))
      all_goals (go_wp2_with fail; go_ret2; exact ⟨rfl, hBB⟩)
    · have e4 : (k == 4) = false := beq_eq_false_iff_ne.2 hk4
      rw [show nodeV k .empty (.slice (some ⟨b, off, none⟩) [(Value.iface t0 x0)].length oc) [(Value.iface t0 x0)] = .iface (oneT k) (.agg #[(Value.iface t0 x0)]) from by unfold nodeV; rw [if_neg h1, if_neg h3, if_neg hk4]]
      simp only [List.length_cons, List.length_nil] at hl ⊢
      rcases Bool.eq_false_or_eq_true (decide (k = 2) || decide (k = 5) || decide (k = 6) || decide (k = 7)) with h2 | h2
      · rw [h2, hmk1]
        clear hmk0 hmk1
        go_enter Tryz.func96, Tryz.ntmps96
        go_wp2_with fail
        generalize w.alloc (.cells #[.int .i64 k, .string .empty, v] 43) = w1 at *
        have hbxl := World.block_lt_of_cell? w1 _ hbx
        have hcl := World.block_lt_of_cell? w1 _ c0
        go_region_held3 (fun w' => w'.cell? ⟨w.heap.size, 0, none⟩ = some (.int .i64 k) ∧ w'.cell? ⟨b, off, none⟩ = some (.iface t0 x0)) (first | go_keep | exact ⟨hx2, c02⟩) ((go_at_call 103; refine (newOne_any k (Value.iface t0 x0) _).mono ?_; rintro e w2 ⟨rfl, hB1⟩; rw [show mk? (decide (k = 2) || decide (k = 5) || decide (k = 6) || decide (k = 7)) (.iface (oneT k) (.agg #[(Value.iface t0 x0)])) = .tuple #[.iface (oneT k) (.agg #[(Value.iface t0 x0)]), .bool true] from by rw [h2]; rfl]; have hx2 := (hB1.cell (p := ⟨w.heap.size, 0, none⟩) hbxl).trans hbx; have c02 := (hB1.cell (p := ⟨b, off, none⟩) hcl).trans c0; have hBB := hB.drew.trans (hB1.mono hB.drew.size)))
        all_goals (go_wp2_with fail; go_ret2; exact ⟨rfl, hBB⟩)
      · rw [h2, hmk0]
        clear hmk0 hmk1
        go_enter Tryz.func96, Tryz.ntmps96
        go_wp2_with fail
        generalize w.alloc (.cells #[.int .i64 k, .string .empty, v] 43) = w1 at *
        have hbxl := World.block_lt_of_cell? w1 _ hbx
        have hcl := World.block_lt_of_cell? w1 _ c0
        go_region_held3 (fun w' => w'.cell? ⟨w.heap.size, 0, none⟩ = some (.int .i64 k) ∧ w'.cell? ⟨b, off, none⟩ = some (.iface t0 x0)) (first | go_keep | exact ⟨hx2, c02⟩) ((go_at_call 103; refine (newOne_any k (Value.iface t0 x0) _).mono ?_; rintro e w2 ⟨rfl, hB1⟩; rw [show mk? (decide (k = 2) || decide (k = 5) || decide (k = 6) || decide (k = 7)) (.iface (oneT k) (.agg #[(Value.iface t0 x0)])) = .tuple #[.nilIface, .bool false] from by rw [h2]; rfl]; have hx2 := (hB1.cell (p := ⟨w.heap.size, 0, none⟩) hbxl).trans hbx; have c02 := (hB1.cell (p := ⟨b, off, none⟩) hcl).trans c0; have hBB := hB.drew.trans (hB1.mono hB.drew.size)))
        all_goals (go_wp2_with fail; go_ret2; exact ⟨rfl, hBB⟩)
  · have e5 : ((os.length : Int) == 1) = false := beq_eq_false_iff_ne.2 (by omega)
    rw [show kidsB k os.length = false from by unfold kidsB; rw [decide_eq_false h1, decide_eq_false h3, decide_eq_false hl1]; simp; exact fun x y => hk4 ⟨x, y⟩, hmk0]
    clear hmk0 hmk1
    rcases e4 with e4 | e4
    all_goals go_enter Tryz.func96, Tryz.ntmps96
    all_goals go_wp2_with fail
    all_goals go_ret2
    all_goals exact ⟨rfl, (Below.refl _ _).alloc (Nat.le_refl _) _⟩
end Go.Proofs.YtceiafncpimihaaGreat
