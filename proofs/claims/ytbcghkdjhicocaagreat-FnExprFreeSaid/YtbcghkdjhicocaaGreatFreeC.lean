/-
  The program's methods 'combine'.
-/
import Derived.Test.YtbcghkdjhicocaaGreatFreeM
import Derived.Test.YtbcghkdjhicocaaGreatLays
import Derived.Test.YtbcghkdjhicocaaGreatMeth
import Derived.Deep.QuietTactic
import Derived.Laws.Concat
namespace Go.Proofs.YtbcghkdjhicocaaGreat
set_option linter.unusedVariables false
open Go.RowKit

/-- strings that lie side by side -/
def StAt (w : World) (a : Option Addr) (xs : List ByteArray) : Prop := 0 < xs.length → ∃ b off, a = some ⟨b, off, none⟩ ∧ b < w.heap.size ∧ ∀ j x, xs[j]? = some x → w.cell? ⟨b, off + j, none⟩ = some (.string x)
/-- what 'combine' leaves -/
def CbP (r : Option ByteArray) (w : World) (e : Ending) (w' : World) : Prop := e = .returned (resV r) ∧ Below w.heap.size w w'
theorem inter_nil : ∀ l : List (List UInt8), Lib.join l [] = l.flatten
  | [] => rfl
  | [a] => by simp [Lib.join]
  | a :: b :: l => by
    have ih := inter_nil (b :: l)
    unfold Lib.join at ih ⊢
    rw [List.intercalate_cons_cons, ih]
    simp
theorem cat_flat (xs : List ByteArray) : (catS xs).data.toList = (xs.map (·.data.toList)).flatten := by
  induction xs with
  | nil => rfl
  | cons x xs ih => simp only [catS, List.map_cons, List.flatten_cons, ByteArray.data_append, Array.toList_append, ih]
theorem cat_join (xs : List ByteArray) : (catS xs).data.toList = Lib.join (xs.map (·.data.toList)) [] := by rw [inter_nil, cat_flat]
theorem cat_len {xs : List ByteArray} (h : ∀ y ∈ xs, y.size ≤ 60) : (catS xs).size ≤ 60 * xs.length := by
  induction xs with
  | nil => exact Nat.le_refl _
  | cons x xs ih =>
    have h1 := h x (by simp)
    have h2 := ih fun y hy => h y (by simp [hy])
    simp only [catS, ByteArray.size_append, List.length_cons]
    omega

theorem cb_text (s : ByteArray) (v : Value) (w : World) : Calls Tryz.prog 76 #[.agg #[.string s], v] w (CbP (some s) w) := by
  have hB := (Below.refl w.heap.size w).alloc (Nat.le_refl _) (.cells #[.string s] 72)
  go_enter Tryz.func76, Tryz.ntmps76
  go_wp2_with fail
  go_ret2
  exact ⟨rfl, hB⟩
theorem cb_read (x v : Value) (w : World) : Calls Tryz.prog 73 #[.agg #[x], v] w (CbP none w) := by
  go_enter Tryz.func73, Tryz.ntmps73
  go_wp2_with fail
  go_ret2
  exact ⟨rfl, by first | exact Below.refl _ _ | exact (Below.refl _ _).alloc (Nat.le_refl _) _⟩

set_option maxHeartbeats 400000 in
theorem cb_join (x : Value) (xs : List ByteArray) (ra : Option Addr) (rc : Nat) (w : World) (h : StAt w ra xs) (hc : xs.length ≤ rc) (hl : xs.length ≤ 20) (hs : ∀ y ∈ xs, y.size ≤ 60) :
    Calls Tryz.prog 80 #[.agg #[x], .slice ra xs.length rc] w (CbP (comb 3 xs) w) := by
  have hlen := cat_len hs
  have hj : ∀ w' : World, Below w.heap.size w w' → Calls Tryz.prog 84 #[.slice ra xs.length rc, .string .empty] w' fun e w'' => e = .returned (.string (catS xs)) ∧ Below w'.heap.size w' w'' := fun w' hB => by
    have he : (⟨(Lib.join (xs.map (·.data.toList)) (ByteArray.empty).data.toList).toArray⟩ : ByteArray) = catS xs := WideShapes.bytes_inj (by rw [cat_join]; simp)
    rcases Nat.eq_zero_or_pos xs.length with h0 | h0
    · have hx : xs = [] := List.eq_nil_of_length_eq_zero h0
      subst hx
      exact (join_none ra rc .empty w').mono fun e w'' ⟨h1, h2⟩ => ⟨h1, h2 ▸ Below.refl _ _⟩
    · obtain ⟨b, off, rfl, hb, hcs⟩ := h h0
      have hjl : (Lib.join (xs.map (·.data.toList)) (ByteArray.empty).data.toList).length ≤ 140737488355328 := by
        have h1 := cat_join xs
        have h2 : (catS xs).data.toList.length = (catS xs).size := by rw [Array.length_toList]; rfl
        rw [h1] at h2
        show (Lib.join (xs.map (·.data.toList)) []).length ≤ _
        omega
      refine (join_any b off rc xs .empty w' (fun j y hy => (hB.cell (p := ⟨b, off + j, none⟩) hb).trans (hcs j y hy)) (Nat.lt_of_lt_of_le hb hB.size) (by omega) hc hjl).mono fun e w'' ⟨h1, h2⟩ => ⟨by rw [h1, he], h2⟩
  by_cases hsz : (catS xs).size ≤ 60
  · have hcb : comb 3 xs = some (catS xs) := by unfold comb; rw [if_pos rfl, if_pos hsz]
    rw [hcb]
    have Hj := Lib.hid hj
    clear h hc hs hj hcb
    go_enter Tryz.func80, Tryz.ntmps80
    go_wp2_with fail
    refine (Hj.out _ (by first | exact Below.refl _ _ | exact (Below.refl _ _).alloc (Nat.le_refl _) _)).mono ?_
    rintro e w1 ⟨rfl, hB1⟩
    have HB := Lib.hid hB1
    clear hB1
    go_wp2_with fail
    go_ret2
    exact ⟨rfl, by first | exact HB.out | exact ((Below.refl _ _).alloc (Nat.le_refl _) _).trans (HB.out.mono (by simp))⟩
  · have hcb : comb 3 xs = none := by unfold comb; rw [if_pos rfl, if_neg hsz]
    rw [hcb]
    have Hj := Lib.hid hj
    clear h hc hs hj hcb
    go_enter Tryz.func80, Tryz.ntmps80
    go_wp2_with fail
    refine (Hj.out _ (by first | exact Below.refl _ _ | exact (Below.refl _ _).alloc (Nat.le_refl _) _)).mono ?_
    rintro e w1 ⟨rfl, hB1⟩
    have HB := Lib.hid hB1
    clear hB1
    go_wp2_with fail
    go_ret2
    exact ⟨rfl, by first | exact HB.out | exact ((Below.refl _ _).alloc (Nat.le_refl _) _).trans (HB.out.mono (by simp))⟩

theorem sEq' (a b : ByteArray) : (a.toList == b.toList) = decide (a = b) := sEq a b
set_option maxRecDepth 100000 in
set_option maxHeartbeats 400000 in
theorem cb_same (v0 v1 v2 v3 : Value) (y0 y1 y2 y3 : ByteArray) (ra : Option Addr) (rc : Nat) (w : World) (h : StAt w ra [y0, y1, y2, y3]) :
    Calls Tryz.prog 92 #[.agg #[v0, v1, v2, v3], .slice ra 4 rc] w (CbP (comb 4 [y0, y1, y2, y3]) w) := by
  obtain ⟨b, off, rfl, hb, hc⟩ := h (by simp)
  have c0 : w.cell? ⟨b, off, none⟩ = some (.string y0) := hc 0 y0 rfl
  have c1 := hc 1 y1 rfl
  have c2 := hc 2 y2 rfl
  have c3 := hc 3 y3 rfl
  clear hc h
  by_cases he : y0 = y1
  · subst he
    have hcb : comb 4 [y0, y0, y2, y3] = some y2 := by unfold comb; simp
    rw [hcb]
    have hd : (y0.toList == y0.toList) = true := by simp
    clear hcb
    go_enter Tryz.func92, Tryz.ntmps92
    go_wp2_with fail
    go_quiet (fail)
    go_wp2_with fail
    go_ret2
    exact ⟨rfl, below_drewN ((Below.refl _ _).alloc (Nat.le_refl _) _) _⟩
  · have hcb : comb 4 [y0, y1, y2, y3] = some y3 := by unfold comb; simp [he]
    rw [hcb]
    have hd : (y0.toList == y1.toList) = false := by rw [sEq]; exact decide_eq_false he
    clear hcb he
    go_enter Tryz.func92, Tryz.ntmps92
    go_wp2_with fail
    go_quiet (fail)
    go_wp2_with fail
    go_ret2
    exact ⟨rfl, below_drewN ((Below.refl _ _).alloc (Nat.le_refl _) _) _⟩
theorem cb_count (v : Value) (y : ByteArray) (ra : Option Addr) (rc : Nat) (w : World) (h : StAt w ra [y]) (hy : y.size ≤ 60) :
    Calls Tryz.prog 102 #[.agg #[v], .slice ra 1 rc] w (CbP (comb 7 [y]) w) := by
  obtain ⟨b, off, rfl, hb, hc⟩ := h (by simp)
  have c0 : w.cell? ⟨b, off, none⟩ = some (.string y) := hc 0 y rfl
  clear hc h
  have hcb : comb 7 [y] = some ⟨(Lib.decDigits y.size).toArray⟩ := by unfold comb; simp
  rw [hcb]
  clear hcb
  go_enter Tryz.func102, Tryz.ntmps102
  go_wp2_with fail
  refine (itoa_any y.size (by omega) _).mono ?_
  rintro e w1 ⟨rfl, rfl⟩
  go_wp2_with fail
  go_ret2
  exact ⟨rfl, by first | exact Below.refl _ _ | exact (Below.refl _ _).alloc (Nat.le_refl _) _⟩

set_option maxHeartbeats 400000 in
theorem cb_first (v : Value) (y : ByteArray) (ra : Option Addr) (rc : Nat) (w : World) (h : StAt w ra [y]) (hy : y.size ≤ 60) :
    Calls Tryz.prog 96 #[.agg #[v], .slice ra 1 rc] w (CbP (comb 5 [y]) w) := by
  obtain ⟨b, off, rfl, hb, hc⟩ := h (by simp)
  have c0 : w.cell? ⟨b, off, none⟩ = some (.string y) := hc 0 y rfl
  clear hc h
  have hcb : comb 5 [y] = some (y.extract 0 (min 1 y.size)) := by unfold comb; simp
  rw [hcb]
  clear hcb
  by_cases h0 : y.size = 0
  · obtain rfl : y = .empty := ByteArray.size_eq_zero_iff.1 h0
    rw [show (ByteArray.empty.extract 0 (min 1 ByteArray.empty.size)) = .empty from rfl]
    have hm : min (1 : Int) 0 = 0 := rfl
    have hsl := fun W => run_slice_string_h (P := Tryz.prog) W 9 .empty Tryz.underlying9 .i64 0 (by omega) (by simp)
    clear h0 hy
    go_enter Tryz.func96, Tryz.ntmps96
    go_wp2_with fail
    go_quiet (fail)
    go_wp2_with fail
    go_ret2
    exact ⟨rfl, below_drewN ((Below.refl _ _).alloc (Nat.le_refl _) _) _⟩
  · rw [show min 1 y.size = 1 from by omega]
    have h1 : 1 ≤ y.size := by omega
    have hm : min (1 : Int) (y.size : Int) = 1 := by omega
    have hsl := fun W => run_slice_string_h (P := Tryz.prog) W 9 y Tryz.underlying9 .i64 1 (by omega) (by omega)
    clear h0
    go_enter Tryz.func96, Tryz.ntmps96
    go_wp2_with fail
    go_quiet (fail)
    go_wp2_with fail
    go_ret2
    exact ⟨rfl, below_drewN ((Below.refl _ _).alloc (Nat.le_refl _) _) _⟩

set_option maxHeartbeats 400000 in
theorem cb_rest (v : Value) (y : ByteArray) (ra : Option Addr) (rc : Nat) (w : World) (h : StAt w ra [y]) (hy : y.size ≤ 60) :
    Calls Tryz.prog 99 #[.agg #[v], .slice ra 1 rc] w (CbP (comb 6 [y]) w) := by
  obtain ⟨b, off, rfl, hb, hc⟩ := h (by simp)
  have c0 : w.cell? ⟨b, off, none⟩ = some (.string y) := hc 0 y rfl
  clear hc h
  have hcb : comb 6 [y] = some (y.extract (min 1 y.size) y.size) := by unfold comb; simp
  rw [hcb]
  clear hcb
  by_cases h0 : y.size = 0
  · obtain rfl : y = .empty := ByteArray.size_eq_zero_iff.1 h0
    rw [show (ByteArray.empty.extract (min 1 ByteArray.empty.size) ByteArray.empty.size) = .empty from rfl]
    have hm : min (1 : Int) 0 = 0 := rfl
    have hsl := fun W => run_slice_string_l (P := Tryz.prog) W 9 .empty Tryz.underlying9 .i64 0 (by omega) (by simp)
    clear h0 hy
    go_enter Tryz.func99, Tryz.ntmps99
    go_wp2_with fail
    go_quiet (fail)
    go_wp2_with fail
    go_ret2
    exact ⟨rfl, below_drewN ((Below.refl _ _).alloc (Nat.le_refl _) _) _⟩
  · rw [show min 1 y.size = 1 from by omega]
    have h1 : 1 ≤ y.size := by omega
    have hm : min (1 : Int) (y.size : Int) = 1 := by omega
    have hsl := fun W => run_slice_string_l (P := Tryz.prog) W 9 y Tryz.underlying9 .i64 1 (by omega) (by omega)
    clear h0
    go_enter Tryz.func99, Tryz.ntmps99
    go_wp2_with fail
    go_quiet (fail)
    go_wp2_with fail
    go_ret2
    exact ⟨rfl, below_drewN ((Below.refl _ _).alloc (Nat.le_refl _) _) _⟩
end Go.Proofs.YtbcghkdjhicocaaGreat
