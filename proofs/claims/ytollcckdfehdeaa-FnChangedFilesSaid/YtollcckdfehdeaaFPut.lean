/-
  What the model's l1Put answers: a list of files with one put in.
-/
import Derived.Test.YtollcckdfehdeaaProg
import Derived.Test.YtollcckdfehdeaaFiles
import Derived.Deep.QuietTactic
import Derived.BigQuiet
import Derived.Maps.AppendAt
import Derived.OwnWalk
import Derived.Deep.Onto
namespace Go.Proofs.Ytollcckdfehdeaa
set_option linter.unusedVariables false
open Go.RowKit

/-- one round of l1Put -/
def putStep (f : Fl) (s : List Fl × Bool) (x : Fl) : List Fl × Bool :=
  let s1 := if s.2 = false ∧ sLess x.1 f.1 = false then (s.1 ++ [f], true) else s
  (if x.1 = f.1 then s1.1 else s1.1 ++ [x], s1.2)
def putTo (f : Fl) (fs : List Fl) : List Fl × Bool := fs.foldl (putStep f) ([], false)
def putF (f : Fl) (fs : List Fl) : List Fl := if (putTo f fs).2 = true then (putTo f fs).1 else (putTo f fs).1 ++ [f]
theorem putTo_succ {f : Fl} {fs : List Fl} {k : Nat} {p t : ByteArray} (h : fs[k]? = some (p, t)) : putTo f (fs.take (k + 1)) = putStep f (putTo f (fs.take k)) (p, t) := by
  unfold putTo
  rw [List.take_add_one, h, List.foldl_append]
  rfl
def owed : Bool → Nat | true => 0 | false => 1
theorem putStep_length (f : Fl) (s : List Fl × Bool) (x : Fl) : (putStep f s x).1.length + owed (putStep f s x).2 ≤ s.1.length + owed s.2 + 1 := by
  obtain ⟨l, b⟩ := s
  unfold putStep
  cases b <;> cases sLess x.1 f.1 <;> by_cases h : x.1 = f.1 <;> simp [h, owed]
theorem putTo_owed (f : Fl) (l : List Fl) : ∀ s : List Fl × Bool, (l.foldl (putStep f) s).1.length + owed (l.foldl (putStep f) s).2 ≤ s.1.length + owed s.2 + l.length := by
  induction l with
  | nil => intro s; simp
  | cons x l ih =>
    intro s
    have h1 := ih (putStep f s x)
    have h2 := putStep_length f s x
    simp only [List.foldl_cons, List.length_cons]
    omega
theorem putTo_length (f : Fl) (fs : List Fl) : (putTo f fs).1.length ≤ fs.length + 1 := by
  have := putTo_owed f fs ([], false)
  unfold putTo
  simp [owed] at this ⊢
  omega

theorem fput_info : (Try.prog.info? 49).map (fun i => (i.zero, i.size, i.bytes)) = some (some (.agg #[.string .empty, .string .empty]), 2, 32) := by kernel_rfl

/-- the slice v is the call's own row of the files fs -/
def OwnsF (w : World) (base : Nat) (v : Value) (fs : List Fl) : Prop := w.ownsRow base 49 2 v fs.length (fcells fs)
theorem two_new (w : World) (x y : Value) (t : TypeId) : ∀ j u, [x, y][j]? = some u → (w.alloc (.cells #[x, y] t)).cell? ((⟨w.heap.size, 0, none⟩ : Addr).add j) = some u := by
  intro j u h
  rw [add_none, cell_of_row _ _ _ _ _ _ (heap_alloc_new w _)]
  simpa using h

theorem OwnsF.drewN {w : World} {base : Nat} {v : Value} {fs : List Fl} (h : OwnsF w base v fs) (k : Nat) : OwnsF (w.drewN k) base v fs := h
theorem OwnsF.row {w : World} {base : Nat} {v : Value} {fs : List Fl} (h : OwnsF w base v fs) (k : Nat) (o : Obj) : ((w.drewN k).alloc o).ownsRow base 49 2 v fs.length (fcells fs) := World.ownsRow.alloc (h.drewN k) o
theorem OwnsF.grew {w : World} {base : Nat} {v : Value} {fs : List Fl} {p t : ByteArray} (h : w.ownsRow base 49 2 v (fs.length + 1) (fcells fs ++ [.string p, .string t])) : OwnsF w base v (fs ++ [(p, t)]) := by
  unfold OwnsF
  rw [fcells_append, List.length_append]
  exact h
theorem own_at {w : World} {base e size n : Nat} {v : Value} {xs : List Value} (h : w.ownsRow base e size v n xs) : ∀ k, v.ownBlock = some k → base ≤ k := fun k hk => (h.lt k hk).1

theorem kept_cell {wr w2 : World} {base k : Nat} {v : Value} {fs : List Fl} {o : Obj} {i : Addr} {x : Value} (hown : OwnsF wr base v fs) (hg : ((wr.drewN k).alloc o).grownBy w2 v.ownBlock) (h : wr.cell? i = some x) (hi : i.block < base) : w2.cell? i = some x := by
  have hlt := World.block_lt_of_cell? wr i h
  refine World.grownBy.cell hg ((World.cell?_alloc_lt (wr.drewN k) o i hlt).trans h) (fun e => ?_)
  have := own_at hown _ e.symm
  omega
theorem kept_below {a wr w2 : World} {base k : Nat} {v : Value} {fs : List Fl} {o : Obj} (hB : Below base a wr) (hs : base ≤ wr.heap.size) (hown : OwnsF wr base v fs) (hg : ((wr.drewN k).alloc o).grownBy w2 v.ownBlock) : Below base a w2 :=
  ((below_drewN hB k).alloc hs o).grown hg (by rw [World.size_alloc]; exact Nat.le_succ_of_le hs) (own_at hown)

set_option maxHeartbeats 4000000 in
theorem put_any (a : Option Addr) (n c : Nat) (fs : List Fl) (fp ft : ByteArray) (w : World) (hf : FilesAt w w.heap.size a n fs) (hn : n ≤ 1048576) :
    Calls Try.prog 23 #[.slice a n c, .agg #[.string fp, .string ft]] w fun e w' =>
      ∃ v, e = .returned v ∧ OwnsF w' w.heap.size v (putF (fp, ft) fs) ∧ Below w.heap.size w w' := by
  have hlen := Lib.hid hf.1
  obtain ⟨i0, hi, hz0, hz1, hz2⟩ := info_parts fput_info
  go_enter Try.func23, Try.ntmps23
  go_wp2_with fail
  go_loopw [5, 6, 7] (fun v d i wr => ∃ k : Nat, k ≤ n ∧ i = .int .i64 k ∧ d = .bool (putTo (fp, ft) (fs.take k)).2 ∧ OwnsF wr (w.heap.size + 1) v (putTo (fp, ft) (fs.take k)).1 ∧ Below (w.heap.size + 1) (w.alloc (.cells #[.string fp, .string ft] 49)) wr) (fun _ _ i _ => n - (intOf i).toNat)
  case atStart =>
    refine ⟨0, Nat.zero_le _, rfl, rfl, ?_, (Below.refl _ _).alloc (by simp) _⟩
    have h := World.ownsRow_made (w := w.alloc (.cells #[.string fp, .string ft] 49)) (base := w.heap.size + 1) (e := 49) (size := 2) #[] 0 (by simp) (by unfold maxLen; omega) rfl
    simp only [World.size_alloc] at h
    exact h
  case round =>
    obtain ⟨k, hk, rfl, rfl, hown, hB⟩ := hrel
    have hB0 : Below w.heap.size w wr := ((Below.refl _ _).alloc (Nat.le_refl _) _).trans (hB.mono (by omega))
    have hbs := hB.size
    rw [World.size_alloc] at hbs
    have hF : ∀ i, wr.cell? ⟨w.heap.size, i, none⟩ = (#[Value.string fp, .string ft] : Array Value)[i]? := fun i =>
      (hB.cell (p := ⟨w.heap.size, i, none⟩) (by simp)).trans (cell_of_row _ _ _ _ _ _ (heap_alloc_new w _))
    have hF0 : wr.cell? ⟨w.heap.size, 0, none⟩ = some (.string fp) := hF 0
    have hF1 : wr.cell? ⟨w.heap.size, 1, none⟩ = some (.string ft) := hF 1
    clear hF
    by_cases hlt : k < n
    · obtain ⟨b, off, p, t, rfl, hb, hg, hc1, hc2⟩ := (hf.below hB0).get hlt
      have hk0 : (0 : Int) ≤ (k : Int) := by omega
      have hk1 : (k : Int) < (n : Int) := by omega
      have hln := putTo_length (fp, ft) (fs.take k)
      have hlk : (fs.take k).length ≤ k := List.length_take_le _ _
      have Hg := Lib.hid hg
      have hst := putTo_succ (f := (fp, ft)) hg
      have Hst := Lib.hid hst
      clear hg hst
      generalize putTo (fp, ft) (fs.take k) = s at *
      obtain ⟨l, dn⟩ := s
      cases dn with
      | true =>
        by_cases hpx : p = fp
        · subst hpx
          have hd : (p.toList == p.toList) = true := by simp
          go_wp2_with fail
          go_quiet (fail)
          go_wp2_with fail
          go_quiet (fail)
          go_wp2_with fail
          exact ⟨⟨k + 1, by omega, by go_num, by rw [Hst.out]; simp [putStep], by rw [Hst.out]; simpa [putStep] using hown.drewN _, below_drewN hB _⟩, by simp [intOf]; omega⟩
        · have hd : (p.toList == fp.toList) = false := by rw [sEq]; simpa using hpx
          have Hpx := Lib.hid hpx; clear hpx
          go_wp2_with fail
          go_quiet (fail)
          go_wp2_with fail
          go_quiet (fail)
          go_wp2_with (at_builtin; refine wpList_append_own _ rfl _ _ 23 rfl (w.heap.size + 1) 49 i0 _ 2 32 Try.underlying23 hi hz0 hz1 hz2 rfl (by decide) _ _ _ rfl (hown.row _ _) ⟨wr.heap.size, 0, none⟩ 1 1 [.string p, .string t] rfl rfl (two_new _ _ _ _) (by simp [Value.oneCell']) (by simp only [maxLen]; omega) (by omega) (by simp; omega) ?_; intro v2 w2 hown2 hgrow _)
          exact ⟨⟨k + 1, by omega, by go_num, by rw [Hst.out]; simp [putStep], by rw [Hst.out]; simpa [putStep, Hpx.out] using OwnsF.grew hown2, kept_below hB hbs hown hgrow⟩, by simp [intOf]; omega⟩
      | false =>
        cases hless : Op.bytesLess p.toList fp.toList with
        | true =>
          have Hl := Lib.hid (show sLess p fp = true from hless)
          by_cases hpx : p = fp
          · subst hpx
            have hd : (p.toList == p.toList) = true := by simp
            go_wp2_with fail
            go_quiet (fail)
            go_wp2_with fail
            go_quiet (fail)
            go_wp2_with fail
            exact ⟨⟨k + 1, by omega, by go_num, by rw [Hst.out]; simp [putStep, Hl.out], by rw [Hst.out]; simpa [putStep, Hl.out] using hown.drewN _, below_drewN hB _⟩, by simp [intOf]; omega⟩
          · have hd : (p.toList == fp.toList) = false := by rw [sEq]; simpa using hpx
            have Hpx := Lib.hid hpx; clear hpx
            go_wp2_with fail
            go_quiet (fail)
            go_wp2_with fail
            go_quiet (fail)
            go_wp2_with (at_builtin; refine wpList_append_own _ rfl _ _ 23 rfl (w.heap.size + 1) 49 i0 _ 2 32 Try.underlying23 hi hz0 hz1 hz2 rfl (by decide) _ _ _ rfl (hown.row _ _) ⟨wr.heap.size, 0, none⟩ 1 1 [.string p, .string t] rfl rfl (two_new _ _ _ _) (by simp [Value.oneCell']) (by simp only [maxLen]; omega) (by omega) (by simp; omega) ?_; intro v2 w2 hown2 hgrow _)
            exact ⟨⟨k + 1, by omega, by go_num, by rw [Hst.out]; simp [putStep, Hl.out], by rw [Hst.out]; simpa [putStep, Hpx.out, Hl.out] using OwnsF.grew hown2, kept_below hB hbs hown hgrow⟩, by simp [intOf]; omega⟩
        | false =>
          have Hl := Lib.hid (show sLess p fp = false from hless)
          by_cases hpx : p = fp
          · subst hpx
            have hd : (p.toList == p.toList) = true := by simp
            go_wp2_with fail
            go_quiet (fail)
            go_wp2_with (at_builtin; refine wpList_append_own _ rfl _ _ 23 rfl (w.heap.size + 1) 49 i0 _ 2 32 Try.underlying23 hi hz0 hz1 hz2 rfl (by decide) _ _ _ rfl (hown.row _ _) ⟨wr.heap.size, 0, none⟩ 1 1 [.string p, .string ft] rfl rfl (two_new _ _ _ _) (by simp [Value.oneCell']) (by simp only [maxLen]; omega) (by omega) (by simp; omega) ?_; intro v2 w2 hown2 hgrow _)
            have e1 := kept_cell hown hgrow hc1 (by simp; omega)
            have e2 := kept_cell hown hgrow hc2 (by simp; omega)
            have e3 := kept_cell hown hgrow hF0 (by simp)
            have hB2 := kept_below hB hbs hown hgrow
            have hbs2 := hB2.size
            rw [World.size_alloc] at hbs2
            have own2 := OwnsF.grew hown2
            clear hgrow hown2 hc1 hc2 hF0 hF1 hown
            go_quiet (fail)
            go_wp2_with fail
            exact ⟨⟨k + 1, by omega, by go_num, by rw [Hst.out]; simp [putStep, Hl.out], by rw [Hst.out]; simpa [putStep, Hl.out] using own2.drewN _, below_drewN hB2 _⟩, by simp [intOf]; omega⟩
          · have hd : (p.toList == fp.toList) = false := by rw [sEq]; simpa using hpx
            have Hpx := Lib.hid hpx; clear hpx
            go_wp2_with fail
            go_quiet (fail)
            go_wp2_with (at_builtin; refine wpList_append_own _ rfl _ _ 23 rfl (w.heap.size + 1) 49 i0 _ 2 32 Try.underlying23 hi hz0 hz1 hz2 rfl (by decide) _ _ _ rfl (hown.row _ _) ⟨wr.heap.size, 0, none⟩ 1 1 [.string fp, .string ft] rfl rfl (two_new _ _ _ _) (by simp [Value.oneCell']) (by simp only [maxLen]; omega) (by omega) (by simp; omega) ?_; intro v2 w2 hown2 hgrow _)
            have e1 := kept_cell hown hgrow hc1 (by simp; omega)
            have e2 := kept_cell hown hgrow hc2 (by simp; omega)
            have e3 := kept_cell hown hgrow hF0 (by simp)
            have hB2 := kept_below hB hbs hown hgrow
            have hbs2 := hB2.size
            rw [World.size_alloc] at hbs2
            have own2 := OwnsF.grew hown2
            clear hgrow hown2 hc1 hc2 hF0 hF1 hown
            go_quiet (fail)
            have hln2 : (l ++ [(fp, ft)]).length ≤ n + 2 := by simp; omega
            have Hown2 := Lib.hid own2
            go_wp2_with (at_builtin; refine wpList_append_own _ rfl _ _ 23 rfl (w.heap.size + 1) 49 i0 _ 2 32 Try.underlying23 hi hz0 hz1 hz2 rfl (by decide) _ _ _ rfl (own2.row _ _) ⟨w2.heap.size, 0, none⟩ 1 1 [.string p, .string t] rfl rfl (two_new _ _ _ _) (by simp [Value.oneCell']) (by simp only [maxLen]; omega) (by omega) (by simp; omega) ?_; intro v3 w3 hown3 hgrow3 _)
            exact ⟨⟨k + 1, by omega, by go_num, by rw [Hst.out]; simp [putStep, Hl.out], by rw [Hst.out]; simpa [putStep, Hpx.out, Hl.out] using OwnsF.grew hown3, kept_below hB2 hbs2 own2 hgrow3⟩, by simp [intOf]; omega⟩
    · have e : n = k := by omega
      have Hput : Hid (putTo (fp, ft) (fs.take k) = putTo (fp, ft) fs) := by
        show putTo (fp, ft) (fs.take k) = putTo (fp, ft) fs
        rw [List.take_of_length_le (by have := hlen.out; omega)]
      clear e
      have hln := putTo_length (fp, ft) (fs.take k)
      have hlk : (fs.take k).length ≤ k := List.length_take_le _ _
      generalize putTo (fp, ft) (fs.take k) = s at *
      obtain ⟨l, dn⟩ := s
      cases dn with
      | true =>
        go_wp2_with fail
        go_ret
        exact ⟨_, rfl, by unfold putF; rw [← Hput.out]; exact World.ownsRow.mono hown (by omega), hB0⟩
      | false =>
        have hl9 : l.length ≤ k + 1 := Nat.le_trans hln (by omega)
        go_wp2_with (at_builtin; refine wpList_append_own _ rfl _ _ 23 rfl (w.heap.size + 1) 49 i0 _ 2 32 Try.underlying23 hi hz0 hz1 hz2 rfl (by decide) _ _ _ rfl (World.ownsRow.alloc hown _) ⟨wr.heap.size, 0, none⟩ 1 1 [.string fp, .string ft] rfl rfl (two_new _ _ _ _) (by simp [Value.oneCell']) (by simp only [maxLen]; omega) (by omega) (by simp; omega) ?_; intro v2 w2 hown2 hgrow _)
        go_wp2_with fail
        go_ret
        exact ⟨_, rfl, by unfold putF; rw [← Hput.out]; exact World.ownsRow.mono (OwnsF.grew hown2) (by omega), (hB0.alloc (by omega) _).grown hgrow (by simp; omega) (fun k hk => by have := own_at hown k hk; omega)⟩
theorem row_below {w w' : World} {B base size n g m cap : Nat} {e : TypeId} {xs : List Value} (h : w.ownsRow base e size (.slice (some ⟨g, 0, none⟩) m cap) n xs) (hB : Below B w w') (hb : g < B) : w'.ownsRow base e size (.slice (some ⟨g, 0, none⟩) m cap) n xs := by
  refine ⟨h.1, h.2.imp id ?_⟩
  rintro ⟨g', cap', cur, e1, h1, h2, r⟩
  cases e1
  exact ⟨g, cap, cur, rfl, h1, (hB.block g hb).trans h2, r⟩
theorem row_cells {w : World} {base size n g m cap : Nat} {e : TypeId} {xs : List Value} (h : w.ownsRow base e size (.slice (some ⟨g, 0, none⟩) m cap) n xs) (j : Nat) (u : Value) (hu : xs[j]? = some u) : w.cell? ⟨g, j, none⟩ = some u := by
  have := World.ownsRow.cells h (g := g) rfl j u hu
  rwa [add_none, Nat.zero_add] at this

end Go.Proofs.Ytollcckdfehdeaa
