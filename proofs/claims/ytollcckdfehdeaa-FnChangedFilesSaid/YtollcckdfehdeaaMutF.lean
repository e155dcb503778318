/-
  The drawing function l1Mutate: a copy of a list, sometimes changed in one place.
-/
import Derived.Test.YtollcckdfehdeaaDrawF
import Derived.RangeFuncBox
namespace Go.Proofs.Ytollcckdfehdeaa
set_option linter.unusedVariables false
open Go.RowKit

theorem Short.more {m l : Nat} {fs : List Fl} (h : Short m fs) (hl : m ≤ l) : Short l fs := fun f hf => by have := h f hf; omega
/-- a row of the call's own stays where the reader is asked -/
theorem row_step {w w' : World} {B R n c p q k base e size m : Nat} {a : Option Addr} {v : Value} {xs : List Value} (h : w.ownsRow base e size v m xs) (hR : R < base) (hs : Step w w' B R a n c p q k) : w'.ownsRow base e size v m xs :=
  World.ownsRow.kept h hs.grown (.inr (fun e => by have := (h.lt R e).1; omega))

theorem Short.snoc {m : Nat} {fs : List Fl} {f : Fl} (h : Short m fs) (hf : f.1.size ≤ m ∧ f.2.size ≤ m) : Short m (fs ++ [f]) := fun y hy => by
  rcases List.mem_append.1 hy with hy | hy
  · exact h y hy
  · obtain rfl : y = f := by simpa using hy
    exact hf
theorem Short.set {m k : Nat} {fs : List Fl} {f : Fl} (h : Short m fs) (hf : f.1.size ≤ m ∧ f.2.size ≤ m) : Short m (fs.set k f) := fun y hy => by
  rcases List.mem_or_eq_of_mem_set hy with hy | rfl
  · exact h y hy
  · exact hf

theorem Step.setNew {w w' : World} {B R n c p q k g j : Nat} {a : Option Addr} (h : Step w w' B R a n c p q k) (hg : w.heap.size ≤ g) (u : Value) : Step w (w'.setCell ⟨g, j, none⟩ u) B R a n c p q k := by
  have hR := h.lt
  have hB := h.rd.le
  refine ⟨h.rd.keep (fun i => World.cell?_setCell_other w' _ _ _ (by simp; try omega)) (fun i => World.frozen?_setCell ..) (fun i hi => World.cell?_setCell_other w' _ _ _ (by rintro rfl; simp at hi; omega)), h.lo, h.hi, grown_set h.grown (.inr hg) u, h.lt⟩
theorem Step.grew {w w' w'' : World} {B R n c p q k : Nat} {a : Option Addr} {row : Option Nat} (h : Step w w' B R a n c p q k) (hg : w'.grownBy w'' row) (hr : ∀ g, row = some g → w.heap.size ≤ g ∧ g ≠ R) : Step w w'' B R a n c p q k := by
  have hR := h.lt
  have hB := h.rd.le
  have hs := h.grown.size
  have hblk : ∀ i, i < w.heap.size → w''.heap[i]? = w'.heap[i]? := fun i hi => hg.block i (by omega) (fun e => by have := (hr i e.symm).1; omega)
  have hc : ∀ i : Addr, i.block < w.heap.size → w''.cell? i = w'.cell? i := fun i hi => World.cell?_of_block (hblk i.block hi)
  refine ⟨h.rd.keep (fun i => hc _ hR) (fun i => by simp only [World.frozen?, hblk R hR]) (fun i hi => hc i (by omega)), h.lo, h.hi,
    ⟨hg.os.trans h.grown.os, hg.tape.trans h.grown.tape, hg.output.trans h.grown.output, Nat.le_trans hs hg.size, fun i hi hne => (hblk i hi).trans (h.grown.block i hi hne)⟩, h.lt⟩
theorem OwnsF.files {w : World} {base n c : Nat} {a : Option Addr} {fs : List Fl} (h : OwnsF w base (.slice a n c) fs) : n = fs.length ∧ FilesAt w w.heap.size a fs.length fs := by
  obtain ⟨b, d, e, hf⟩ := h.form
  cases e
  exact ⟨rfl, hf⟩

/-- what l1Mutate leaves: a list of its own -/
def ListNew (w : World) (B R : Nat) (a : Option Addr) (n c p k m l : Nat) (e : Ending) (w' : World) : Prop :=
  ∃ a' c' fs q, e = .returned (.slice a' (List.length fs) c') ∧ FilesAt w' w'.heap.size a' (List.length fs) fs ∧ Short m fs ∧ List.length fs ≤ l ∧ Step w w' B R a n c p q k ∧ ∀ x, a' = some x → w.heap.size ≤ x.block

/-- what l1Mutate leaves: a row of its own -/
def ListOwn (w : World) (B R : Nat) (a : Option Addr) (n c p k m l : Nat) (e : Ending) (w' : World) : Prop :=
  ∃ a' c' fs q, e = .returned (.slice a' (List.length fs) c') ∧ OwnsF w' w.heap.size (.slice a' (List.length fs) c') fs ∧ Short m fs ∧ List.length fs ≤ l ∧ Step w w' B R a n c p q k

set_option maxHeartbeats 4000000 in
theorem mutate_own {n c p B R : Nat} {a : Option Addr} {w : World} (b : Option Addr) (d l : Nat) (fs : List Fl) (h : Rd w B R a n c p) (hp : p ≤ 1000000000) (hf : FilesAt w w.heap.size b fs.length fs) (hsh : Short 100 fs) (hl : fs.length ≤ l) (hl2 : l ≤ 1000) :
    Calls Try.prog 26 #[.pointer (some ⟨R, 0, none⟩), .slice b fs.length d] w fun e w' => ListOwn w B R a n c p 3 100 (l + 1) e w' := by
  have hR := h.lt
  obtain ⟨i0, hi, hz0, hzz1, hzz2⟩ := info_parts fput_info
  have hmade := World.ownsRow_made (w := w) (base := w.heap.size) (e := 49) (size := 2) #[] 0 (Nat.le_refl _) (by unfold maxLen; omega) rfl
  cases b with
  | none =>
    have h0 : fs.length = 0 := by
      rcases Nat.eq_zero_or_pos fs.length with h0 | h0
      · exact h0
      · obtain ⟨_, _, e, _⟩ := hf.2 h0; cases e
    obtain rfl : fs = [] := List.eq_nil_of_length_eq_zero h0
    go_enter Try.func26, Try.ntmps26
    go_wp2
    go_ret
    exact ⟨_, _, [], p, rfl, hmade, fun f hf => by simp at hf, by simp, ((Step.refl h).alloc _).more (by omega)⟩
  | some ad =>
    rcases Nat.eq_zero_or_pos fs.length with h0 | h0
    · obtain rfl : fs = [] := List.eq_nil_of_length_eq_zero h0
      go_enter Try.func26, Try.ntmps26
      go_wp2_with (at_builtin; refine wpList_append_own _ rfl _ _ 23 rfl w.heap.size 49 i0 _ 2 32 Try.underlying23 hi hz0 hzz1 hzz2 rfl (by decide) _ _ _ rfl hmade ad 0 d [] rfl rfl (by simp) (by simp) (by simp only [maxLen]; omega) (by omega) (by simp) ?_; intro v1 w1 hown1 hgrow1 _; obtain ⟨b1, d1, rfl, hf1⟩ := OwnsF.form (fs := []) hown1; have hat1 := own_at hown1; have hB1 := ((Below.refl w.heap.size w).alloc (Nat.le_refl _) _).grown hgrow1 (by simp) (fun k hk => own_at hmade k hk))
      go_ret
      exact ⟨_, _, [], p, rfl, hown1, fun f hf => by simp at hf, by simp, ((Step.refl h).below hB1).more (by omega)⟩
    · have hnews : ∀ (o : Obj) (j : Nat) (u : Value), (fcells fs)[j]? = some u → (w.alloc o).cell? (ad.add j) = some u := by
        intro o j u hu
        obtain ⟨g, off, e, hg, hc⟩ := hf.2 h0
        cases e
        rw [add_none]
        exact (World.cell?_alloc_lt w o ⟨g, off + j, none⟩ hg).trans (hc j u hu)
      have Hlc := Lib.hid (fcells_length fs)
      have hn0 : ((fs.length : Int) == 0) = false := by rw [beq_eq_false_iff_ne]; omega
      go_enter Try.func26, Try.ntmps26
      go_wp2_with (at_builtin; refine wpList_append_own _ rfl _ _ 23 rfl w.heap.size 49 i0 _ 2 32 Try.underlying23 hi hz0 hzz1 hzz2 rfl (by decide) _ _ _ rfl hmade ad fs.length d (fcells fs) rfl Hlc.out (hnews _) (fcells_oneCell fs) (by simp only [maxLen]; omega) (by omega) (by simp) ?_; intro v1 w1 hown1 hgrow1 _; rw [Nat.zero_add, List.nil_append] at hown1; obtain ⟨g, cap, rfl, hg1, hg2⟩ := World.ownsRow.form hown1 h0; have hB1 := ((Below.refl w.heap.size w).alloc (Nat.le_refl _) _).grown hgrow1 (by simp) (fun k hk => own_at hmade k hk); clear hgrow1 hnews)
      have hst1 := (Step.refl h).below hB1
      have Hown1 := Lib.hid hown1
      clear hown1 hmade
      refine (pick_step (m := (fs.length : Int)) hst1.rd (by omega) (by omega)).mono ?_
      rintro e w2 ⟨⟨x, rfl, hxl, _⟩, hst2⟩
      have hx := hxl (by omega)
      clear hxl
      have Hown2 := Lib.hid (row_step Hown1.out hR hst2)
      go_wp2_with fail
      refine (pick_step (m := 30) hst2.rd (by omega) (by omega)).mono ?_
      rintro e w3 ⟨⟨y, rfl, _, _⟩, hst3⟩
      have Hown3 := Lib.hid (row_step Hown2.out hR hst3)
      have hst := (hst1.trans hst2).trans hst3
      clear hst1 hst2 hst3
      have hxn : x < fs.length := by omega
      have Hx : Hid (fs[x]? = some (fs[x].1, fs[x].2)) := List.getElem?_eq_getElem hxn
      generalize fs[x].1 = px at *
      generalize fs[x].2 = tx at *
      by_cases y0 : y = 0
      · subst y0
        go_wp2_with fail
        refine (of_new (fun s => s.size ≤ 100) 5 hst.rd (by have := hst.hi; omega) (by omega) (by omega) rfl ?_).mono ?_
        · simp; decide
        rintro e w4 ⟨⟨s, rfl, hs⟩, hst4⟩
        have hown4 := row_step (World.ownsRow.alloc Hown3.out _) hR hst4
        have Hown4 := Lib.hid hown4
        have hcell := (World.ownsRow.cellAt hown4 (x * 2) (by omega)).trans (fcells_get fs Hx.out).1
        have hfz := World.ownsRow.frozenAt hown4 (x * 2)
        clear hown4
        have hst5 := ((hst.alloc _).trans hst4).setNew (g := g) (j := x * 2) hg1 (.string s)
        go_wp2_with fail
        go_ret
        have h1 := (World.ownsRow.stored Hown4.out (x * 2) (.string s)).1
        rw [← fcells_set1 Hx.out] at h1
        have h2 : OwnsF (w4.setCell ⟨g, x * 2, none⟩ (.string s)) w.heap.size (.slice (some ⟨g, 0, none⟩) fs.length cap) (fs.set x (s, tx)) := by unfold OwnsF; rw [List.length_set]; exact h1
        obtain ⟨hn, hf5⟩ := h2.files
        have hsx := hsh _ (List.mem_of_getElem? Hx.out)
        exact ⟨_, cap, fs.set x (s, tx), _, by rw [← hn]; rfl, by rw [← hn]; exact h2, hsh.set ⟨hs, hsx.2⟩, by rw [List.length_set]; omega, hst5.more (by omega)⟩
      · have hy0 : ((y : Int) == 0) = false := by simp; omega
        by_cases y1 : y = 1
        · subst y1
          have hy0' : ((1 : Int) == 0) = false := rfl
          go_wp2_with fail
          refine (of_new (fun s => s.size ≤ 100) 4 hst.rd (by have := hst.hi; omega) (by omega) (by omega) rfl ?_).mono ?_
          · simp; decide
          rintro e w4 ⟨⟨s, rfl, hs⟩, hst4⟩
          have hown4 := row_step (World.ownsRow.alloc Hown3.out _) hR hst4
          have Hown4 := Lib.hid hown4
          have hcell := (World.ownsRow.cellAt hown4 (x * 2 + 1) (by omega)).trans (fcells_get fs Hx.out).2
          have hfz := World.ownsRow.frozenAt hown4 (x * 2 + 1)
          clear hown4
          have hst5 := ((hst.alloc _).trans hst4).setNew (g := g) (j := x * 2 + 1) hg1 (.string s)
          go_wp2_with fail
          go_ret
          have h1 := (World.ownsRow.stored Hown4.out (x * 2 + 1) (.string s)).1
          rw [← fcells_set2 Hx.out] at h1
          have h2 : OwnsF (w4.setCell ⟨g, x * 2 + 1, none⟩ (.string s)) w.heap.size (.slice (some ⟨g, 0, none⟩) fs.length cap) (fs.set x (px, s)) := by unfold OwnsF; rw [List.length_set]; exact h1
          obtain ⟨hn, hf5⟩ := h2.files
          have hsx := hsh _ (List.mem_of_getElem? Hx.out)
          exact ⟨_, cap, fs.set x (px, s), _, by rw [← hn]; rfl, by rw [← hn]; exact h2, hsh.set ⟨hsx.1, hs⟩, by rw [List.length_set]; omega, hst5.more (by omega)⟩
        · have hy1 : ((y : Int) == 1) = false := by simp; omega
          by_cases y2 : y = 2
          · subst y2
            have hy0' : ((2 : Int) == 0) = false := rfl
            have hy1' : ((2 : Int) == 1) = false := rfl
            have Hz : Hid (fs[0]? = some (fs[0].1, fs[0].2)) := List.getElem?_eq_getElem (by omega)
            generalize fs[0].1 = p0 at *
            generalize fs[0].2 = t0 at *
            have hz1 := (World.ownsRow.cellAt Hown3.out 0 (by omega)).trans (fcells_get fs Hz.out).1
            have hz2 := (World.ownsRow.cellAt Hown3.out 1 (by omega)).trans (fcells_get fs Hz.out).2
            go_wp2_with (at_builtin; refine wpList_append_own _ rfl _ _ 23 rfl w.heap.size 49 i0 _ 2 32 Try.underlying23 hi hz0 hzz1 hzz2 rfl (by decide) _ _ _ rfl (World.ownsRow.alloc Hown3.out _) ⟨w3.heap.size, 0, none⟩ 1 1 [.string p0, .string t0] rfl rfl (two_new _ _ _ _) (by simp [Value.oneCell']) (by simp only [maxLen]; omega) (by omega) (by have := hst.grown.size; simp; omega) ?_; intro v4 w4 hown4 hgrow4 _)
            have hB4 : Below w3.heap.size w3 w4 → True := fun _ => trivial
            have hst4 := (hst.alloc (.cells #[.string p0, .string t0] 49)).grew hgrow4 (fun k e => by injection e with e; rw [← e]; exact ⟨hg1, by show g ≠ R; omega⟩)
            have h1 := OwnsF.grew hown4
            have hat5 := own_at h1
            obtain ⟨b5, c5, rfl, hf5⟩ := h1.form
            have hsx := hsh _ (List.mem_of_getElem? Hz.out)
            clear hgrow4 hown4 hB4
            go_wp2_with fail
            go_ret
            exact ⟨b5, c5, fs ++ [(p0, t0)], _, by rw [show (fs ++ [(p0, t0)]).length = fs.length + 1 from by simp]; rfl, by rw [show (fs ++ [(p0, t0)]).length = fs.length + 1 from by simp] at h1 ⊢; exact h1, hsh.snoc hsx, by simp; omega, hst4.more (by omega)⟩
          · have hy2 : ((y : Int) == 2) = false := by simp; omega
            go_wp2_with fail
            go_ret
            obtain ⟨hn, hf5⟩ := OwnsF.files (fs := fs) Hown3.out
            exact ⟨_, cap, fs, _, rfl, Hown3.out, hsh, by omega, hst.more (by omega)⟩
theorem mutate_new {n c p B R : Nat} {a : Option Addr} {w : World} (b : Option Addr) (d l : Nat) (fs : List Fl) (h : Rd w B R a n c p) (hp : p ≤ 1000000000) (hf : FilesAt w w.heap.size b fs.length fs) (hsh : Short 100 fs) (hl : fs.length ≤ l) (hl2 : l ≤ 1000) :
    Calls Try.prog 26 #[.pointer (some ⟨R, 0, none⟩), .slice b fs.length d] w fun e w' => ListNew w B R a n c p 3 100 (l + 1) e w' :=
  (mutate_own b d l fs h hp hf hsh hl hl2).mono fun _ _ ⟨a', c', gs, q, h1, h2, h3, h4, h5⟩ => ⟨a', c', gs, q, h1, h2.files.2, h3, h4, h5, fun x e => own_at h2 x.block (by rw [e]; rfl)⟩
theorem mutate_any {n c p B R : Nat} {a : Option Addr} {w : World} (b : Option Addr) (d l : Nat) (fs : List Fl) (h : Rd w B R a n c p) (hp : p ≤ 1000000000) (hf : FilesAt w w.heap.size b fs.length fs) (hsh : Short 100 fs) (hl : fs.length ≤ l) (hl2 : l ≤ 1000) :
    Calls Try.prog 26 #[.pointer (some ⟨R, 0, none⟩), .slice b fs.length d] w fun e w' => ListPost w B R a n c p 3 100 (l + 1) e w' :=
  (mutate_new b d l fs h hp hf hsh hl hl2).mono fun _ _ ⟨a', c', gs, q, h1, h2, h3, h4, h5, _⟩ => ⟨a', c', gs, q, h1, h2, h3, h4, h5⟩
end Go.Proofs.Ytollcckdfehdeaa
