/-
  DrawFindFile, DrawRemoveFile and DrawPutFile: what they leave.
-/
import Derived.Test.YtcjnlmnjjkojeaaMutF
import Derived.Test.YtcjnlmnjjkojeaaRow
import Derived.RegionTactic
namespace Go.Proofs.Ytcjnlmnjjkojeaa
set_option linter.unusedVariables false
open Go.RowKit

/-- what DrawPutFile leaves: a readable list and a file -/
def PutDraw (w : World) (e : Ending) (w' : World) : Prop :=
  ∃ a c fs p t, e = .returned (.tuple #[.slice a (List.length fs) c, .agg #[.string p, .string t]]) ∧ FilesAt w' w'.heap.size a (List.length fs) fs ∧ Short 100 fs ∧ List.length fs ≤ 10 ∧ p.size ≤ 100 ∧ t.size ≤ 100 ∧ Below w.heap.size w w'

/-- what DrawFindFile leaves: a readable list and a path -/
def FindDraw (w : World) (e : Ending) (w' : World) : Prop :=
  ∃ a c fs x, e = .returned (.tuple #[.slice a (List.length fs) c, .string x]) ∧ FilesAt w' w'.heap.size a (List.length fs) fs ∧ Short 100 fs ∧ List.length fs ≤ 10 ∧ x.size ≤ 100 ∧ Below w.heap.size w w'

set_option maxHeartbeats 1000000 in
theorem drawFind_any (a : Option Addr) (n c : Nat) (w : World) (hb : BytesAt w w.heap.size a n) (hn : n ≤ c) (hc : c ≤ maxLen) :
    Calls Try.prog 10 #[.slice a n c] w (FindDraw w) := by
  go_enter Try.func10, Try.ntmps10
  go_wp2_with fail
  refine (open_any a n c w hb hn hc).mono ?_
  rintro e w1 ⟨R, n', c', rfl, hle, hr, hB⟩
  go_wp2_with fail
  refine (files_any hr (by omega)).mono ?_
  rintro e w2 ⟨a2, c2, fs, q2, rfl, hf2, hs2, hl2, hst2⟩
  have hq2 := hst2.hi
  go_wp2_with fail
  refine (mutate_any a2 c2 5 fs hst2.rd (by omega) hf2 (hs2.more (by omega)) hl2 (by omega)).mono ?_
  rintro e w3 ⟨a3, c3, gs, q3, rfl, hf3, hs3, hl3, hst3⟩
  have hq3 := hst3.hi
  go_wp2_with fail
  refine (path_any hst3.rd (by omega)).mono ?_
  rintro e w4 ⟨x, q4, rfl, hx, hst4⟩
  have hf4 := hf3.step hst3.rd hst4
  go_wp2_with fail
  go_ret2
  exact ⟨_, _, gs, x, rfl, hf4, hs3, by omega, by omega, hB.trans (((hst2.trans hst3).trans hst4).toBelow hle hB.size)⟩

set_option maxHeartbeats 1000000 in
theorem drawRemove_any (a : Option Addr) (n c : Nat) (w : World) (hb : BytesAt w w.heap.size a n) (hn : n ≤ c) (hc : c ≤ maxLen) :
    Calls Try.prog 16 #[.slice a n c] w (FindDraw w) := by
  go_enter Try.func16, Try.ntmps16
  go_wp2_with fail
  refine (drawFind_any a n c w hb hn hc).mono ?_
  rintro e w1 ⟨a1, c1, fs, x, rfl, hf, hs, hl, hx, hB⟩
  go_wp2_with fail
  go_ret2
  exact ⟨_, _, fs, x, rfl, hf, hs, hl, hx, hB⟩

theorem BytesAt.in1 {w : World} {a : Option Addr} {n : Nat} (h : BytesAt w w.heap.size a n) (o : Obj) : BytesAt (w.alloc o) (w.alloc o).heap.size a n := fun hn => by
  obtain ⟨b, off, ha, hb, hz⟩ := h hn
  refine ⟨b, off, ha, by simp; omega, fun i hi => ?_⟩
  obtain ⟨z, h0, h1, hc⟩ := hz i hi
  exact ⟨z, h0, h1, (World.cell?_alloc_lt w o ⟨b, off + i, none⟩ hb).trans hc⟩

theorem FilesAt.stepB {w w' : World} {B R n c p q k D m : Nat} {a b : Option Addr} {fs : List Fl} (h : FilesAt w D b m fs) (hD : D ≤ w.heap.size) (hr : Rd w B R a n c p) (hs : Step w w' B R a n c p q k) : FilesAt w' D b m fs :=
  ⟨h.1, fun hm => by
    obtain ⟨g, off, hb, hg, hc⟩ := h.2 hm
    obtain ⟨g', off', hb', _, hc'⟩ := ((h.more hD).step hr hs).2 hm
    rw [hb] at hb'
    cases hb'
    exact ⟨g, off, hb, hg, hc'⟩⟩
theorem FilesAt.off {w : World} {D r m : Nat} {b : Option Addr} {fs : List Fl} (h : FilesAt w D b m fs) (hf : ∀ x, b = some x → x.block ≠ r) (i : Nat) (u : Value) : FilesAt (w.setCell ⟨r, i, none⟩ u) D b m fs :=
  ⟨h.1, fun hm => by
    obtain ⟨g, off, hb, hg, hc⟩ := h.2 hm
    exact ⟨g, off, hb, hg, fun j u hu => (World.cell?_setCell_other w _ _ _ (fun e => hf _ hb (by simp at e; exact e.1.symm))).trans (hc j u hu)⟩⟩
/-- the state between the choices of DrawPutFile: the list, the file in its box at block g -/
structure PutSt (w1 w' : World) (B R : Nat) (a : Option Addr) (n c q g : Nat) (b : Option Addr) (gs : List Fl) (p t : ByteArray) : Prop where
  step : Step w1 w' B R a n c 0 q 100
  files : FilesAt w' g b (List.length gs) gs
  gw : w1.heap.size ≤ g
  box : w'.heap[g]? = some (.cells #[.string p, .string t] 25 (0, 0))
section
variable {w1 w' w'' : World} {B R n c q q' g k : Nat} {a b : Option Addr} {gs : List Fl} {p t s : ByteArray}
theorem PutSt.gl (h : PutSt w1 w' B R a n c q g b gs p t) : g < w'.heap.size := blk_lt h.box
theorem PutSt.gR (h : PutSt w1 w' B R a n c q g b gs p t) : g ≠ R := by have := h.gw; have := h.step.lt; omega
theorem PutSt.stepped (h : PutSt w1 w' B R a n c q g b gs p t) (hs : Step w' w'' B R a n c q q' k) (hq : q' ≤ 100) : PutSt w1 w'' B R a n c q' g b gs p t :=
  ⟨⟨hs.rd, by omega, by omega, grown_trans h.step.grown hs.grown, h.step.lt⟩, h.files.stepB (Nat.le_of_lt h.gl) h.step.rd hs, h.gw, (hs.grown.block g h.gl (fun e => h.gR (by injection e))).trans h.box⟩
theorem PutSt.alloc (h : PutSt w1 w' B R a n c q g b gs p t) (o : Obj) : PutSt w1 (w'.alloc o) B R a n c q g b gs p t :=
  ⟨h.step.alloc o, h.files.alloc (Nat.le_of_lt h.gl) o, h.gw, (Below.heap_alloc w' o g h.gl).trans h.box⟩
theorem PutSt.set0 (h : PutSt w1 w' B R a n c q g b gs p t) (s : ByteArray) : PutSt w1 (w'.setCell ⟨g, 0, none⟩ (.string s)) B R a n c q g b gs s t :=
  ⟨h.step.setNew h.gw _, h.files.keep fun i hi => World.cell?_setCell_other w' _ _ _ (by rintro rfl; simp at hi), h.gw, blk_set h.box 0 (.string s)⟩
theorem PutSt.set1 (h : PutSt w1 w' B R a n c q g b gs p t) (s : ByteArray) : PutSt w1 (w'.setCell ⟨g, 1, none⟩ (.string s)) B R a n c q g b gs p s :=
  ⟨h.step.setNew h.gw _, h.files.keep fun i hi => World.cell?_setCell_other w' _ _ _ (by rintro rfl; simp at hi), h.gw, blk_set h.box 1 (.string s)⟩
theorem PutSt.c0 (h : PutSt w1 w' B R a n c q g b gs p t) : w'.cell? ⟨g, 0, none⟩ = some (.string p) := by rw [cell_of_row _ _ _ _ _ _ h.box]; rfl
theorem PutSt.c1 (h : PutSt w1 w' B R a n c q g b gs p t) : w'.cell? ⟨g, 1, none⟩ = some (.string t) := by rw [cell_of_row _ _ _ _ _ _ h.box]; rfl
theorem PutSt.done {w : World} (h : PutSt w1 w' B R a n c q g b gs p t) (hB0 : Below w.heap.size w w1) (hr : w.heap.size < w1.heap.size) (hR : w.heap.size < R) (hfr : ∀ x, b = some x → x.block ≠ w.heap.size) (hp : p.size ≤ 100) (ht : t.size ≤ 100) (hs : Short 100 gs) (hl : gs.length ≤ 10) (d : Nat) (u v : Value) :
    PutDraw w (.returned (.tuple #[.slice b (List.length gs) d, .agg #[.string p, .string t]])) ((w'.setCell ⟨w.heap.size, 0, none⟩ u).setCell ⟨w.heap.size, 1, none⟩ v).drew := by
  have hsz := h.step.grown.size
  refine ⟨b, d, gs, p, t, rfl, (((h.files.off hfr 0 u).off hfr 1 v).more ?_).drew, hs, hl, hp, ht, ?_⟩
  · have := h.gl; simp [World.setCell]; omega
  · have h1 : Below w.heap.size w1 w' := h.step.toBelow (Nat.le_of_lt hR) (Nat.le_of_lt hr)
    exact (((hB0.trans h1).setCell (Nat.le_refl _) u).setCell (Nat.le_refl _) v).drew
theorem PutSt.fz (h : PutSt w1 w' B R a n c q g b gs p t) (i : Nat) : w'.frozen? ⟨g, i, none⟩ = false := blk_frozen h.box i
end

set_option maxHeartbeats 2000000 in
theorem drawPut_any (a : Option Addr) (n c : Nat) (w : World) (hb : BytesAt w w.heap.size a n) (hn : n ≤ c) (hc : c ≤ maxLen) :
    Calls Try.prog 9 #[.slice a n c] w (PutDraw w) := by
  go_enter Try.func9, Try.ntmps9
  go_wp2_with fail
  refine (open_any a n c _ (hb.in1 _) hn hc).mono ?_
  rintro e w1 ⟨R, n', c', rfl, hle, hr, hB⟩
  have hres : ∀ i, w1.cell? ⟨w.heap.size, i, none⟩ = (#[Value.string .empty, .string .empty] : Array Value)[i]? := fun i =>
    (hB.cell (p := ⟨w.heap.size, i, none⟩) (by simp)).trans (cell_of_row _ _ _ _ _ _ (heap_alloc_new w _))
  have hB0 : Below w.heap.size w w1 := ((Below.refl _ _).alloc (Nat.le_refl _) _).trans (hB.mono (by simp))
  simp only [World.size_alloc] at hle hr
  have hw1 := hr.lt
  go_wp2_with fail
  refine (files_any hr (by omega)).mono ?_
  rintro e w2 ⟨a2, c2, fs, q2, rfl, hf2, hs2, hl2, hst2⟩
  have hq2 := hst2.hi
  go_wp2_with fail
  refine (mutate_new a2 c2 5 fs hst2.rd (by omega) hf2 (hs2.more (by omega)) hl2 (by omega)).mono ?_
  rintro e w3 ⟨a3, c3, gs, q3, rfl, hf3, hs3, hl3, hst3, hfr3⟩
  have hfr : ∀ x, a3 = some x → x.block ≠ w.heap.size := fun x e => by have h1 := hfr3 x e; have h2 := hst2.grown.size; omega
  clear hfr3
  have hst03 := hst2.trans hst3
  have hq3 := hst03.hi
  clear hst2 hq2 hf2
  go_wp2_with fail
  refine (path_any hst3.rd (by omega)).mono ?_
  rintro e w4 ⟨p, q4, rfl, hp, hst4⟩
  have hf4 := hf3.step hst3.rd hst4
  have hst04 := hst03.trans hst4
  have hq4 := hst04.hi
  clear hst03 hq3 hf3 hst3
  go_wp2_with fail
  refine (text_any hst4.rd (by omega)).mono ?_
  rintro e w5 ⟨t, q5, rfl, ht, hst5⟩
  have hf5 := hf4.step hst4.rd hst5
  have hst05 := hst04.trans hst5
  have hq5 := hst05.hi
  clear hst04 hq4 hf4 hst4
  have hr5 := hst05.rd
  have hl5 := hst05.grown.size
  go_wp2_with fail
  refine (pick_step (m := 12) (hr5.alloc _) (by omega) (by omega)).mono ?_
  rintro e w6 ⟨⟨x, rfl, _, _⟩, hst6⟩
  have hp5 : PutSt w1 (w5.alloc (.cells #[.string p, .string t] 25)) (w.heap.size + 1) R a n' c' q5 w5.heap.size a3 gs p t :=
    ⟨⟨(hst05.alloc _).rd, by omega, by omega, (hst05.alloc _).grown, hst05.lt⟩, hf5.alloc (Nat.le_refl _) _, hl5, heap_alloc_new w5 _⟩
  have hP := hp5.stepped hst6 (by omega)
  clear hp5 hst6 hst05 hst5 hf5
  have hres0 : w1.cell? ⟨w.heap.size, 0, none⟩ = some (.string .empty) := hres 0
  have hres1 : w1.cell? ⟨w.heap.size, 1, none⟩ = some (.string .empty) := hres 1
  have hresf : ∀ i, w1.frozen? ⟨w.heap.size, i, none⟩ = false := fun i => (hB.frozen (p := ⟨w.heap.size, i, none⟩) (by simp)).trans (blk_frozen (heap_alloc_new w _) i)
  have hw1' : w.heap.size < w1.heap.size := by omega
  have hle' : w.heap.size < R := by omega
  clear hres
  by_cases x0 : x = 0
  · subst x0
    have f0 := hP.fz 0
    have c0 := hP.c0
    go_wp2_with fail
    refine (of_new (fun s => s.size ≤ 100) 3 hP.step.rd (by have := hP.step.hi; omega) (by omega) (by omega) rfl ?_).mono ?_
    · simp; decide
    rintro e w7 ⟨⟨s, rfl, hs⟩, hst7⟩
    have hP7 := (hP.alloc _).stepped hst7 (by omega)
    have f7 := hP7.fz 0
    have c7 := hP7.c0
    have hP8 := hP7.set0 s
    clear f0 c0 hP hst7
    go_wp2_with fail
    refine (pick_step (m := 12) hP8.step.rd (by have := hP8.step.hi; omega) (by omega)).mono ?_
    rintro e w9 ⟨⟨y, rfl, _, _⟩, hst9⟩
    have hQ := hP8.stepped hst9 (by omega)
    have c0 := hQ.c0
    have c1 := hQ.c1
    have f1 := hQ.fz 1
    have hz0 := (hQ.step.cell (i := ⟨w.heap.size, 0, none⟩) hw1' (by simp; omega)).trans hres0
    have hz1 := (hQ.step.cell (i := ⟨w.heap.size, 1, none⟩) hw1' (by simp; omega)).trans hres1
    have hzf := fun i => (World.frozen?_of_block (a := ⟨w.heap.size, i, none⟩) (hQ.step.grown.block w.heap.size hw1' (fun e => by injection e; omega))).trans (hresf i)
    have hzf0 := hzf 0
    have hzf1 := hzf 1
    have hgne : w5.heap.size ≠ w.heap.size := by omega
    have hgne' : w.heap.size ≠ w5.heap.size := by omega
    clear hst9 hzf
    by_cases y0 : y = 0
    · subst y0
      go_wp2_with fail
      go_region
      all_goals go_wp2_with fail
      · refine bodyPost_ret (v := .tuple #[.slice a3 gs.length c3, .agg #[.string s, .string ⟨#[10]⟩]]) (by simp [results, Try.results9, go_sem, hz0, hz1]) rfl ?_
        exact (hQ.set1 ⟨#[10]⟩).done hB0 hw1' hle' hfr (by omega) (by decide) hs3 (by omega) _ _ _
    · have hy : ((y : Int) == 0) = false := by rw [beq_eq_false_iff_ne]; omega
      go_wp2_with fail
      go_region
      all_goals go_wp2_with fail
      · refine bodyPost_ret (v := .tuple #[.slice a3 gs.length c3, .agg #[.string s, .string t]]) (by simp [results, Try.results9, go_sem, hz0, hz1]) rfl ?_
        exact hQ.done hB0 hw1' hle' hfr (by omega) (by omega) hs3 (by omega) _ _ _
  · have hx : ((x : Int) == 0) = false := by rw [beq_eq_false_iff_ne]; omega
    go_wp2_with fail
    refine (pick_step (m := 12) hP.step.rd (by have := hP.step.hi; omega) (by omega)).mono ?_
    rintro e w9 ⟨⟨y, rfl, _, _⟩, hst9⟩
    have hQ := hP.stepped hst9 (by omega)
    have c0 := hQ.c0
    have c1 := hQ.c1
    have f1 := hQ.fz 1
    have hz0 := (hQ.step.cell (i := ⟨w.heap.size, 0, none⟩) hw1' (by simp; omega)).trans hres0
    have hz1 := (hQ.step.cell (i := ⟨w.heap.size, 1, none⟩) hw1' (by simp; omega)).trans hres1
    have hzf := fun i => (World.frozen?_of_block (a := ⟨w.heap.size, i, none⟩) (hQ.step.grown.block w.heap.size hw1' (fun e => by injection e; omega))).trans (hresf i)
    have hzf0 := hzf 0
    have hzf1 := hzf 1
    have hgne : w5.heap.size ≠ w.heap.size := by omega
    have hgne' : w.heap.size ≠ w5.heap.size := by omega
    clear hst9 hzf
    by_cases y0 : y = 0
    · subst y0
      go_wp2_with fail
      go_region
      all_goals go_wp2_with fail
      · refine bodyPost_ret (v := .tuple #[.slice a3 gs.length c3, .agg #[.string p, .string ⟨#[10]⟩]]) (by simp [results, Try.results9, go_sem, hz0, hz1]) rfl ?_
        exact (hQ.set1 ⟨#[10]⟩).done hB0 hw1' hle' hfr (by omega) (by decide) hs3 (by omega) _ _ _
    · have hy : ((y : Int) == 0) = false := by rw [beq_eq_false_iff_ne]; omega
      go_wp2_with fail
      go_region
      all_goals go_wp2_with fail
      · refine bodyPost_ret (v := .tuple #[.slice a3 gs.length c3, .agg #[.string p, .string t]]) (by simp [results, Try.results9, go_sem, hz0, hz1]) rfl ?_
        exact hQ.done hB0 hw1' hle' hfr (by omega) (by omega) hs3 (by omega) _ _ _
end Go.Proofs.Ytcjnlmnjjkojeaa
