/-
  DrawFindFile, DrawRemoveFile and DrawPutFile: what they leave.
-/
import Derived.Test.YtollcckdfehdeaaMutF
import Derived.Test.YtollcckdfehdeaaLawTools
import Derived.RegionTactic
namespace Go.Proofs.Ytollcckdfehdeaa
set_option linter.unusedVariables false
open Go.RowKit

/-- what DrawPutFile leaves: a readable list and a file -/
def PutDraw (w : World) (e : Ending) (w' : World) : Prop :=
  ∃ a c fs p t, e = .returned (.tuple #[.slice a (List.length fs) c, .agg #[.string p, .string t]]) ∧ FilesAt w' w'.heap.size a (List.length fs) fs ∧ Short 100 fs ∧ List.length fs ≤ 10 ∧ p.size ≤ 100 ∧ t.size ≤ 100 ∧ Below w.heap.size w w'

/-- what DrawFindFile leaves: a readable list and a path -/
def FindDraw (w : World) (e : Ending) (w' : World) : Prop :=
  ∃ a c fs x, e = .returned (.tuple #[.slice a (List.length fs) c, .string x]) ∧ FilesAt w' w'.heap.size a (List.length fs) fs ∧ Short 100 fs ∧ List.length fs ≤ 10 ∧ x.size ≤ 100 ∧ Below w.heap.size w w'

set_option maxHeartbeats 1000000 in
theorem drawFind_any (a : Option Addr) (n c : Nat) (w : World) (hb : BytesAt w w.heap.size a n) (hn : n ≤ c) (hc : c ≤ maxLen) :
    Calls Try.prog 6 #[.slice a n c] w (FindDraw w) := by
  go_enter Try.func6, Try.ntmps6
  go_wp2_with fail
  refine (open_any a n c w hb hn hc).mono ?_
  rintro e w1 ⟨R, n', c', rfl, hle, hr, hB⟩
  go_wp2_with fail
  refine (files_any hr (by omega)).mono ?_
  rintro e w2 ⟨a2, c2, fs, q2, rfl, hf2, hs2, hl2, hst2⟩
  have hq2 := hst2.hi
  go_wp2_with fail
  refine (mutate_any a2 c2 5 fs hst2.rd (by omega) hf2 (hs2.more (by omega)) hl2 (by omega)).mono ?_
  rintro e w3 ⟨a3, c3, gs, q3, rfl, hf3, hs3, hl3, hst3⟩
  have hq3 := hst3.hi
  go_wp2_with fail
  refine (path_any hst3.rd (by omega)).mono ?_
  rintro e w4 ⟨x, q4, rfl, hx, hst4⟩
  have hf4 := hf3.step hst3.rd hst4
  go_wp2_with fail
  go_ret2
  exact ⟨_, _, gs, x, rfl, hf4, hs3, by omega, by omega, hB.trans (((hst2.trans hst3).trans hst4).toBelow hle hB.size)⟩

theorem FilesAt.stepB {w w' : World} {B R n c p q k D m : Nat} {a b : Option Addr} {fs : List Fl} (h : FilesAt w D b m fs) (hD : D ≤ w.heap.size) (hr : Rd w B R a n c p) (hs : Step w w' B R a n c p q k) : FilesAt w' D b m fs :=
  ⟨h.1, fun hm => by
    obtain ⟨g, off, hb, hg, hc⟩ := h.2 hm
    obtain ⟨g', off', hb', _, hc'⟩ := ((h.more hD).step hr hs).2 hm
    rw [hb] at hb'
    cases hb'
    exact ⟨g, off, hb, hg, hc'⟩⟩
theorem FilesAt.off {w : World} {D r m : Nat} {b : Option Addr} {fs : List Fl} (h : FilesAt w D b m fs) (hf : ∀ x, b = some x → x.block ≠ r) (i : Nat) (u : Value) : FilesAt (w.setCell ⟨r, i, none⟩ u) D b m fs :=
  ⟨h.1, fun hm => by
    obtain ⟨g, off, hb, hg, hc⟩ := h.2 hm
    exact ⟨g, off, hb, hg, fun j u hu => (World.cell?_setCell_other w _ _ _ (fun e => hf _ hb (by simp at e; exact e.1.symm))).trans (hc j u hu)⟩⟩
/-- the state between the choices of DrawPutFile: the list, the file in its box at block g -/
structure PutSt (w1 w' : World) (B R : Nat) (a : Option Addr) (n c q g : Nat) (b : Option Addr) (gs : List Fl) (p t : ByteArray) : Prop where
  step : Step w1 w' B R a n c 0 q 100
  files : FilesAt w' g b (List.length gs) gs
  gw : w1.heap.size ≤ g
  box : w'.heap[g]? = some (.cells #[.string p, .string t] 49 (0, 0))
section
variable {w1 w' w'' : World} {B R n c q q' g k : Nat} {a b : Option Addr} {gs : List Fl} {p t s : ByteArray}
theorem PutSt.gl (h : PutSt w1 w' B R a n c q g b gs p t) : g < w'.heap.size := blk_lt h.box
theorem PutSt.gR (h : PutSt w1 w' B R a n c q g b gs p t) : g ≠ R := by have := h.gw; have := h.step.lt; omega
theorem PutSt.stepped (h : PutSt w1 w' B R a n c q g b gs p t) (hs : Step w' w'' B R a n c q q' k) (hq : q' ≤ 100) : PutSt w1 w'' B R a n c q' g b gs p t :=
  ⟨⟨hs.rd, by omega, by omega, grown_trans h.step.grown hs.grown, h.step.lt⟩, h.files.stepB (Nat.le_of_lt h.gl) h.step.rd hs, h.gw, (hs.grown.block g h.gl (fun e => h.gR (by injection e))).trans h.box⟩
theorem PutSt.alloc (h : PutSt w1 w' B R a n c q g b gs p t) (o : Obj) : PutSt w1 (w'.alloc o) B R a n c q g b gs p t :=
  ⟨h.step.alloc o, h.files.alloc (Nat.le_of_lt h.gl) o, h.gw, (Below.heap_alloc w' o g h.gl).trans h.box⟩
theorem PutSt.set0 (h : PutSt w1 w' B R a n c q g b gs p t) (s : ByteArray) : PutSt w1 (w'.setCell ⟨g, 0, none⟩ (.string s)) B R a n c q g b gs s t :=
  ⟨h.step.setNew h.gw _, h.files.keep fun i hi => World.cell?_setCell_other w' _ _ _ (by rintro rfl; simp at hi), h.gw, blk_set h.box 0 (.string s)⟩
theorem PutSt.set1 (h : PutSt w1 w' B R a n c q g b gs p t) (s : ByteArray) : PutSt w1 (w'.setCell ⟨g, 1, none⟩ (.string s)) B R a n c q g b gs p s :=
  ⟨h.step.setNew h.gw _, h.files.keep fun i hi => World.cell?_setCell_other w' _ _ _ (by rintro rfl; simp at hi), h.gw, blk_set h.box 1 (.string s)⟩
theorem PutSt.c0 (h : PutSt w1 w' B R a n c q g b gs p t) : w'.cell? ⟨g, 0, none⟩ = some (.string p) := by rw [cell_of_row _ _ _ _ _ _ h.box]; rfl
theorem PutSt.c1 (h : PutSt w1 w' B R a n c q g b gs p t) : w'.cell? ⟨g, 1, none⟩ = some (.string t) := by rw [cell_of_row _ _ _ _ _ _ h.box]; rfl
theorem PutSt.done {w : World} (h : PutSt w1 w' B R a n c q g b gs p t) (hB0 : Below w.heap.size w w1) (hr : w.heap.size < w1.heap.size) (hR : w.heap.size < R) (hfr : ∀ x, b = some x → x.block ≠ w.heap.size) (hp : p.size ≤ 100) (ht : t.size ≤ 100) (hs : Short 100 gs) (hl : gs.length ≤ 10) (d : Nat) (u v : Value) :
    PutDraw w (.returned (.tuple #[.slice b (List.length gs) d, .agg #[.string p, .string t]])) ((w'.setCell ⟨w.heap.size, 0, none⟩ u).setCell ⟨w.heap.size, 1, none⟩ v).drew := by
  have hsz := h.step.grown.size
  refine ⟨b, d, gs, p, t, rfl, (((h.files.off hfr 0 u).off hfr 1 v).more ?_).drew, hs, hl, hp, ht, ?_⟩
  · have := h.gl; simp [World.setCell]; omega
  · have h1 : Below w.heap.size w1 w' := h.step.toBelow (Nat.le_of_lt hR) (Nat.le_of_lt hr)
    exact (((hB0.trans h1).setCell (Nat.le_refl _) u).setCell (Nat.le_refl _) v).drew
theorem PutSt.fz (h : PutSt w1 w' B R a n c q g b gs p t) (i : Nat) : w'.frozen? ⟨g, i, none⟩ = false := blk_frozen h.box i
end

end Go.Proofs.Ytollcckdfehdeaa
