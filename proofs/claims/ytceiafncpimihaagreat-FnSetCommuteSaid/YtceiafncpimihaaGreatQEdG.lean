/-
  The program's SetSource and RemoveSource.
-/
import Derived.Test.YtceiafncpimihaaGreatQEdF
namespace Go.Proofs.YtceiafncpimihaaGreat
set_option linter.unusedVariables false
set_option linter.unusedSimpArgs false
open Go.RowKit

theorem edP_set {w w' : World} {fs : List Fl} {rs : List Ru} {b : Bool} {e : Ending} {n0 i : Nat} (hn : n0 ≤ i) (hi : i < w.heap.size) (h0 : Below n0 w w') (x y : Value) (a1 : Option Addr) (c1 : Nat) (a : Option Addr) (c : Nat) (bs : List (Nat × Fo)) (g : Nat) (h1 : OwnsF w' w.heap.size (.slice a1 fs.length c1) fs) (h2 : ∀ x ∈ rblksA g bs, (Value.slice a1 fs.length c1).ownBlock ≠ some x) (h3 : CopQ w' w.heap.size rs a c bs g) (w0 : World) (hw0 : w0.heap.size = n0) (hb : Below n0 w0 w) :
    EdP fs rs b w0 (.returned (.tuple #[.agg #[.slice a1 fs.length c1, .slice a rs.length c], .bool b])) ((w'.setCell ⟨i, 0, none⟩ x).setCell ⟨i, 1, none⟩ y) := by
  obtain ⟨k1, k2, k3⟩ := copPr_mk (n0 := n0) h1 h3 h2 (by omega) i hi x y
  subst hw0
  exact ⟨a1, c1, a, c, bs, g, rfl, k1, k2, k3, ((hb.trans h0).setCell (p := ⟨i, 0, none⟩) hn x).setCell (p := ⟨i, 1, none⟩) hn y⟩

theorem putR_fit {p t : ByteArray} {fs fs' : List Fl} {b : Bool} (hs : Fits fs) (hn : fs.length ≤ 1048576) (h : putR (p, t) fs = (fs', b)) (hp : p.size ≤ maxLen) (ht : t.size ≤ maxLen) : Fits fs' ∧ fs'.length ≤ 1048576 := by
  unfold putR at h
  split at h
  · rename_i hv
    cases h
    exact ⟨fits_put hs hp ht, by have := valid_length hv.2; omega⟩
  · cases h
    exact ⟨(fun f hf => by cases hf), by simp⟩
theorem delR_fit {x : ByteArray} {fs fs' : List Fl} {b : Bool} (hs : Fits fs) (hn : fs.length ≤ 1048576) (h : delR x fs = (fs', b)) : Fits fs' ∧ fs'.length ≤ 1048576 := by
  unfold delR at h
  split at h
  · cases h
    exact ⟨fun f hf => hs f (List.mem_filter.1 hf).1, by have := List.length_filter_le (fun g : Fl => decide (g.1 ≠ x)) fs; unfold delU; omega⟩
  · cases h
    exact ⟨(fun f hf => by cases hf), by simp⟩

set_option maxRecDepth 100000 in
set_option maxHeartbeats 4000000 in
theorem setSourceI_z (a1 a2 : Option Addr) (n1 n2 c1 c2 : Nat) (fs : List Fl) (rs : List Ru) (p t : ByteArray) (w : World) (hf : FilesAt w w.heap.size a1 n1 fs) (hr : RuAt w 0 w.heap.size rs a2 n2) (hs : Fits fs) (hrf : RuFits rs) (hn1 : n1 ≤ 1048576) (hn2 : n2 ≤ maxLen) (hnc : n2 ≤ c2) (hN : RuZ rs) (hp1 : p.size ≤ maxLen) (ht1 : t.size ≤ maxLen) :
    Calls Tryz.prog 9 #[.agg #[.slice a1 n1 c1, .slice a2 n2 c2], .agg #[.string p, .string t]] w (EdR (setSrcR (p, t) fs rs) w) := by
  obtain ⟨W, hW⟩ : ∃ W, W = (((w.alloc (.cells #[.slice a1 n1 c1, .slice a2 n2 c2] 26)).alloc (.cells #[.string p, .string t] 28)).alloc (.cells #[.slice none 0 0, .slice none 0 0] 26)) := ⟨_, rfl⟩
  have hB0 : Below w.heap.size w W := by rw [hW]; exact (((Below.refl w.heap.size w).alloc (Nat.le_refl _) _).alloc (by simp) _).alloc (by simp; omega) _
  have hsz : W.heap.size = w.heap.size + 3 := by rw [hW]; simp
  have hE0 : BxP W (w.heap.size + 2) (.slice none 0 0) (.slice none 0 0) 26 := by
    have := BxP.new ((w.alloc (.cells #[.slice a1 n1 c1, .slice a2 n2 c2] 26)).alloc (.cells #[.string p, .string t] 28)) (.slice none 0 0) (.slice none 0 0) 26
    rw [hW]; simpa using this
  have hP0 : BxP W w.heap.size (.slice a1 n1 c1) (.slice a2 n2 c2) 26 := by
    rw [hW]; exact ((BxP.new w _ _ _).alloc _).alloc _
  have hC0 : W.heap[w.heap.size + 1]? = some (.cells #[.string p, .string t] 28 (0, 0)) := by
    have h0 := heap_alloc_new (w.alloc (.cells #[.slice a1 n1 c1, .slice a2 n2 c2] 26)) (.cells #[.string p, .string t] 28)
    rw [hW, Below.heap_alloc _ _ _ (by simp)]; simpa using h0
  have hf0 := hf.below hB0
  have hr0 := hr.below hB0
  have hfW := hf0.more hB0.size
  have hrW := hr.next hB0
  have Hedit := Lib.hid (show Calls Tryz.prog 31 #[.agg #[.slice a1 n1 c1, .slice a2 n2 c2], .func (.func 32) #[] #[.pointer (some ⟨w.heap.size + 1, 0, none⟩)]] W (EdR (setSrcR (p, t) fs rs) W) from by
    cases hp : projB fs rs with
    | false =>
      have := edit_bad 32 (w.heap.size + 1) _ rfl a1 a2 n1 n2 c1 c2 fs rs W hfW hrW hs hrf (by unfold maxLen; omega) hn2 hp
      refine this.mono fun e w' h => ?_
      unfold EdR setSrcR
      rw [if_neg (fun h => by rw [hp] at h; cases h.1)]
      exact h
    | true =>
      obtain ⟨⟨fs', b⟩, hput⟩ : ∃ r, putR (p, t) fs = r := ⟨_, rfl⟩
      have hfit : Fits fs' ∧ fs'.length ≤ 1048576 := putR_fit hs (by have := hf.1; omega) hput hp1 ht1
      refine (edit_of 32 (w.heap.size + 1) _ rfl a1 a2 n1 n2 c1 c2 fs rs W hfW hrW hs hrf (by unfold maxLen; omega) hn2 hp fs' rs b (fun V hV hVb => ?_) cf_setSrc hfit.1 hrf hfit.2 hN).mono fun e w' h => setSrcR_of hp hput h
      have hcV := (hV.block (w.heap.size + 1) (by omega)).trans hC0
      exact setSrc1_any W.heap.size (w.heap.size + 1) a1 a2 n1 n2 c1 c2 fs rs p t _ V hVb hcV (hfW.below hV) (hrW.below hV) hnc hs (by unfold maxLen; omega) hp1 ht1 fs' b hput)
  clear hfW hrW hf0 hr0 hf hr hs hrf
  obtain ⟨p0, p1, pf0, pf1, hpl⟩ := hP0.facts
  go_enter Tryz.func9, Tryz.ntmps9
  go_wp2_with fail
  rw [← hW]
  refine Hedit.out.mono ?_
  rintro e w1 ⟨av, cv, a4, c4, bs4, g4, rfl, ho4, hd4, hq4, hB4⟩
  have hE4 := hE0.next hB4
  have HF := Lib.hid (edP_set (e := .outgrown) (b := (setSrcR (p, t) fs rs).2.2) (n0 := w.heap.size) (i := w.heap.size + 2) (by omega) (by omega) (hB4.mono hB0.size) (.slice av (setSrcR (p, t) fs rs).1.length cv) (.slice a4 (setSrcR (p, t) fs rs).2.1.length c4) av cv a4 c4 bs4 g4 ho4 hd4 hq4 w rfl hB0)
  have hE6 := Lib.hid ((hE4.set0 (.slice av (setSrcR (p, t) fs rs).1.length cv)).set1 (.slice a4 (setSrcR (p, t) fs rs).2.1.length c4))
  clear ho4 hd4 hq4 p0 p1 pf0 pf1 hpl hC0
  obtain ⟨z0, z1, zf0, zf1, zl⟩ := hE4.facts
  go_wp2_with fail
  clear z0 z1 zf0 zf1 zl
  obtain ⟨z0, z1, zf0, zf1, zl⟩ := hE6.out.facts
  refine bodyPost_ret (v := .tuple #[.agg #[.slice av (setSrcR (p, t) fs rs).1.length cv, .slice a4 (setSrcR (p, t) fs rs).2.1.length c4], .bool (setSrcR (p, t) fs rs).2.2]) (by simp [results, Tryz.results9, go_sem, *]) rfl ?_
  exact HF.out

set_option maxRecDepth 100000 in
set_option maxHeartbeats 4000000 in
theorem removeSourceI_z (a1 a2 : Option Addr) (n1 n2 c1 c2 : Nat) (fs : List Fl) (rs : List Ru) (x : ByteArray) (w : World) (hf : FilesAt w w.heap.size a1 n1 fs) (hr : RuAt w 0 w.heap.size rs a2 n2) (hs : Fits fs) (hrf : RuFits rs) (hn1 : n1 ≤ 1048576) (hn2 : n2 ≤ maxLen) (hnc : n2 ≤ c2) (hN : RuZ rs) (hx : x.size ≤ maxLen) :
    Calls Tryz.prog 15 #[.agg #[.slice a1 n1 c1, .slice a2 n2 c2], .string x] w (EdR (delSrcR x fs rs) w) := by
  obtain ⟨W, hW⟩ : ∃ W, W = (((w.alloc (.cells #[.slice a1 n1 c1, .slice a2 n2 c2] 26)).alloc (.cells #[.string x] 9)).alloc (.cells #[.slice none 0 0, .slice none 0 0] 26)) := ⟨_, rfl⟩
  have hB0 : Below w.heap.size w W := by rw [hW]; exact (((Below.refl w.heap.size w).alloc (Nat.le_refl _) _).alloc (by simp) _).alloc (by simp; omega) _
  have hsz : W.heap.size = w.heap.size + 3 := by rw [hW]; simp
  have hE0 : BxP W (w.heap.size + 2) (.slice none 0 0) (.slice none 0 0) 26 := by
    have := BxP.new ((w.alloc (.cells #[.slice a1 n1 c1, .slice a2 n2 c2] 26)).alloc (.cells #[.string x] 9)) (.slice none 0 0) (.slice none 0 0) 26
    rw [hW]; simpa using this
  have hP0 : BxP W w.heap.size (.slice a1 n1 c1) (.slice a2 n2 c2) 26 := by
    rw [hW]; exact ((BxP.new w _ _ _).alloc _).alloc _
  have hC0 : W.heap[w.heap.size + 1]? = some (.cells #[.string x] 9 (0, 0)) := by
    have h0 := heap_alloc_new (w.alloc (.cells #[.slice a1 n1 c1, .slice a2 n2 c2] 26)) (.cells #[.string x] 9)
    rw [hW, Below.heap_alloc _ _ _ (by simp)]; simpa using h0
  have hf0 := hf.below hB0
  have hr0 := hr.below hB0
  have hfW := hf0.more hB0.size
  have hrW := hr.next hB0
  have Hedit := Lib.hid (show Calls Tryz.prog 31 #[.agg #[.slice a1 n1 c1, .slice a2 n2 c2], .func (.func 43) #[] #[.pointer (some ⟨w.heap.size + 1, 0, none⟩)]] W (EdR (delSrcR x fs rs) W) from by
    cases hp : projB fs rs with
    | false =>
      have := edit_bad 43 (w.heap.size + 1) _ rfl a1 a2 n1 n2 c1 c2 fs rs W hfW hrW hs hrf (by unfold maxLen; omega) hn2 hp
      refine this.mono fun e w' h => ?_
      unfold EdR delSrcR
      rw [if_neg (fun h => by rw [hp] at h; cases h.1)]
      exact h
    | true =>
      obtain ⟨⟨fs', b⟩, hput⟩ : ∃ r, delR x fs = r := ⟨_, rfl⟩
      have hfit : Fits fs' ∧ fs'.length ≤ 1048576 := delR_fit hs (by have := hf.1; omega) hput
      refine (edit_of 43 (w.heap.size + 1) _ rfl a1 a2 n1 n2 c1 c2 fs rs W hfW hrW hs hrf (by unfold maxLen; omega) hn2 hp fs' rs b (fun V hV hVb => ?_) cf_delSrc hfit.1 hrf hfit.2 hN).mono fun e w' h => delSrcR_of hp hput h
      have hcV := (hV.block (w.heap.size + 1) (by omega)).trans hC0
      exact delSrc1_any W.heap.size (w.heap.size + 1) a1 a2 n1 n2 c1 c2 fs rs x V hVb (by rw [cell_of_row _ _ _ _ _ _ hcV]; rfl) (hfW.below hV) (hrW.below hV) hnc hs (by unfold maxLen; omega) hx fs' b hput)
  clear hfW hrW hf0 hr0 hf hr hs hrf
  obtain ⟨p0, p1, pf0, pf1, hpl⟩ := hP0.facts
  go_enter Tryz.func15, Tryz.ntmps15
  go_wp2_with fail
  rw [← hW]
  refine Hedit.out.mono ?_
  rintro e w1 ⟨av, cv, a4, c4, bs4, g4, rfl, ho4, hd4, hq4, hB4⟩
  have hE4 := hE0.next hB4
  have HF := Lib.hid (edP_set (e := .outgrown) (b := (delSrcR x fs rs).2.2) (n0 := w.heap.size) (i := w.heap.size + 2) (by omega) (by omega) (hB4.mono hB0.size) (.slice av (delSrcR x fs rs).1.length cv) (.slice a4 (delSrcR x fs rs).2.1.length c4) av cv a4 c4 bs4 g4 ho4 hd4 hq4 w rfl hB0)
  have hE6 := Lib.hid ((hE4.set0 (.slice av (delSrcR x fs rs).1.length cv)).set1 (.slice a4 (delSrcR x fs rs).2.1.length c4))
  clear ho4 hd4 hq4 p0 p1 pf0 pf1 hpl hC0
  obtain ⟨z0, z1, zf0, zf1, zl⟩ := hE4.facts
  go_wp2_with fail
  clear z0 z1 zf0 zf1 zl
  obtain ⟨z0, z1, zf0, zf1, zl⟩ := hE6.out.facts
  refine bodyPost_ret (v := .tuple #[.agg #[.slice av (delSrcR x fs rs).1.length cv, .slice a4 (delSrcR x fs rs).2.1.length c4], .bool (delSrcR x fs rs).2.2]) (by simp [results, Tryz.results15, go_sem, *]) rfl ?_
  exact HF.out
end Go.Proofs.YtceiafncpimihaaGreat
