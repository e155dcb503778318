/-
  The program's copyProject: the copy lies in rows that share no block.
-/
import Derived.Test.YtmmjeokmoffdpaaGreatQCopyQ
import Derived.Deep.RegionHeld3
namespace Go.Proofs.YtmmjeokmoffdpaaGreat
set_option linter.unusedVariables false
set_option linter.unusedSimpArgs false
open Go.RowKit

theorem bxP_two {w : World} {g : Nat} {u v : Value} {T : TypeId} (h : BxP w g u v T) : w.cell? ⟨g, 0, none⟩ = some u ∧ w.cell? ⟨g, 1, none⟩ = some v := ⟨h.facts.1, h.facts.2.1⟩
theorem OwnsF.set {w : World} {base g : Nat} {v : Value} {fs : List Fl} (h : OwnsF w base v fs) (hg : g < base) (i : Nat) (u : Value) : OwnsF (w.setCell ⟨g, i, none⟩ u) base v fs :=
  World.ownsRow.kept (row := some g) h (grown_set (p := ⟨g, i, none⟩) (World.grownBy.refl w _) (.inl rfl) u) (by
    cases hv : v.ownBlock with
    | none => exact .inl rfl
    | some b => exact .inr fun e => by injection e with e; have := World.ownsRow.lt h b hv; omega)
theorem OwnsF.lt {w : World} {base : Nat} {v : Value} {fs : List Fl} (h : OwnsF w base v fs) : ∀ g, v.ownBlock = some g → base ≤ g ∧ g < w.heap.size := fun g hg => World.ownsRow.lt h g hg
/-- the copy's facts, whichever of its lists was copied first -/
theorem copPr_mk {w : World} {n0 base : Nat} {fs : List Fl} {rs : List Ru} {v : Value} {a : Option Addr} {c g : Nat} {bs : List (Nat × Fo)} (hf : OwnsF w base v fs) (hq : CopQ w base rs a c bs g) (hd : ∀ x ∈ rblksA g bs, v.ownBlock ≠ some x) (hb : n0 ≤ base) (i : Nat) (hi : i < base) (x y : Value) :
    OwnsF ((w.setCell ⟨i, 0, none⟩ x).setCell ⟨i, 1, none⟩ y) n0 v fs ∧ (∀ x ∈ rblksA g bs, v.ownBlock ≠ some x) ∧ CopQ ((w.setCell ⟨i, 0, none⟩ x).setCell ⟨i, 1, none⟩ y) n0 rs a c bs g :=
  ⟨World.ownsRow.mono ((OwnsF.set (OwnsF.set hf hi 0 x) hi 1 y)) hb, hd, ((hq.setCell hi 0 x).setCell hi 1 y).mono hb⟩
theorem CopQ.below {w w' : World} {base c g : Nat} {rs : List Ru} {bs : List (Nat × Fo)} {a : Option Addr} (h : CopQ w base rs a c bs g) (hb : Below w.heap.size w w') : CopQ w' base rs a c bs g := by
  obtain ⟨h3, h4, h5, h6, h7⟩ := h
  exact ⟨h3.next hb, h4.keep fun x hx hxs => hb.block x hxs, h5, fun x hx => ⟨(h6 x hx).1, Nat.lt_of_lt_of_le (h6 x hx).2 hb.size⟩, h7⟩

set_option maxRecDepth 100000 in
set_option maxHeartbeats 4000000 in
theorem copyProject_any (a1 a2 : Option Addr) (n1 n2 c1 c2 : Nat) (fs : List Fl) (rs : List Ru) (w : World) (hf : FilesAt w w.heap.size a1 n1 fs) (hn1 : n1 ≤ 1048576) (hr : RuAt w 0 w.heap.size rs a2 n2) (hN : rs.length + ruTot rs ≤ 1048577) (hnc : n2 ≤ c2) :
    Calls Tryz.prog 46 #[.agg #[.slice a1 n1 c1, .slice a2 n2 c2]] w (CopPr fs rs w) := by
  have hB0 := ((Below.refl w.heap.size w).alloc (Nat.le_refl _) (.cells #[.slice a1 n1 c1, .slice a2 n2 c2] 36)).alloc (by simp) (.cells #[.slice none 0 0, .slice none 0 0] 36)
  have hP0 := (BxP.new w (.slice a1 n1 c1) (.slice a2 n2 c2) 36).alloc (.cells #[.slice none 0 0, .slice none 0 0] 36)
  have hE0 := BxP.new (w.alloc (.cells #[.slice a1 n1 c1, .slice a2 n2 c2] 36)) (.slice none 0 0) (.slice none 0 0) 36
  simp only [World.size_alloc] at hE0
  have hD := (Below.refl ((w.alloc (.cells #[.slice a1 n1 c1, .slice a2 n2 c2] 36)).alloc (.cells #[.slice none 0 0, .slice none 0 0] 36)).heap.size ((w.alloc (.cells #[.slice a1 n1 c1, .slice a2 n2 c2] 36)).alloc (.cells #[.slice none 0 0, .slice none 0 0] 36))).drew
  have hBD := hB0.trans (hD.mono hB0.size)
  have hPD := hP0.next hD
  have hED := hE0.next hD
  have HC0 := Lib.hid (bxP_two hPD)
  have hf0 := (hf.below hBD).more hBD.size
  have hr0 := hr.next hBD
  have hsz0 : (((w.alloc (.cells #[.slice a1 n1 c1, .slice a2 n2 c2] 36)).alloc (.cells #[.slice none 0 0, .slice none 0 0] 36)).drew).heap.size = w.heap.size + 2 := by simp [World.drew]
  clear hf hr
  go_enter Tryz.func46, Tryz.ntmps46
  go_wp2_with fail
  generalize hW : (w.alloc (.cells #[.slice a1 n1 c1, .slice a2 n2 c2] 36)).alloc (.cells #[.slice none 0 0, .slice none 0 0] 36) = W at *
  go_region_held3 (fun w' => w'.cell? ⟨w.heap.size, 0, none⟩ = some (.slice a1 n1 c1) ∧ w'.cell? ⟨w.heap.size, 1, none⟩ = some (.slice a2 n2 c2)) (first | exact HC0.out | exact HC1.out | exact HC2.out | exact HC3.out | exact bxP_two ((hP3.other (by omega) 0 _).other (by omega) 1 _))
    ((first
      | (go_at_call 62; (with_reducible refine (copyFiles_any a1 n1 c1 fs W.drew hf0 hn1).mono ?_); rintro e v1 ⟨vf, rfl, hown1, hC1⟩; obtain ⟨av, cv, rfl, hfa⟩ := hown1.form; have hP1 := hPD.next hC1; have HC1 := Lib.hid (bxP_two hP1); have hE1 := hED.next hC1)
      | (go_at_call 64; refine (copyRules_any rs hN a2 n2 c2 v1 (hr0.next hC1) hnc).mono ?_; rintro e v3 ⟨a4, c4, bs4, g4, rfl, hq3, hC3⟩; have hP3 := hP1.next hC3; have HC3 := Lib.hid (bxP_two hP3); have hE3 := hE1.next hC3; obtain ⟨z0, z1, zf0, zf1, zl⟩ := hE3.facts)))
  have hown := own_raise hown1 hC3
  have hlo := hown1.lt
  have hq := hq3.mono hC1.size
  have hd : ∀ x ∈ rblksA g4 bs4, (Value.slice av fs.length cv).ownBlock ≠ some x := fun x hx e => by have := hlo x e; have := (hq3.2.2.2.1 x hx).1; omega
  have hfin := Lib.hid (copPr_mk (n0 := w.heap.size) hown hq hd (by omega) (w.heap.size + 1) (by omega) (.slice av fs.length cv) (.slice a4 rs.length c4))
  have hBf := Lib.hid ((((hBD.trans (hC1.mono (by omega))).trans (hC3.mono (by have := hC1.size; omega))).setCell (p := ⟨w.heap.size + 1, 0, none⟩) (Nat.le_succ _) (.slice av fs.length cv)).setCell (p := ⟨w.heap.size + 1, 1, none⟩) (Nat.le_succ _) (.slice a4 rs.length c4))
  have hE4 := (hE3.set0 (.slice av fs.length cv)).set1 (.slice a4 rs.length c4)
  obtain ⟨y0, y1, yf0, yf1, yl⟩ := hE4.facts
  clear hown hlo hq hd hP1 hP3 HC1 HC3 hE1 hE3 z0 z1 zf0 zf1 zl
  go_wp2_with fail
  refine bodyPost_ret (v := .agg #[.slice av fs.length cv, .slice a4 rs.length c4]) (by simp [results, Tryz.results46, go_sem, *]) rfl ?_
  exact ⟨_, a4, c4, bs4, g4, rfl, hfin.out.1, hfin.out.2.1, hfin.out.2.2, hBf.out⟩
end Go.Proofs.YtmmjeokmoffdpaaGreat
