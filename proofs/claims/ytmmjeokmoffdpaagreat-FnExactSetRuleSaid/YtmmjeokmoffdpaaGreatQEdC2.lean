/-
  What the cuts of the walks of the laws on edits say, where the box of a result may be made ahead of the call.
-/
import Derived.Test.YtmmjeokmoffdpaaGreatQEdW
namespace Go.Proofs.YtmmjeokmoffdpaaGreat
set_option linter.unusedVariables false
set_option linter.unusedSimpArgs false
open Go.RowKit

/-- the reference's answer, in memory of its own -/
def EdSo (fs : List Fl) (rs : List Ru) (b : Bool) (w : World) (e : Ending) (w' : World) : Prop := ∃ a1 c1 a2 c2, e = .returned (.tuple #[.agg #[.slice a1 fs.length c1, .slice a2 rs.length c2], .bool b]) ∧ OwnsF w' w.heap.size (.slice a1 fs.length c1) fs ∧ RuAt w' w.heap.size w'.heap.size rs a2 rs.length ∧ Below w.heap.size w w'
theorem edS_o {fs : List Fl} {rs : List Ru} {b : Bool} {w w' : World} {e : Ending} (h : EdS (fs, rs, b) w e w') : EdSo fs rs b w e w' := h
/-- the program's answer, in memory of its own -/
def EdPo (fs : List Fl) (rs : List Ru) (b : Bool) (w : World) (e : Ending) (w' : World) : Prop := ∃ av cv a4 c4 bs g, e = .returned (.tuple #[.agg #[.slice av fs.length cv, .slice a4 rs.length c4], .bool b]) ∧ OwnsF w' w.heap.size (.slice av fs.length cv) fs ∧ (∀ x ∈ rblksA g bs, (Value.slice av fs.length cv).ownBlock ≠ some x) ∧ CopQ w' w.heap.size rs a4 c4 bs g ∧ Below w.heap.size w w'
theorem edR_o {fs : List Fl} {rs : List Ru} {b : Bool} {w w' : World} {e : Ending} (h : EdR (fs, rs, b) w e w') : EdPo fs rs b w e w' := h
section
variable {X : World → Prop} {wD wx w4 wc : World} {S L gp ge gy g c0 c1 c2 c4 d0 cv : Nat} {fs fs' : List Fl} {rs rs' : List Ru} {bs : List (Nat × Fo)} {a1 a2 a0 b0 a4 av : Option Addr}
/-- the argument and the reference's answer, in the world behind the region -/
theorem edA_mk (hB : Below wD.heap.size wD wx) (hf : FilesAt wD wD.heap.size a1 fs.length fs) (hr : RuAt wD 0 wD.heap.size rs a2 rs.length) (bx : BxP wD gp (.slice a1 fs.length c1) (.slice a2 rs.length c2) 25) (hX : X wD) (hxk : ∀ L V V', wD.heap.size ≤ L → Below L V V' → X V → X V')
    (h0 : FilesAt wx wx.heap.size a0 fs'.length fs') (r0 : RuAt wx 0 wx.heap.size rs' b0 rs'.length) (b : BxP wx ge (.slice a0 fs'.length c0) (.slice b0 rs'.length d0) 36) : EdA wx wx.heap.size gp ge fs rs fs' rs' a1 a2 a0 b0 c1 c2 c0 d0 X :=
  ⟨(hf.below hB).more hB.size, (hr.below hB).more (Nat.le_refl _) hB.size, h0, r0, bx.next hB, b, by have := blk_lt bx; have := hB.size; omega, blk_lt b, hxk _ _ _ (Nat.le_refl _) hB hX, fun V V' h => hxk _ V V' hB.size h⟩
theorem ed_below {u v : Value} {T : TypeId} (hT : Below wD.heap.size wD w4) (hE : BxP w4 ge u v T) (hge : wD.heap.size ≤ ge) (x y : Value) : Below wD.heap.size wD ((w4.setCell ⟨ge, 0, none⟩ x).setCell ⟨ge, 1, none⟩ y) := (hT.setCell (p := ⟨ge, 0, none⟩) hge x).setCell (p := ⟨ge, 1, none⟩) hge y
/-- a list of files and one of rules, and the box that is filled with them -/
theorem ed_fill (h0 : OwnsF w4 wc.heap.size (.slice a0 fs'.length c0) fs') (r0 : RuAt w4 wc.heap.size w4.heap.size rs' b0 rs'.length) {u v : Value} (hE : BxP w4 ge u v 36) (hg : ge < wc.heap.size) :
    FilesAt ((w4.setCell ⟨ge, 0, none⟩ (.slice a0 fs'.length c0)).setCell ⟨ge, 1, none⟩ (.slice b0 rs'.length d0)) ((w4.setCell ⟨ge, 0, none⟩ (.slice a0 fs'.length c0)).setCell ⟨ge, 1, none⟩ (.slice b0 rs'.length d0)).heap.size a0 fs'.length fs' ∧ RuAt ((w4.setCell ⟨ge, 0, none⟩ (.slice a0 fs'.length c0)).setCell ⟨ge, 1, none⟩ (.slice b0 rs'.length d0)) 0 ((w4.setCell ⟨ge, 0, none⟩ (.slice a0 fs'.length c0)).setCell ⟨ge, 1, none⟩ (.slice b0 rs'.length d0)).heap.size rs' b0 rs'.length ∧ BxP ((w4.setCell ⟨ge, 0, none⟩ (.slice a0 fs'.length c0)).setCell ⟨ge, 1, none⟩ (.slice b0 rs'.length d0)) ge (.slice a0 fs'.length c0) (.slice b0 rs'.length d0) 36 :=
  ⟨OwnsF.at_ (OwnsF.set (OwnsF.set h0 hg 0 _) hg 1 _), ((r0.setCell (.inl hg) 0 _).setCell (.inl hg) 1 _).more (Nat.zero_le _) (by simp [World.setCell]), (hE.set0 _).set1 _⟩
theorem ed_new (h0 : OwnsF w4 wc.heap.size (.slice a0 fs'.length c0) fs') (r0 : RuAt w4 wc.heap.size w4.heap.size rs' b0 rs'.length) :
    FilesAt (w4.alloc (.cells #[.slice a0 fs'.length c0, .slice b0 rs'.length d0] 36)) (w4.alloc (.cells #[.slice a0 fs'.length c0, .slice b0 rs'.length d0] 36)).heap.size a0 fs'.length fs' ∧ RuAt (w4.alloc (.cells #[.slice a0 fs'.length c0, .slice b0 rs'.length d0] 36)) 0 (w4.alloc (.cells #[.slice a0 fs'.length c0, .slice b0 rs'.length d0] 36)).heap.size rs' b0 rs'.length ∧ BxP (w4.alloc (.cells #[.slice a0 fs'.length c0, .slice b0 rs'.length d0] 36)) w4.heap.size (.slice a0 fs'.length c0) (.slice b0 rs'.length d0) 36 :=
  ⟨OwnsF.at_ (ownsF_alloc h0 _), (r0.alloc (Nat.le_refl _) _).more (Nat.zero_le _) (by simp), BxP.new _ _ _ _⟩
/-- .. of the program -/
theorem edC_new (h1 : OwnsF w4 wc.heap.size (.slice av fs.length cv) fs) (h2 : ∀ x ∈ rblksA g bs, (Value.slice av fs.length cv).ownBlock ≠ some x) (hq : CopQ w4 wc.heap.size rs a4 c4 bs g) (hS : S ≤ wc.heap.size) (hB : wc.heap.size ≤ w4.heap.size) :
    EdC (w4.alloc (.cells #[.slice av fs.length cv, .slice a4 rs.length c4] 36)) S (w4.heap.size + 1) w4.heap.size g fs rs bs av a4 cv c4 := by
  have hB0 := (Below.refl w4.heap.size w4).alloc (Nat.le_refl _) (.cells #[.slice av fs.length cv, .slice a4 rs.length c4] 36)
  obtain ⟨h3, h4, h5, h6, h7⟩ := hq
  exact ⟨World.ownsRow.mono (ownsF_alloc h1 _) hS, fun x hx => by have := (OwnsF.lt h1 x hx).2; omega, (h3.below hB0).more hS (Nat.le_succ _), h4.keep fun x _ hx => hB0.block x hx, h5, fun x hx => by have := h6 x hx; omega, h2, h7, BxP.new _ _ _ _, by omega, Nat.lt_succ_self _⟩
theorem edC_fill (h1 : OwnsF w4 wc.heap.size (.slice av fs.length cv) fs) (h2 : ∀ x ∈ rblksA g bs, (Value.slice av fs.length cv).ownBlock ≠ some x) (hq : CopQ w4 wc.heap.size rs a4 c4 bs g) {u v : Value} (hE : BxP w4 gy u v 36) (hg : gy < wc.heap.size) (hS : S ≤ gy) :
    EdC ((w4.setCell ⟨gy, 0, none⟩ (.slice av fs.length cv)).setCell ⟨gy, 1, none⟩ (.slice a4 rs.length c4)) S ((w4.setCell ⟨gy, 0, none⟩ (.slice av fs.length cv)).setCell ⟨gy, 1, none⟩ (.slice a4 rs.length c4)).heap.size gy g fs rs bs av a4 cv c4 :=
  edC_set h1 h2 hq hE hg hS (by simp [World.setCell])
theorem edC_make (h1 : OwnsF w4 wc.heap.size (.slice av fs.length cv) fs) (h2 : ∀ x ∈ rblksA g bs, (Value.slice av fs.length cv).ownBlock ≠ some x) (hq : CopQ w4 wc.heap.size rs a4 c4 bs g) (hS : S ≤ wc.heap.size) (hB : wc.heap.size ≤ w4.heap.size) :
    EdC (w4.alloc (.cells #[.slice av fs.length cv, .slice a4 rs.length c4] 36)) S (w4.alloc (.cells #[.slice av fs.length cv, .slice a4 rs.length c4] 36)).heap.size w4.heap.size g fs rs bs av a4 cv c4 := by
  have := edC_new h1 h2 hq hS hB
  rwa [show w4.heap.size + 1 = (w4.alloc (.cells #[.slice av fs.length cv, .slice a4 rs.length c4] 36)).heap.size by simp] at this
end
/-- behind the reference's call -/
def CutA (fs : List Fl) (rs : List Ru) (fs' : List Fl) (rs' : List Ru) (found : Bool) (a1 a2 : Option Addr) (c1 c2 gp : Nat) (X : World → Prop) (w : World) (s6 s7 : Value) (wx : World) : Prop := ∃ (ge : Nat) (a0 : Option Addr) (c0 : Nat) (b0 : Option Addr) (d0 : Nat), s6 = .pointer (some ⟨ge, 0, none⟩) ∧ s7 = .bool found ∧ EdA wx wx.heap.size gp ge fs rs fs' rs' a1 a2 a0 b0 c1 c2 c0 d0 X ∧ Below w.heap.size w wx
/-- behind the program's call -/
def CutB (fs' : List Fl) (rs' : List Ru) (found : Bool) (S : Nat) (w : World) (s9 s10 : Value) (wx : World) : Prop := ∃ (gy g7 : Nat) (av : Option Addr) (cv : Nat) (a4 : Option Addr) (c4 : Nat) (bs7 : List (Nat × Fo)), s9 = .pointer (some ⟨gy, 0, none⟩) ∧ s10 = .bool found ∧ EdC wx S wx.heap.size gy g7 fs' rs' bs7 av a4 cv c4 ∧ Below S w wx
end Go.Proofs.YtmmjeokmoffdpaaGreat
