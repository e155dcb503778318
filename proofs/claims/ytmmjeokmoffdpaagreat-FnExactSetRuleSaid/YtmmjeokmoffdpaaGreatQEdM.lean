/-
  The law's helpers markProject and heldProject, over a project in rows that share no block.
-/
import Derived.Test.YtmmjeokmoffdpaaGreatQBkRW
import Derived.Test.YtmmjeokmoffdpaaGreatGone
import Derived.Test.YtmmjeokmoffdpaaGreatQEdI
import Derived.Test.YtmmjeokmoffdpaaGreatQMarkP
namespace Go.Proofs.YtmmjeokmoffdpaaGreat
set_option linter.unusedVariables false
set_option linter.unusedSimpArgs false
open Go.RowKit

theorem ownsF_keep {W W' : World} {B : Nat} {v : Value} {fs : List Fl} (h : OwnsF W B v fs) (hk : ∀ x, v.ownBlock = some x → W'.heap[x]? = W.heap[x]?) : OwnsF W' B v fs := by
  refine ⟨h.1, h.2.imp id ?_⟩
  rintro ⟨g, cap, cur, rfl, h1, h2, r⟩
  exact ⟨g, cap, cur, rfl, h1, (hk g rfl).trans h2, r⟩
theorem bxP_grown' {w w' : World} {g : Nat} {u v : Value} {T : TypeId} {r : Option Nat} (h : BxP w g u v T) (hg : w.grownBy w' r) (hne : r ≠ some g) : BxP w' g u v T := (hg.block g (blk_lt h) (fun e => hne e.symm)).trans h
/-- a project that the program handed back, between S and G -/
structure EdC (W : World) (S G gy g : Nat) (fs : List Fl) (rs : List Ru) (bs : List (Nat × Fo)) (av a4 : Option Addr) (cv c4 : Nat) : Prop where
  of : OwnsF W S (.slice av fs.length cv) fs
  fb : ∀ x, (Value.slice av fs.length cv).ownBlock = some x → x < G ∧ x ≠ gy
  ru : RuAt W S G rs a4 rs.length
  sep : SepRA W bs g a4 rs.length
  nd : (rblksA g bs).Nodup
  in_ : ∀ x ∈ rblksA g bs, S ≤ x ∧ x < G ∧ x ≠ gy
  dj : ∀ x ∈ rblksA g bs, (Value.slice av fs.length cv).ownBlock ≠ some x
  sz : bsz bs = ruMk rs
  bx : BxP W gy (.slice av fs.length cv) (.slice a4 rs.length c4) 36
  ls : S ≤ gy
  ly : gy < G
/-- .. marked -/
structure EdN (W : World) (S G gy g : Nat) (fs : List Fl) (rs : List Ru) (bs : List (Nat × Fo)) (av a4 : Option Addr) (cv c4 : Nat) : Prop where
  of : OwnsF W S (.slice av fs.length cv) (mrk 1 fs.length fs)
  fb : ∀ x, (Value.slice av fs.length cv).ownBlock = some x → x < G ∧ x ≠ gy
  mq : MkdRA W bs g a4 rs.length (1 + 2 * fs.length)
  in_ : ∀ x ∈ rblksA g bs, S ≤ x ∧ x < G ∧ x ≠ gy
  sz : bsz bs = ruMk rs
  bx : BxP W gy (.slice av fs.length cv) (.slice a4 rs.length c4) 36
  ls : S ≤ gy
  ly : gy < G
section
variable {W W' : World} {L S G gy g cv c4 : Nat} {fs : List Fl} {rs : List Ru} {bs : List (Nat × Fo)} {av a4 : Option Addr}
theorem EdC.below (h : EdC W S G gy g fs rs bs av a4 cv c4) (hb : Below G W W') : EdC W' S G gy g fs rs bs av a4 cv c4 := by
  have hly := h.ly
  exact ⟨ownsF_keep h.of fun x hx => hb.block x (by have := h.fb x hx; omega), h.fb, h.ru.below hb, h.sep.keep fun x hx _ => hb.block x (by have := h.in_ x hx; omega), h.nd, h.in_, h.dj, h.sz, (hb.block gy hly).trans h.bx, h.ls, h.ly⟩
theorem EdC.tch (h : EdC W S G gy g fs rs bs av a4 cv c4) (hG : G ≤ W.heap.size) (hb : Tch L S W W') : EdC W' S G gy g fs rs bs av a4 cv c4 := by
  have hly := h.ly
  have hls := h.ls
  exact ⟨ownsF_keep h.of fun x hx => hb.out x (by have := h.fb x hx; omega) (.inr (OwnsF.lt h.of x hx).1), h.fb, h.ru.keep (Nat.le_refl _) (Nat.le_refl _) fun p h1 h2 => World.cell?_of_block (hb.out p.block (by omega) (.inr h1)), h.sep.keep fun x hx h1 => hb.out x h1 (.inr (h.in_ x hx).1), h.nd, h.in_, h.dj, h.sz, (hb.out gy (by omega) (.inr hls)).trans h.bx, h.ls, h.ly⟩
theorem EdC.files (h : EdC W S G gy g fs rs bs av a4 cv c4) : FilesAt W W.heap.size av fs.length fs := OwnsF.at_ h.of
theorem EdC.rules (h : EdC W S G gy g fs rs bs av a4 cv c4) (hG : G ≤ W.heap.size) : RuAt W 0 W.heap.size rs a4 rs.length := h.ru.more (Nat.zero_le _) hG
theorem EdN.below (h : EdN W S G gy g fs rs bs av a4 cv c4) (hb : Below G W W') : EdN W' S G gy g fs rs bs av a4 cv c4 := by
  have hly := h.ly
  exact ⟨ownsF_keep h.of fun x hx => hb.block x (by have := h.fb x hx; omega), h.fb, h.mq.keep fun x hx _ => hb.block x (by have := h.in_ x hx; omega), h.in_, h.sz, (hb.block gy hly).trans h.bx, h.ls, h.ly⟩
/-- .. whose box was made ahead of the call -/
theorem edC_set {w wc : World} (h1 : OwnsF w wc.heap.size (.slice av fs.length cv) fs) (h2 : ∀ x ∈ rblksA g bs, (Value.slice av fs.length cv).ownBlock ≠ some x) (hq : CopQ w wc.heap.size rs a4 c4 bs g) {u v : Value} (hE : BxP w gy u v 36) (hg : gy < wc.heap.size) (hS : S ≤ gy) (hG : w.heap.size ≤ G) :
    EdC ((w.setCell ⟨gy, 0, none⟩ (.slice av fs.length cv)).setCell ⟨gy, 1, none⟩ (.slice a4 rs.length c4)) S G gy g fs rs bs av a4 cv c4 := by
  have hl := blk_lt hE
  obtain ⟨h3, h4, h5, h6, h7⟩ := (hq.setCell hg 0 (.slice av fs.length cv)).setCell hg 1 (.slice a4 rs.length c4)
  have hsz : ((w.setCell ⟨gy, 0, none⟩ (.slice av fs.length cv)).setCell ⟨gy, 1, none⟩ (.slice a4 rs.length c4)).heap.size = w.heap.size := by simp [World.setCell]
  rw [hsz] at h3 h6
  exact ⟨World.ownsRow.mono (OwnsF.set (OwnsF.set h1 hg 0 _) hg 1 _) (by omega), fun x hx => by have := OwnsF.lt h1 x hx; omega, h3.more (by omega) hG, h4, h5, fun x hx => by have := h6 x hx; omega, h2, h7, (hE.set0 _).set1 _, hS, by omega⟩
end

set_option maxRecDepth 100000 in
set_option maxHeartbeats 2000000 in
theorem markPX_any (S G gy g : Nat) (fs : List Fl) (rs : List Ru) (bs : List (Nat × Fo)) (av a4 : Option Addr) (cv c4 : Nat) (w : World) (h : EdC w S G gy g fs rs bs av a4 cv c4) (hG : G ≤ w.heap.size) (hz : fs.length ≤ 1048576) (hz2 : rs.length ≤ 1048576) (hz3 : ruMk rs ≤ 4000000) :
    Calls Tryz.prog 12 #[.agg #[.slice av fs.length cv, .slice a4 rs.length c4], .int .i64 ((1 : Nat) : Int)] w fun e w' => e = .returned (.int .i64 (1 + 2 * fs.length + ruMk rs : Nat)) ∧ EdN w' S G gy g fs rs bs av a4 cv c4 ∧ Below S w w' := by
  have hly := h.ly
  have hls := h.ls
  have B0 := (Below.refl w.heap.size w).alloc (Nat.le_refl _) (.cells #[.slice av fs.length cv, .slice a4 rs.length c4] 36)
  have hbx := BxP.new w (.slice av fs.length cv) (.slice a4 rs.length c4) 36
  have h0 := h.below (B0.mono hG)
  have hw0 : (w.alloc (.cells #[.slice av fs.length cv, .slice a4 rs.length c4] 36)).heap.size = w.heap.size + 1 := by simp
  have H0 := Lib.hid h0
  clear h h0
  go_enter Tryz.func12, Tryz.ntmps12
  go_wp2_with fail
  refine (markF_any (.slice av fs.length cv) S 1 fs _ H0.out.of hz (by omega) (by omega)).mono ?_
  rintro e w1 ⟨rfl, hm1, hg1⟩
  have hs1 := hg1.size
  have hfb := Lib.hid H0.out.fb
  have hbx1 : BxP w1 w.heap.size (.slice av fs.length cv) (.slice a4 rs.length c4) 36 := bxP_grown' hbx hg1 (fun e => by have := hfb.out _ e; omega)
  have hsep1 := H0.out.sep.keep (w' := w1) fun x hx hxs => hg1.block x hxs (fun e => H0.out.dj x hx e.symm)
  have hby1 : BxP w1 gy (.slice av fs.length cv) (.slice a4 rs.length c4) 36 := bxP_grown' H0.out.bx hg1 (fun e => by have := hfb.out _ e; omega)
  have H1 := Lib.hid (And.intro hm1 (And.intro hsep1 hby1))
  have hB1 : Below S w w1 := (B0.mono (by omega)).grown hg1 (by omega) (fun x hx => (OwnsF.lt H0.out.of x hx).1)
  have hbz := H0.out.sz
  have hbm : 1 + 2 * fs.length + bsz bs ≤ 8388600 := by omega
  have Hbz := Lib.hid hbz
  obtain ⟨p0, p1, pf0, pf1, hpl⟩ := hbx1.facts
  clear hbx hm1 hg1 hsep1 hby1 hbx1 hbz
  go_wp2_with fail
  refine (markRQ_any bs a4 g _ c4 (1 + 2 * fs.length) w1 H1.out.2.1 H0.out.nd (by omega) hbm hz2).mono ?_
  rintro e w2 ⟨rfl, hmk, hT⟩
  have hs2 := hT.size
  have hin := Lib.hid H0.out.in_
  have hof : OwnsF w2 S (.slice av fs.length cv) (mrk 1 fs.length fs) := ownsF_keep H1.out.1 fun x hx => hT.out x (by have := hfb.out x hx; omega) (fun hm => H0.out.dj x hm hx)
  have hby : BxP w2 gy (.slice av fs.length cv) (.slice a4 rs.length c4) 36 := (hT.out gy (by omega) (fun hm => by have := (hin.out gy hm).2; omega)).trans H1.out.2.2
  have hB2 : Below S w1 w2 := ⟨hT.os, hT.tape, hT.output, hT.size, fun x hx => hT.out x (by omega) (fun hm => by have := (hin.out x hm).1; omega)⟩
  have HF := Lib.hid (And.intro (show EdN w2 S G gy g fs rs bs av a4 cv c4 from ⟨hof, hfb.out, hmk, hin.out, Hbz.out, hby, hls, hly⟩) (hB1.trans hB2))
  rw [Hbz.out]
  clear hT hmk hof hby hB2 hB1
  go_wp2_with fail
  go_ret
  exact ⟨rfl, HF.out.1, HF.out.2⟩

set_option maxRecDepth 100000 in
set_option maxHeartbeats 2000000 in
theorem heldPX_any (S G gy g : Nat) (fs : List Fl) (rs : List Ru) (bs : List (Nat × Fo)) (av a4 : Option Addr) (cv c4 : Nat) (w : World) (h : EdN w S G gy g fs rs bs av a4 cv c4) (hG : G ≤ w.heap.size) (hz : fs.length ≤ 1048576) (hz2 : rs.length ≤ 1048576) (hz3 : ruMk rs ≤ 4000000) :
    Calls Tryz.prog 14 #[.agg #[.slice av fs.length cv, .slice a4 rs.length c4], .int .i64 ((1 : Nat) : Int)] w fun e w' => e = .returned (.int .i64 (1 + 2 * fs.length + ruMk rs : Nat)) ∧ Below w.heap.size w w' := by
  have B0 := (Below.refl w.heap.size w).alloc (Nat.le_refl _) (.cells #[.slice av fs.length cv, .slice a4 rs.length c4] 36)
  have hbx := BxP.new w (.slice av fs.length cv) (.slice a4 rs.length c4) 36
  have H0 := Lib.hid (h.below (B0.mono hG))
  clear h
  go_enter Tryz.func14, Tryz.ntmps14
  go_wp2_with fail
  refine (heldO H0.out.of hz).mono ?_
  rintro e w1 ⟨rfl, hB1⟩
  have B1 := B0.trans (hB1.mono B0.size)
  have hbx1 := hbx.next hB1
  have Hmk := Lib.hid (H0.out.mq.keep (w' := w1) fun x _ hxs => hB1.block x hxs)
  have hbz := H0.out.sz
  have hbm : 1 + 2 * fs.length + bsz bs ≤ 8388600 := by omega
  have Hbz := Lib.hid hbz
  have hnn : ¬ (((1 + 2 * fs.length : Nat) : Int) < 0) := by omega
  obtain ⟨p0, p1, pf0, pf1, hpl⟩ := hbx1.facts
  clear hbx hB1 hbx1 hbz
  go_wp2_with fail
  refine (heldRQ_any bs a4 g _ c4 (1 + 2 * fs.length) w1 Hmk.out (by omega) hbm hz2).mono ?_
  rintro e w2 ⟨rfl, hB2⟩
  have B2 := B1.trans (hB2.mono B1.size)
  have hnn2 : ¬ (((1 + 2 * fs.length + bsz bs : Nat) : Int) < 0) := by omega
  clear hB2
  go_wp2_with fail
  go_ret
  exact ⟨ret_int (by have := Hbz.out; omega), B2⟩
end Go.Proofs.YtmmjeokmoffdpaaGreat
