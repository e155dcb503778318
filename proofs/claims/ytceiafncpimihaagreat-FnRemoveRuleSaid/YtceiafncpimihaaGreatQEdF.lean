/-
  The program's changes of the sources of a project: the closures of SetSource and RemoveSource, and the two functions.
-/
import Derived.Test.YtceiafncpimihaaGreatQEdI
import Derived.Test.YtceiafncpimihaaGreatQPutI
import Derived.Deep.RegionLaw
namespace Go.Proofs.YtceiafncpimihaaGreat
set_option linter.unusedVariables false
set_option linter.unusedSimpArgs false
open Go.RowKit

theorem cf_setSrc (args : Array Value) (w' : World) : Sem.run Tryz.prog (callFunc 32 args) w' = .ok (.enter 32 args) w' := by kernel_rfl
theorem cf_delSrc (args : Array Value) (w' : World) : Sem.run Tryz.prog (callFunc 43 args) w' = .ok (.enter 43 args) w' := by kernel_rfl
/-- where the change of the sources leaves the project -/
theorem chF_mk {W w1 : World} {g n2 c1 c2 : Nat} {a1 a2 : Option Addr} {fs' : List Fl} {rs : List Ru} {u : Value} {b : Bool} (hbx : BxP w1 g u (.slice a2 n2 c2) 26) (hr : RuAt W 0 g rs a2 n2) (hnc : n2 ≤ c2) (hB : Below W.heap.size W w1) (hg : g < W.heap.size) (ho : OwnsF w1 W.heap.size (.slice a1 fs'.length c1) fs') :
    ChP g fs' rs b W (.returned (.bool b)) (w1.setCell ⟨g, 0, none⟩ (.slice a1 fs'.length c1)) := by
  obtain ⟨a1', c1', e, hf⟩ := (OwnsF.set ho hg 0 (.slice a1 fs'.length c1)).form
  injection e with e1 _ e3
  subst e1 e3
  have hsz : (w1.setCell ⟨g, 0, none⟩ (.slice a1 fs'.length c1)).heap.size = w1.heap.size := by simp [World.setCell]
  refine ⟨a1, _, c1, a2, n2, c2, rfl, hbx.set0 _, fun _ => ⟨hf, ?_, hnc⟩, grown_set (World.grownBy.mk hB.os hB.tape hB.output hB.size fun i hi _ => hB.block i hi) (.inl rfl) _⟩
  exact ((hr.below (hB.mono (Nat.le_of_lt hg))).setCell (.inr (Nat.le_refl g)) 0 _).more (Nat.le_refl _) (by rw [hsz]; have := hB.size; omega)

set_option maxRecDepth 100000 in
set_option maxHeartbeats 4000000 in
theorem setSrc1_any (g gc : Nat) (a1 a2 : Option Addr) (n1 n2 c1 c2 : Nat) (fs : List Fl) (rs : List Ru) (p t : ByteArray) (T : TypeId) (W : World) (hbx : BxP W g (.slice a1 n1 c1) (.slice a2 n2 c2) 26) (hbc : BxP W gc (.string p) (.string t) T) (hf : FilesAt W g a1 n1 fs) (hr : RuAt W 0 g rs a2 n2) (hnc : n2 ≤ c2) (hs : Fits fs) (hn1 : n1 ≤ maxLen) (hp : p.size ≤ maxLen) (ht : t.size ≤ maxLen)
    (fs' : List Fl) (b : Bool) (hput : putR (p, t) fs = (fs', b)) :
    Calls Tryz.prog 32 #[.pointer (some ⟨g, 0, none⟩), .pointer (some ⟨gc, 0, none⟩)] W (ChP g fs' rs b W) := by
  have hg := blk_lt hbx
  have Hc := Lib.hid ((putI_any a1 n1 c1 fs p t W.drew ((hf.more (Nat.le_of_lt hg)).drew) hs hn1 hp ht).mono fun e w' h => h.openO hput)
  obtain ⟨p0, p1, pf0, pf1, hpl⟩ := hbx.facts
  obtain ⟨q0, q1, qf0, qf1, hql⟩ := hbc.facts
  go_enter Tryz.func32, Tryz.ntmps32
  go_wp2_with fail
  go_region_law (first
    | (go_simp; go_at_call 33; refine Calls.mono Hc.out ?_; rintro e w1 ⟨av, cv, rfl, hown, hB1⟩; have hbx1 := hbx.next ((Below.refl W.heap.size W).drew.trans hB1); obtain ⟨y0, y1, yf0, yf1, hyl⟩ := hbx1.facts))
  all_goals
    have hB1' : Below W.heap.size W w1 := (Below.refl W.heap.size W).drew.trans hB1
    have HF := Lib.hid (chF_mk (b := b) hbx1 hr hnc hB1' hg hown)
    clear hown hB1 hB1'
    go_wp2_with fail
    go_ret
    exact HF.out

set_option maxRecDepth 100000 in
set_option maxHeartbeats 4000000 in
theorem delSrc1_any (g gc : Nat) (a1 a2 : Option Addr) (n1 n2 c1 c2 : Nat) (fs : List Fl) (rs : List Ru) (x : ByteArray) (W : World) (hbx : BxP W g (.slice a1 n1 c1) (.slice a2 n2 c2) 26) (hbc : W.cell? ⟨gc, 0, none⟩ = some (.string x)) (hf : FilesAt W g a1 n1 fs) (hr : RuAt W 0 g rs a2 n2) (hnc : n2 ≤ c2) (hs : Fits fs) (hn1 : n1 ≤ maxLen) (hx : x.size ≤ maxLen)
    (fs' : List Fl) (b : Bool) (hput : delR x fs = (fs', b)) :
    Calls Tryz.prog 43 #[.pointer (some ⟨g, 0, none⟩), .pointer (some ⟨gc, 0, none⟩)] W (ChP g fs' rs b W) := by
  have hg := blk_lt hbx
  have Hc := Lib.hid ((delI_any a1 n1 c1 fs x W.drew ((hf.more (Nat.le_of_lt hg)).drew) hs hn1 hx).mono fun e w' h => h.openO hput)
  obtain ⟨p0, p1, pf0, pf1, hpl⟩ := hbx.facts
  go_enter Tryz.func43, Tryz.ntmps43
  go_wp2_with fail
  go_region_law (first
    | (go_simp; go_at_call 44; refine Calls.mono Hc.out ?_; rintro e w1 ⟨av, cv, rfl, hown, hB1⟩; have hbx1 := hbx.next ((Below.refl W.heap.size W).drew.trans hB1); obtain ⟨y0, y1, yf0, yf1, hyl⟩ := hbx1.facts))
  all_goals
    have hB1' : Below W.heap.size W w1 := (Below.refl W.heap.size W).drew.trans hB1
    have HF := Lib.hid (chF_mk (b := b) hbx1 hr hnc hB1' hg hown)
    clear hown hB1 hB1'
    go_wp2_with fail
    go_ret
    exact HF.out

/-- what SetSource answers -/
def setSrcR (f : Fl) (fs : List Fl) (rs : List Ru) : List Fl × List Ru × Bool := if projB fs rs = true ∧ projB (putF f fs) rs = true then (putF f fs, rs, true) else ([], [], false)
/-- what RemoveSource answers -/
def delSrcR (x : ByteArray) (fs : List Fl) (rs : List Ru) : List Fl × List Ru × Bool := if projB fs rs = true ∧ hasF fs x = true ∧ projB (delU x fs) rs = true then (delU x fs, rs, true) else ([], [], false)
/-- an answer of the four edits, in one word -/
def EdR (r : List Fl × List Ru × Bool) (w : World) (e : Ending) (w' : World) : Prop := EdP r.1 r.2.1 r.2.2 w e w'
theorem proj_valid {fs : List Fl} {rs : List Ru} (h : projB fs rs = true) : validB fs = true := by
  unfold projB at h
  simp only [Bool.and_eq_true] at h
  exact h.1.1
theorem setSrcR_of {f : Fl} {fs fs' : List Fl} {rs : List Ru} {b : Bool} {w w' : World} {e : Ending} (hp : projB fs rs = true) (hput : putR f fs = (fs', b)) (h : (if b = true ∧ projB fs' rs = true then EdP fs' rs true w else EdP [] [] false w) e w') : EdR (setSrcR f fs rs) w e w' := by
  unfold EdR setSrcR
  by_cases hv : validB (putF f fs) = true
  · rw [putR_fine (proj_valid hp) hv] at hput
    cases hput
    by_cases h2 : projB (putF f fs) rs = true
    · rw [if_pos ⟨hp, h2⟩]; rwa [if_pos ⟨rfl, h2⟩] at h
    · rw [if_neg (fun h => h2 h.2)]; rwa [if_neg (fun h => h2 h.2)] at h
  · rw [putR_not (by simpa using hv)] at hput
    cases hput
    rw [if_neg (fun h => hv (proj_valid h.2))]
    rwa [if_neg (fun h => by cases h.1)] at h
theorem delSrcR_of {x : ByteArray} {fs fs' : List Fl} {rs : List Ru} {b : Bool} {w w' : World} {e : Ending} (hp : projB fs rs = true) (hput : delR x fs = (fs', b)) (h : (if b = true ∧ projB fs' rs = true then EdP fs' rs true w else EdP [] [] false w) e w') : EdR (delSrcR x fs rs) w e w' := by
  unfold EdR delSrcR
  by_cases hv : hasF fs x = true
  · rw [delR_fine (proj_valid hp) hv] at hput
    cases hput
    by_cases h2 : projB (delU x fs) rs = true
    · rw [if_pos ⟨hp, hv, h2⟩]; rwa [if_pos ⟨rfl, h2⟩] at h
    · rw [if_neg (fun h => h2 h.2.2)]; rwa [if_neg (fun h => h2 h.2)] at h
  · rw [delR_not (by simpa using hv)] at hput
    cases hput
    rw [if_neg (fun h => hv h.2.1)]
    rwa [if_neg (fun h => by cases h.1)] at h
end Go.Proofs.YtceiafncpimihaaGreat
