/-
  A project at hand: its lists can be read, its bodies lie in plain blocks; how large it is; what came out of a draw is one. The program's and the reference's functions on such projects.
-/
import Derived.Test.YtceiafncpimihaaGreatQDrawN
import Derived.Test.YtceiafncpimihaaGreatQPjM
namespace Go.Proofs.YtceiafncpimihaaGreat
set_option linter.unusedVariables false
set_option linter.unusedSimpArgs false
open Go.RowKit

/-- what is known of a project's lists themselves -/
structure PjZ (fs : List Fl) (rs : List Ru) : Prop where
  fit : Fits fs
  rfit : RuFits rs
  z : RuZ rs
  n1 : fs.length ≤ 1000
  n2 : rs.length ≤ 1000
  sm : ∀ r ∈ rs, r.2.2.2.size ≤ 1048576 ∧ r.2.2.2.Fits ∧ r.2.2.1.size ≤ 1000 ∧ r.2.2.2.len ≤ 1048576
/-- where it lies -/
structure PjA (w : World) (fs : List Fl) (rs : List Ru) (a1 a2 : Option Addr) : Prop where
  f : FilesAt w w.heap.size a1 fs.length fs
  r : RuAt w 0 w.heap.size rs a2 rs.length
  p : RuP w rs a2 rs.length
theorem PjZ.m1 {fs : List Fl} {rs : List Ru} (h : PjZ fs rs) : fs.length ≤ maxLen := by have := h.n1; unfold maxLen; omega
theorem PjZ.m2 {fs : List Fl} {rs : List Ru} (h : PjZ fs rs) : rs.length ≤ maxLen := by have := h.n2; unfold maxLen; omega
theorem PjA.next {w w' : World} {fs : List Fl} {rs : List Ru} {a1 a2 : Option Addr} (h : PjA w fs rs a1 a2) (hB : Below w.heap.size w w') : PjA w' fs rs a1 a2 :=
  ⟨(h.f.below hB).more hB.size, h.r.next hB, h.p.next hB⟩
theorem PjA.al {w : World} {fs : List Fl} {rs : List Ru} {a1 a2 : Option Addr} (h : PjA w fs rs a1 a2) (o : Obj) : PjA (w.alloc o) fs rs a1 a2 := h.next ((Below.refl _ _).alloc (Nat.le_refl _) o)
theorem ruP_of_O {w : World} {base c : Nat} {a : Option Addr} {rs : List Ru} (h : RuO w base (.slice a rs.length c) rs) : RuP w rs a rs.length := by
  obtain ⟨a', c', e, _, h1, h2⟩ := OwnG.form h
  cases e
  refine ⟨rfl, fun hn => ?_⟩
  obtain ⟨b, off, ha, hb, hg⟩ := h2 hn
  refine ⟨b, off, ha, hb, fun j t k s ks hj => ?_⟩
  obtain ⟨c0, c1, c2, a', c', c3, hl, hk⟩ := hg j t k s ks hj
  exact ⟨c0, c1, c2, a', ks.len, c', c3, hl, hk.rd⟩
theorem ruZ_sm {z : Nat} {rs : List Ru} (h : RuSm z rs) (hz : z ≤ 1048576) (hn : rs.length ≤ 1000) : RuZ rs := ⟨by omega, fun x hx => Nat.le_trans (h x hx).2.2.2 hz⟩
theorem ruFits_sm {z : Nat} {rs : List Ru} (h : RuSm z rs) (hz : z ≤ 1048576) : RuFits rs := fun x hx => by
  obtain ⟨h1, h2, h3, h4⟩ := h x hx
  have := Fo.size_len x.2.2.2
  exact ⟨by unfold maxLen; omega, by unfold maxLen; omega, by unfold maxLen; omega, h3⟩
theorem fits_short {m : Nat} {fs : List Fl} (h : Short m fs) (hm : m ≤ 1000000) : Fits fs := fun f hf => ⟨by have := (h f hf).1; unfold maxLen; omega, by have := (h f hf).2; unfold maxLen; omega⟩
theorem ruSm_all {z : Nat} {rs : List Ru} (h : RuSm z rs) (hz : z ≤ 1048576) : ∀ r ∈ rs, r.2.2.2.size ≤ 1048576 ∧ r.2.2.2.Fits ∧ r.2.2.1.size ≤ 1000 ∧ r.2.2.2.len ≤ 1048576 := fun x hx => by
  obtain ⟨h1, h2, h3, h4⟩ := h x hx
  have := Fo.size_len x.2.2.2
  exact ⟨by omega, h3, by omega, by omega⟩
/-- out of a draw -/
theorem pj_draw {w : World} {base m z : Nat} {v1 v2 : Value} {fs : List Fl} {rs : List Ru} (hof : OwnsF w base v1 fs) (hru : RuO w base v2 rs) (hsh : Short 10 fs) (hl1 : fs.length ≤ m) (hsm : RuSm z rs) (hl2 : rs.length ≤ m) (hm : m ≤ 1000) (hz : z ≤ 1048576) :
    ∃ a1 c1 a2 c2, v1 = .slice a1 fs.length c1 ∧ v2 = .slice a2 rs.length c2 ∧ rs.length ≤ c2 ∧ (a1 = none → fs.length = 0 ∧ c1 = 0) ∧ PjA w fs rs a1 a2 ∧ PjZ fs rs := by
  obtain ⟨a1, c1, rfl, hf, hn⟩ := ownsF_none hof
  obtain ⟨a2, c2, rfl, hc, hr⟩ := hru.at_
  exact ⟨a1, c1, a2, c2, rfl, rfl, hc, hn, ⟨hf, hr, ruP_of_O hru⟩, ⟨fits_short hsh (by omega), ruFits_sm hsm hz, ruZ_sm hsm hz (by omega), by omega, by omega, ruSm_all hsm hz⟩⟩
end Go.Proofs.YtceiafncpimihaaGreat
