/-
  DrawProjectValid, DrawProjectPaths: a drawn project, twice mutated.
-/
import Derived.Test.YtceiafncpimihaaGreatQDrawM
import Derived.Test.YtceiafncpimihaaGreatGtwo
namespace Go.Proofs.YtceiafncpimihaaGreat
set_option linter.unusedVariables false
set_option linter.unusedSimpArgs false
open Go.RowKit

theorem RuO.at_ {w : World} {base : Nat} {v : Value} {rs : List Ru} (h : RuO w base v rs) : ∃ a c, v = .slice a rs.length c ∧ rs.length ≤ c ∧ RuAt w 0 w.heap.size rs a rs.length := by
  obtain ⟨a, c, e, hc, h1, h2⟩ := OwnG.form h
  refine ⟨a, c, e, hc, rfl, fun hn => ?_⟩
  obtain ⟨b, off, ha, hb, hg⟩ := h2 hn
  refine ⟨b, off, ha, Nat.zero_le _, hb, fun j t k s ks hj => ?_⟩
  obtain ⟨c0, c1, c2, a', c', c3, hl, hk⟩ := hg j t k s ks hj
  exact ⟨c0, c1, c2, a', ks.len, c', c3, hl, (hk.more (Nat.zero_le _) (Nat.le_refl _)).1⟩
theorem ownsF_none {w : World} {base : Nat} {v : Value} {fs : List Fl} (h : OwnsF w base v fs) : ∃ a c, v = .slice a fs.length c ∧ FilesAt w w.heap.size a fs.length fs ∧ (a = none → fs.length = 0 ∧ c = 0) := by
  obtain ⟨a, c, rfl, h1⟩ := OwnsF.form h
  refine ⟨a, c, rfl, h1, fun ha => ?_⟩
  subst ha
  rcases h.2 with ⟨e, h0⟩ | ⟨g, cap, cur, e, _⟩
  · injection e with _ e1 e2
    exact ⟨e1, e2⟩
  · simp at e
/-- what a drawn project is -/
def ProjDraw (m z : Nat) (w : World) (e : Ending) (w' : World) : Prop :=
  ∃ v1 v2 fs rs, e = .returned (.agg #[v1, v2]) ∧ OwnsF w' w.heap.size v1 fs ∧ RuO w' w.heap.size v2 rs ∧ Short 10 fs ∧ fs.length ≤ m ∧ RuSm z rs ∧ rs.length ≤ m ∧ Below w.heap.size w w'

end Go.Proofs.YtceiafncpimihaaGreat
