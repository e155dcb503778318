/-
  The drawing functions on expressions: l2Lit, l2Named, l2Draw.
-/
import Derived.Test.YtahdpocaldhamaaGreatQOwnT
import Derived.Test.YtahdpocaldhamaaGreatGone
import Derived.LoopNIn
import Derived.Deep.RegionHeld3
namespace Go.Proofs.YtahdpocaldhamaaGreat
set_option linter.unusedVariables false
open Go.RowKit

/-- what a drawing function of expressions leaves: a node whose operands are of its own -/
def TreePost (m : Nat) (w : World) (B R : Nat) (a : Option Addr) (n c p l : Nat) (e : Ending) (w' : World) : Prop :=
  ∃ k s v ks q, e = .returned (.agg #[.int .i64 k, .string s, v]) ∧ OwnT w' w.heap.size v ks ∧ s.size ≤ 100 ∧ ks.Fits ∧ ks.size ≤ m ∧ Step w w' B R a n c p q l
theorem TreePost.fin {m B R n c p q l : Nat} {a : Option Addr} {w w1 : World} {k : Int} {s : ByteArray} {v : Value} {ks : Fo} (hst : Step w w1 B R a n c p q l) (hown : OwnT w1 (w.heap.size + 1) v ks) (hs : s.size ≤ 100) (hf : ks.Fits) (hm : ks.size ≤ m) (u0 u1 u2 : Value) (j : Nat) :
    TreePost m w B R a n c p l (.returned (.agg #[.int .i64 k, .string s, v])) ((((w1.setCell ⟨w.heap.size, 0, none⟩ u0).setCell ⟨w.heap.size, 1, none⟩ u1).setCell ⟨w.heap.size, 2, none⟩ u2).drewN j) := by
  refine ⟨k, s, v, ks, q, rfl, OwnT.mono ?_ (Nat.le_succ _), hs, hf, hm, (((hst.setNew (Nat.le_refl _) u0).setNew (Nat.le_refl _) u1).setNew (Nat.le_refl _) u2).drewN j⟩
  exact (((hown.setCell (Nat.lt_succ_self _) 0 u0).setCell (Nat.lt_succ_self _) 1 u1).setCell (Nat.lt_succ_self _) 2 u2).drewN j

section
variable {w w' : World} {g : Nat} {k : Int} {s : ByteArray} {v : Value} {T : TypeId}
theorem BxE.step {B R n c p q l : Nat} {a : Option Addr} (h : BxE w g k s v T) (hs : Step w w' B R a n c p q l) (hne : g ≠ R) : BxE w' g k s v T := h.grown hs.grown (fun e => hne (by injection e with e; exact e.symm))
end

theorem lit_any (s : ByteArray) (w : World) : Calls Tryz.prog 68 #[.string s] w fun e w' => e = .returned (.agg #[.int .i64 1, .string s, .slice none 0 0]) ∧ Below w.heap.size w w' := by
  go_enter Tryz.func68, Tryz.ntmps68
  go_wp2_with fail
  refine bodyPost_ret (v := .agg #[.int .i64 1, .string s, .slice none 0 0]) (by simp [results, Tryz.results68, go_sem]) rfl ?_
  exact ⟨rfl, (Below.refl _ _).alloc (Nat.le_refl _) _⟩

set_option maxHeartbeats 1000000 in
theorem named_any {n c p B R : Nat} {a : Option Addr} {w : World} (h : Rd w B R a n c p) (hp : p ≤ 1073741824) :
    Calls Tryz.prog 67 #[.pointer (some ⟨R, 0, none⟩)] w fun e w' => TreePost 1 w B R a n c p 1 e w' := by
  have hR := h.lt
  have h0 := (Step.refl h).alloc (.cells #[.int .i64 0, .string .empty, .slice none 0 0] 41)
  have hb0 := BxE.new w 0 .empty (.slice none 0 0) 41
  go_enter Tryz.func67, Tryz.ntmps67
  go_wp2_with fail
  refine (path_any h0.rd (by omega)).mono ?_
  rintro e w2 ⟨s, q, rfl, hs, hst⟩
  go_wp2_with fail
  refine (lit_any s w2).mono ?_
  rintro e w3 ⟨rfl, hB3⟩
  have hb3 := (hb0.step hst (by omega)).next hB3
  have hst3 := (h0.trans hst).below hB3
  obtain ⟨c0, c1, c2, f0, f1, f2, hl⟩ := hb3.facts
  go_wp2_with fail
  refine bodyPost_ret (v := .agg #[.int .i64 2, .string ⟨#[]⟩, .slice (some ⟨w3.heap.size, 0, none⟩) 1 1]) (by simp [results, Tryz.results67, go_sem, *]) rfl ?_
  have key : ∀ V : World, V.heap.size = w3.heap.size → Step w V B R a n c p q (0 + 1) → TreePost 1 w B R a n c p 1 (.returned (.agg #[.int .i64 2, .string ⟨#[]⟩, .slice (some ⟨w3.heap.size, 0, none⟩) 1 1])) (V.alloc (.cells #[.int .i64 1, .string s, .slice none 0 0] 41)) := fun V hV hs' =>
    ⟨2, _, _, .node 1 s .nil .nil, q, rfl, hV ▸ ⟨_, World.ownsRow_lit V #[.int .i64 1, .string s, .slice none 0 0] 1 (by omega) (by simp [maxLen]) rfl, none, 0, 0, [], rfl, Nat.le_refl _, ⟨w.heap.size, w.heap.size, KP.nil, Nat.le_refl _, by simp; omega, fun g hg => by simp [Value.ownBlock] at hg; omega⟩, rfl⟩, by decide, ⟨by unfold maxLen; omega, by simp [Fo.len], trivial, trivial⟩, by simp [Fo.size], (hs'.alloc _).more (by omega)⟩
  exact key _ (by simp [World.setCell]) (((hst3.setNew (Nat.le_refl _) _).setNew (Nat.le_refl _) _).setNew (Nat.le_refl _) _)
end Go.Proofs.YtahdpocaldhamaaGreat
