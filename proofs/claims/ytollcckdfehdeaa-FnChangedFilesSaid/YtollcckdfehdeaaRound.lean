/-
  A region that draws its order, within a round of a range over a function: it is walked as anywhere. No program is named here.
-/
import Derived.RangeFuncNested
import Derived.RangeFuncCalls
import Derived.Deep.RegionHeld3
import Derived.OrdersIn
namespace Go.Proofs.Ytollcckdfehdeaa
set_option linter.unusedVariables false
open Go

theorem oper_in_round {l n : Nat} {P : Program} {o : Oper} (hnd : ∀ c, o.op ≠ .defer c) {a : Act} {w : World} {K : Act → World → Prop} {Q : Exit → Act → World → Prop}
    (hlo : ¬ LetsOut Q) (h : o.wp P a w K Q ∨ (o.asks P a w ∧ LetsOut Q)) : o.wpIn (Fence.wide.inRound l) n P a w K Q := by
  rcases h with h | h
  · refine ⟨fun _ _ => trivial, ?_⟩
    rw [Oper.semAt_eq _ _ _ hnd]
    unfold Oper.wp at h
    generalize (execOp a.eval o).run P w = r at h ⊢
    match r, h with
    | .ok (.value v) w', h => exact h
    | .ok .skip w', h => exact h
    | .ok (.defer d) w', h => exact h
    | .ok (.enter f args) w', h => exact ⟨(fun h0 => absurd h0 (by simp [Fence.wide])), (CallsIn.inRound l (callsIn_wide.2 h)).mono fun e w'' hh => by cases e <;> exact hh⟩
    | .ok (.row row args) w', h => exact ⟨(fun h0 => absurd h0 (by simp [Fence.wide])), fun c cs _ => let ⟨v, w'', r, s⟩ := h c cs; ⟨v, w'', r, stepsIn_wide.2 s⟩⟩
    | .halt (.panic v) w', h => exact h
  · exact absurd h.2 hlo

theorem any_in_round {l n : Nat} {P : Program} {md : Region.Mode} {ops : Array Oper} (hnd : ∀ o ∈ ops.toList, ∀ c, o.op ≠ .defer c) {Q : Exit → Act → World → Prop} (hlo : ¬ LetsOut Q) :
    ∀ (fuel : Nat) (listed : Array Bool) (a : Act) (w : World), wpAny P md ops Q fuel listed a w → wpAnyIn (Fence.wide.inRound l) n P md ops Q fuel listed a w
  | 0, _, _, _, h => h
  | fuel + 1, listed, a, w, h => by
    refine ⟨h.1, fun i hi => ?_⟩
    have h2 := h.2 i hi
    unfold wpOp at h2
    unfold wpOpIn
    cases ho : ops[i]? with
    | none => rw [ho] at h2; exact any_in_round hnd hlo fuel _ _ _ h2
    | some o =>
      rw [ho] at h2
      dsimp only at h2 ⊢
      split at h2
      · rename_i hw
        rw [if_pos hw]
        have hmem : o ∈ ops.toList := by
          obtain ⟨hl, he⟩ := Array.getElem?_eq_some_iff.1 ho
          rw [← he]; exact Array.getElem_mem_toList hl
        exact Oper.wpIn_mono (fun a w hh => any_in_round hnd hlo fuel _ a w hh) (oper_in_round (hnd o hmem) hlo h2)
      · rename_i hw
        rw [if_neg hw]
        exact ⟨fun _ _ => trivial, any_in_round hnd hlo fuel _ _ _ h2⟩

theorem region_in_round {l n : Nat} {P : Program} {ops : Array Oper} {id : Nat} {Q : Exit → Act → World → Prop} {a : Act} {w : World} (S : World → Prop) (hm : P.follows .mixedOrders = true)
    (hnd : ∀ o ∈ ops.toList, ∀ c, o.op ≠ .defer c) (hlo : ¬ LetsOut Q) (hS : S w.drew)
    (h : S w.drew → wpAnyH P .any ops Q S ops.size (Array.replicate ops.size false) a w.drew) : (Code.region id ops true).wpIn (Fence.wide.inRound l) n P Q a w :=
  wpIn_region_any hm (any_in_round hnd hlo _ _ _ _ (wpAny_of_held _ _ _ _ (h hS)))
end Go.Proofs.Ytollcckdfehdeaa
