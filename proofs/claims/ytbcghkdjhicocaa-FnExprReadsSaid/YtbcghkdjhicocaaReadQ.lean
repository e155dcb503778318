/-
  Plain words for the drawn laws on ExprReads: the reads of a join; operands of a valid expression are valid.
-/
import Derived.Test.YtbcghkdjhicocaaReadsS
import Derived.Test.YtbcghkdjhicocaaDynS
namespace Go.Proofs.Ytbcghkdjhicocaa
set_option linter.unusedVariables false
open Go.RowKit

theorem mem_addN {xs : List ByteArray} {o : Option ByteArray} {s : ByteArray} (h : s ∈ xs) : s ∈ addN xs o := by
  cases o with
  | none => exact h
  | some t =>
    show s ∈ (if hasB xs t then xs else xs ++ [t])
    split
    · exact h
    · exact List.mem_append_left _ h
theorem mem_uniqN : ∀ {l : List (Option ByteArray)} {xs : List ByteArray} {s : ByteArray}, s ∈ xs → s ∈ uniqN xs l
  | [], _, _, h => h
  | o :: l, xs, s, h => mem_uniqN (l := l) (mem_addN (o := o) h)
theorem mem_addN_self {xs : List ByteArray} {s : ByteArray} : s ∈ addN xs (some s) := by
  show s ∈ (if hasB xs s then xs else xs ++ [s])
  split
  · rename_i h; exact hasB_iff.1 h
  · simp
theorem mem_uniqN_some : ∀ {ys xs : List ByteArray} {s : ByteArray}, s ∈ ys → s ∈ uniqN xs (ys.map some)
  | y :: ys, xs, s, h => by
    rcases List.mem_cons.1 h with rfl | h
    · exact mem_uniqN (l := ys.map some) mem_addN_self
    · exact mem_uniqN_some (ys := ys) h
  | [], _, _, h => by cases h
/-- adding what a list already says once: adding its words -/
theorem uniqN_uniq : ∀ (l : List (Option ByteArray)) (xs ys : List ByteArray), uniqN xs ((uniqN ys l).map some) = uniqN (uniqN xs (ys.map some)) l
  | [], _, _ => rfl
  | o :: l, xs, ys => by
    show uniqN xs ((uniqN (addN ys o) l).map some) = uniqN (addN (uniqN xs (ys.map some)) o) l
    rw [uniqN_uniq l xs (addN ys o)]
    congr 1
    cases o with
    | none => rfl
    | some s =>
      cases hh : hasB ys s with
      | true =>
        have h1 : addN ys (some s) = ys := by show (if hasB ys s then _ else _) = _; rw [hh]; rfl
        have h2 : hasB (uniqN xs (ys.map some)) s = true := hasB_iff.2 (mem_uniqN_some (hasB_iff.1 hh))
        rw [h1]
        show _ = (if hasB (uniqN xs (ys.map some)) s then _ else _)
        rw [h2]; rfl
      | false =>
        have h1 : addN ys (some s) = ys ++ [s] := by show (if hasB ys s then _ else _) = _; rw [hh]; rfl
        rw [h1, List.map_append]
        exact uniqN_snoc xs (ys.map some) (some s)
/-- the reads of both, from the reads of each -/
theorem reads_both {r1 r2 : List (Option ByteArray)} : uniqN [] (r1 ++ r2) = uniqN (uniqN [] r1) ((uniqN [] r2).map some) := by
  rw [uniqN_append, uniqN_uniq]
  rfl
theorem rd1_join {k1 k2 : Int} {s1 s2 : ByteArray} {f1 f2 : Fo} : rd1 3 (.node k1 s1 f1 (.node k2 s2 f2 .nil)) = rd1 k1 f1 ++ rd1 k2 f2 := by
  show [] ++ (rd1 k1 f1 ++ (rd1 k2 f2 ++ [])) = _
  simp
theorem shape_more : ∀ {f : Fo} {d : Nat}, shape f d = true → shape f (d + 1) = true
  | .nil, _, _ => rfl
  | .node k s ks r, d, h => by
    simp only [shape, Bool.and_eq_true, decide_eq_true_eq] at h ⊢
    have hk : shape ks (d + 1 - 1) = true := by
      have h2 := shape_more (f := ks) (d := d - 1) h.1.2
      rwa [show d - 1 + 1 = d + 1 - 1 by omega] at h2
    exact ⟨⟨⟨by omega, h.1.1.2⟩, hk⟩, shape_more h.2⟩
theorem shape_get : ∀ {f : Fo} {d j : Nat} {k : Int} {s : ByteArray} {ks : Fo}, shape f d = true → f.get j = some (k, s, ks) → shape (.node k s ks .nil) d = true
  | .node k s ks r, d, 0, _, _, _, h, hg => by
    simp only [Fo.get, Option.some.injEq, Prod.mk.injEq] at hg
    obtain ⟨rfl, rfl, rfl⟩ := hg
    simp only [shape, Bool.and_eq_true] at h ⊢
    exact ⟨h.1, trivial⟩
  | .node k s ks r, d, j + 1, _, _, _, h, hg => by
    simp only [shape, Bool.and_eq_true] at h
    exact shape_get (f := r) h.2 hg
  | .nil, _, _, _, _, _, _, hg => by simp [Fo.get] at hg
/-- operands of a valid expression are valid -/
theorem valid_get {k k' : Int} {s s' : ByteArray} {ks ks' : Fo} {j : Nat} (h : validE k s ks = true) (hg : ks.get j = some (k', s', ks')) : validE k' s' ks' = true := by
  unfold validE at h ⊢
  simp only [Bool.and_eq_true, decide_eq_true_eq] at h ⊢
  have h1 := h.1
  simp only [shape, Bool.and_eq_true] at h1
  have hz := Fo.get_size hg
  exact ⟨shape_get (shape_more h1.1.2) hg, by omega⟩
end Go.Proofs.Ytbcghkdjhicocaa
