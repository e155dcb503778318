/-
  Pairs of nodes whose operands are pairs again: a closed set of them holds equal trees only.
-/
import Derived.Test.YtahdpocaldhamaaGreatQEqM
namespace Go.Proofs.YtahdpocaldhamaaGreat
set_option linter.unusedVariables false
set_option linter.unusedSimpArgs false
open Go.RowKit

section
variable {w w' : World}
/-- two nodes that agree but for their operands, the pairs of which are in M -/
def LocP (w : World) (M : Pr → Prop) (m : Pr) : Prop := ∃ k s ks ks' a a' n c c', RdN w k s ks m.1 ∧ RdN w k s ks' m.2 ∧ w.cell? ⟨m.1.1, m.1.2 + 2, none⟩ = some (.slice a n c) ∧ w.cell? ⟨m.2.1, m.2.2 + 2, none⟩ = some (.slice a' n c') ∧ ∀ i, i < n → M (kid a i, kid a' i)
theorem LocP.more {M M' : Pr → Prop} {m : Pr} (h : LocP w M m) (hM : ∀ x, M x → M' x) : LocP w M' m :=
  let ⟨k, s, ks, ks', a, a', n, c, c', h1, h2, h3, h4, h5⟩ := h
  ⟨k, s, ks, ks', a, a', n, c, c', h1, h2, h3, h4, fun i hi => hM _ (h5 i hi)⟩
/-- in a closed set stand pairs of equal trees only -/
theorem closed_eq {M : Pr → Prop} (hM : ∀ m, M m → LocP w M m) (N : Nat) : ∀ {k k' : Int} {s s' : ByteArray} {ks ks' : Fo} {m : Pr}, ks.size ≤ N → RdN w k s ks m.1 → RdN w k' s' ks' m.2 → M m → k = k' ∧ s = s' ∧ ks = ks' := by
  induction N with
  | zero =>
    intro k k' s s' ks ks' m hN h h' hm
    obtain ⟨k1, s1, f, f', a, a', n, c, c', h1, h2, h3, h4, h5⟩ := hM m hm
    obtain ⟨rfl, rfl, rfl⟩ := h.inj h1
    obtain ⟨rfl, rfl, rfl⟩ := h'.inj h2
    refine ⟨rfl, rfl, ?_⟩
    obtain ⟨_, _, _, a1, n1, c1, e1, _, e2⟩ := h
    obtain ⟨_, _, _, a2, n2, c2, e3, _, e4⟩ := h'
    rw [h3] at e1
    rw [h4] at e3
    cases e1
    cases e3
    have := ks.len_size
    have h0 : n = 0 := by rw [← e2.1]; omega
    refine Fo.ext fun j => ?_
    rw [fo_none (by rw [e2.1]; omega), fo_none (by rw [e4.1]; omega)]
  | succ N ih =>
    intro k k' s s' ks ks' m hN h h' hm
    obtain ⟨k1, s1, f, f', a, a', n, c, c', h1, h2, h3, h4, h5⟩ := hM m hm
    obtain ⟨rfl, rfl, rfl⟩ := h.inj h1
    obtain ⟨rfl, rfl, rfl⟩ := h'.inj h2
    refine ⟨rfl, rfl, ?_⟩
    obtain ⟨_, _, _, a1, n1, c1, e1, _, e2⟩ := h
    obtain ⟨_, _, _, a2, n2, c2, e3, _, e4⟩ := h'
    rw [h3] at e1
    rw [h4] at e3
    cases e1
    cases e3
    refine Fo.ext fun j => ?_
    by_cases hj : j < n
    · obtain ⟨kj, sj, fj, hg, hr⟩ := e2.get hj
      obtain ⟨kj', sj', fj', hg', hr'⟩ := e4.get hj
      obtain ⟨rfl, rfl, rfl⟩ := ih (m := (kid a j, kid a' j)) (by have := Fo.get_size hg; omega) hr hr' (h5 j hj)
      rw [hg, hg']
    · rw [fo_none (by rw [e2.1]; omega), fo_none (by rw [e4.1]; omega)]
/-- how many nodes the left trees of these pairs have -/
def SumS (w : World) : List Pr → Nat → Prop
  | [], N => N = 0
  | m :: W, N => ∃ k s ks N', RdN w k s ks m.1 ∧ SumS w W N' ∧ N = ks.size + 1 + N'
theorem SumS.len : ∀ {W : List Pr} {N : Nat}, SumS w W N → W.length ≤ N
  | [], _, _ => Nat.zero_le _
  | m :: W, N, ⟨k, s, ks, N', _, h, e⟩ => by have := SumS.len h; simp only [List.length_cons]; omega
theorem SumS.push {k : Int} {s : ByteArray} {ks : Fo} {m : Pr} (hr : RdN w k s ks m.1) : ∀ {W : List Pr} {N : Nat}, SumS w W N → SumS w (W ++ [m]) (N + (ks.size + 1))
  | [], N, h => ⟨k, s, ks, 0, hr, rfl, by simp only [SumS] at h; omega⟩
  | x :: W, N, ⟨k', s', ks', N', h1, h2, e⟩ => ⟨k', s', ks', _, h1, SumS.push hr h2, by omega⟩
theorem SumS.pop {k : Int} {s : ByteArray} {ks : Fo} {m : Pr} (hr : RdN w k s ks m.1) : ∀ {W : List Pr} {N : Nat}, SumS w (W ++ [m]) N → ∃ N', SumS w W N' ∧ N = N' + (ks.size + 1)
  | [], N, ⟨k', s', ks', N', h1, h2, e⟩ => by
    obtain ⟨_, _, rfl⟩ := hr.inj h1
    simp only [SumS] at h2
    exact ⟨0, rfl, by omega⟩
  | x :: W, N, ⟨k', s', ks', N', h1, h2, e⟩ => by
    obtain ⟨N2, h3, h4⟩ := SumS.pop hr h2
    exact ⟨_, ⟨k', s', ks', N2, h1, h3, rfl⟩, by omega⟩
/-- where the comparison stands: M has been compared, W is still to be -/
structure EqI (w : World) (root : Pr) (req : Prop) (M W : List Pr) : Prop where
  rd : ∀ m ∈ W, ∃ k s ks k' s' ks', RdN w k s ks m.1 ∧ RdN w k' s' ks' m.2 ∧ (req → k = k' ∧ s = s' ∧ ks = ks')
  loc : ∀ m ∈ M, LocP w (fun x => x ∈ M ∨ x ∈ W) m
  rt : root ∈ M ∨ root ∈ W
  pl : ∀ m ∈ M, PPln w m
section
variable {root m : Pr} {req : Prop} {M W : List Pr}
theorem EqI.start {k k' : Int} {s s' : ByteArray} {ks ks' : Fo} (h : RdN w k s ks root.1) (h' : RdN w k' s' ks' root.2) : EqI w root (k = k' ∧ s = s' ∧ ks = ks') [] [root] :=
  ⟨fun m hm => by obtain rfl : m = root := by simpa using hm
                  exact ⟨k, s, ks, k', s', ks', h, h', id⟩, fun m hm => by simp at hm, .inr (by simp), fun m hm => by simp at hm⟩
/-- a pair that has been compared goes -/
theorem EqI.drop (h : EqI w root req M (W ++ [m])) (hm : m ∈ M) : EqI w root req M W := by
  have hx : ∀ x, x ∈ M ∨ x ∈ W ++ [m] → x ∈ M ∨ x ∈ W := by
    rintro x (h | h)
    · exact .inl h
    · rcases List.mem_append.1 h with h | h
      · exact .inr h
      · obtain rfl : x = m := by simpa using h
        exact .inl hm
  exact ⟨fun y hy => h.rd y (List.mem_append_left _ hy), fun y hy => (h.loc y hy).more hx, hx _ h.rt, h.pl⟩
/-- a pair is compared, its operands are still to be -/
theorem EqI.next {k : Int} {s : ByteArray} {ks ks' : Fo} {a a' : Option Addr} {n c c' : Nat} (h : EqI w root req M (W ++ [m])) (h1 : RdN w k s ks m.1) (h2 : RdN w k s ks' m.2) (h3 : w.cell? ⟨m.1.1, m.1.2 + 2, none⟩ = some (.slice a n c)) (h4 : w.cell? ⟨m.2.1, m.2.2 + 2, none⟩ = some (.slice a' n c')) :
    EqI w root req (M ++ [m]) (W ++ (List.range n).map fun i => (kid a i, kid a' i)) := by
  have hx : ∀ x, x ∈ M ∨ x ∈ W ++ [m] → x ∈ M ++ [m] ∨ x ∈ W ++ (List.range n).map fun i => (kid a i, kid a' i) := by
    rintro x (h | h)
    · exact .inl (List.mem_append_left _ h)
    · rcases List.mem_append.1 h with h | h
      · exact .inr (List.mem_append_left _ h)
      · exact .inl (List.mem_append_right _ h)
  obtain ⟨k1, s1, f1, k2, s2, f2, r1, r2, hq⟩ := h.rd m (by simp)
  obtain ⟨rfl, rfl, rfl⟩ := r1.inj h1
  obtain ⟨rfl, rfl, rfl⟩ := r2.inj h2
  refine ⟨fun y hy => ?_, fun y hy => ?_, hx _ h.rt, fun y hy => ?_⟩
  · rcases List.mem_append.1 hy with hy | hy
    · exact h.rd y (List.mem_append_left _ hy)
    · obtain ⟨i, hi, rfl⟩ := List.mem_map.1 hy
      have hi := List.mem_range.1 hi
      obtain ⟨_, _, _, a1, n1, c1, e1, _, e2⟩ := h1
      obtain ⟨_, _, _, a2, n2, c2, e3, _, e4⟩ := h2
      rw [h3] at e1
      rw [h4] at e3
      cases e1
      cases e3
      obtain ⟨kj, sj, fj, hg, hr⟩ := e2.get hi
      obtain ⟨kj', sj', fj', hg', hr'⟩ := e4.get hi
      refine ⟨kj, sj, fj, kj', sj', fj', hr, hr', fun hr => ?_⟩
      have := (hq hr).2.2
      rw [this, hg'] at hg
      simp only [Option.some.injEq, Prod.mk.injEq] at hg
      exact ⟨hg.1.symm, hg.2.1.symm, hg.2.2.symm⟩
  · rcases List.mem_append.1 hy with hy | hy
    · exact (h.loc y hy).more hx
    · obtain rfl : y = m := by simpa using hy
      exact ⟨_, _, _, _, a, a', n, c, c', h1, h2, h3, h4, fun i hi => .inr (List.mem_append_right _ (List.mem_map.2 ⟨i, List.mem_range.2 hi, rfl⟩))⟩
  · rcases List.mem_append.1 hy with hy | hy
    · exact h.pl y hy
    · obtain rfl : y = m := by simpa using hy
      exact ⟨h1.1, h2.1⟩
/-- nothing is left: the trees are equal -/
theorem EqI.done {k k' : Int} {s s' : ByteArray} {ks ks' : Fo} (h : EqI w root req M []) (h1 : RdN w k s ks root.1) (h2 : RdN w k' s' ks' root.2) : k = k' ∧ s = s' ∧ ks = ks' := by
  refine closed_eq (M := fun x => x ∈ M) (fun m hm => (h.loc m hm).more fun x hx => ?_) ks.size (Nat.le_refl _) h1 h2 ?_
  · rcases hx with hx | hx
    · exact hx
    · simp at hx
  · rcases h.rt with hx | hx
    · exact hx
    · simp at hx
end
/-- the sizes of a node's operands -/
theorem SumS.kids {ks : Fo} {a a' : Option Addr} {n : Nat} (h : RdA w ks a n) : ∀ {W : List Pr} {N : Nat} (j : Nat), j ≤ n → SumS w W N → ∃ N', SumS w (W ++ (List.range j).map fun i => (kid a i, kid a' i)) N' ∧ N' + (ks.drop j).size = N + ks.size
  | W, N, 0, _, hs => ⟨N, by simpa using hs, by rw [Fo.drop_zero]⟩
  | W, N, j + 1, hj, hs => by
    obtain ⟨N', h1, h2⟩ := SumS.kids (a' := a') h j (by omega) hs
    obtain ⟨k, s, f, hg, hr⟩ := h.get (show j < n by omega)
    refine ⟨N' + (f.size + 1), ?_, ?_⟩
    · rw [List.range_succ, List.map_append, ← List.append_assoc]
      exact SumS.push (m := (kid a j, kid a' j)) hr h1
    · rw [Fo.drop_get hg] at h2
      simp only [Fo.size] at h2
      omega
end
end Go.Proofs.YtahdpocaldhamaaGreat
