/-
  Plain words on the results of expressions that read nothing. No program is named here.
-/
import Derived.Test.YtbcghkdjhicocaaGreatFmtM
import Derived.Lib.ItoaNum
namespace Go.Proofs.YtbcghkdjhicocaaGreat
set_option linter.unusedVariables false
open Go.RowKit

/-- strings one after the other -/
def catS : List ByteArray → ByteArray
  | [] => .empty
  | x :: xs => x ++ catS xs
/-- the result of a node, given those of its operands -/
def comb (k : Int) (xs : List ByteArray) : Option ByteArray :=
  if k = 3 then (if (catS xs).size ≤ 60 then some (catS xs) else none)
  else if k = 4 then some (if (xs[0]?).getD ByteArray.empty = (xs[1]?).getD ByteArray.empty then (xs[2]?).getD ByteArray.empty else (xs[3]?).getD ByteArray.empty)
  else if k = 5 then some (((xs[0]?).getD ByteArray.empty).extract 0 (min 1 ((xs[0]?).getD ByteArray.empty).size))
  else if k = 6 then some (((xs[0]?).getD ByteArray.empty).extract (min 1 ((xs[0]?).getD ByteArray.empty).size) ((xs[0]?).getD ByteArray.empty).size)
  else if k = 7 then some ⟨(Lib.decDigits ((xs[0]?).getD ByteArray.empty).size).toArray⟩
  else none
/-- the results of nodes, if all have one -/
def frS : Fo → Option (List ByteArray)
  | .nil => some []
  | .node k s ks r => ((if k = 1 then some s else (frS ks).bind (comb k)) : Option ByteArray).bind fun x => (frS r).map (x :: ·)
/-- the result of a node -/
def fr1 (k : Int) (s : ByteArray) (ks : Fo) : Option ByteArray := if k = 1 then some s else (frS ks).bind (comb k)
theorem frS_node (k : Int) (s : ByteArray) (ks r : Fo) : frS (.node k s ks r) = (fr1 k s ks).bind fun x => (frS r).map (x :: ·) := rfl
theorem frS_len : ∀ {f : Fo} {xs : List ByteArray}, frS f = some xs → xs.length = f.len
  | .nil, _, h => by cases h; rfl
  | .node k s ks r, xs, h => by
    rw [frS_node] at h
    cases h1 : fr1 k s ks with
    | none => rw [h1] at h; cases h
    | some x =>
      rw [h1, Option.bind_some] at h
      cases h2 : frS r with
      | none => rw [h2] at h; cases h
      | some ys =>
        rw [h2] at h
        cases h
        simp only [List.length_cons, Fo.len, frS_len h2]
theorem dec_one {n : Nat} (h : n < 10) : Lib.decDigits n = [UInt8.ofNat (48 + n)] := by rw [Lib.decDigits]; rw [dif_pos h]
theorem dec_two {n : Nat} (h : ¬ n < 10) (h2 : n < 100) : Lib.decDigits n = [UInt8.ofNat (48 + n / 10), UInt8.ofNat (48 + n % 10)] := by rw [Lib.decDigits]; rw [dif_neg h, dec_one (by omega)]; rfl
theorem dec_len {n : Nat} (h : n < 100) : (Lib.decDigits n).length ≤ 2 := by
  by_cases h1 : n < 10
  · rw [dec_one h1]; simp
  · rw [dec_two h1 h]; simp
theorem comb_size {k : Int} {xs : List ByteArray} {x : ByteArray} (h : comb k xs = some x) (hx : ∀ y ∈ xs, y.size ≤ 60) : x.size ≤ 60 := by
  have hg : ∀ i : Nat, ((xs[i]?).getD ByteArray.empty).size ≤ 60 := by
    intro i
    cases hi : xs[i]? with
    | none => simp
    | some y => exact hx y (List.mem_of_getElem? hi)
  unfold comb at h
  split at h
  · split at h
    · cases h; assumption
    · cases h
  · split at h
    · cases h; split <;> exact hg _
    · split at h
      · cases h; have := hg 0; rw [ByteArray.size_extract]; omega
      · split at h
        · cases h; have := hg 0; rw [ByteArray.size_extract]; omega
        · split at h
          · cases h
            have := hg 0
            show (Lib.decDigits _).toArray.size ≤ 60
            have h2 := dec_len (n := ((xs[0]?).getD ByteArray.empty).size) (by omega)
            simp; omega
          · cases h
theorem frS_sizes : ∀ {f : Fo} {xs : List ByteArray}, good f = true → frS f = some xs → ∀ y ∈ xs, y.size ≤ 60
  | .nil, _, _, h, y, hy => by cases h; cases hy
  | .node k s ks r, xs, hg, h, y, hy => by
    simp only [good, Bool.and_eq_true] at hg
    rw [frS_node] at h
    cases h1 : fr1 k s ks with
    | none => rw [h1] at h; cases h
    | some x =>
      rw [h1, Option.bind_some] at h
      cases h2 : frS r with
      | none => rw [h2] at h; cases h
      | some ys =>
        rw [h2] at h
        cases h
        rcases List.mem_cons.1 hy with rfl | hy
        · unfold fr1 at h1
          split at h1
          · cases h1; exact node_size hg.1.1
          · cases h3 : frS ks with
            | none => rw [h3] at h1; cases h1
            | some zs => rw [h3, Option.bind_some] at h1; exact comb_size h1 (frS_sizes hg.1.2 h3)
        · exact frS_sizes hg.2 h2 y hy
theorem fr1_size {k : Int} {s : ByteArray} {ks : Fo} {x : ByteArray} (hn : nodeB k s ks.len = true) (hg : good ks = true) (h : fr1 k s ks = some x) : x.size ≤ 60 :=
  frS_sizes (f := .node k s ks .nil) (xs := [x]) (by simp only [good, hn, hg, Bool.and_true]) (by rw [frS_node, h]; rfl) x (by simp)
/-- the result of an expression, if it is valid and has one -/
def freeE (k : Int) (s : ByteArray) (ks : Fo) : Option ByteArray := if validE k s ks = true then fr1 k s ks else none
/-- text and true, or the empty text and false -/
def resV : Option ByteArray → Value
  | some x => .tuple #[.string x, .bool true]
  | none => .tuple #[.string .empty, .bool false]
end Go.Proofs.YtbcghkdjhicocaaGreat
