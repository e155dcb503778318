/-
  Plain words for the drawn laws on ExprFree: what is free reads nothing; first and rest, comparisons, counts.
-/
import Derived.Test.YtbcghkdjhicocaaGreatReadsS
import Derived.Test.YtbcghkdjhicocaaGreatDynS
import Derived.Test.YtbcghkdjhicocaaGreatFreeM
namespace Go.Proofs.YtbcghkdjhicocaaGreat
set_option linter.unusedVariables false
open Go.RowKit

theorem fr1_reads_of {k : Int} {s : ByteArray} {ks : Fo} {x : ByteArray} (hn : nodeB k s ks.len = true) (ih : ∀ xs, frS ks = some xs → rdl ks = []) (h : fr1 k s ks = some x) : rd1 k ks = [] := by
  unfold fr1 at h
  by_cases h1 : k = 1
  · subst h1
    have h0 : ks.len = 0 := by
      rcases node_kinds hn with ⟨_, h0, _⟩ | ⟨h2, _⟩ | ⟨h2, _⟩ | ⟨h2, _⟩
      · exact h0
      · cases h2
      · cases h2
      · rcases h2 with h2 | h2 | h2 | h2 <;> cases h2
    cases ks with
    | nil => rfl
    | node => simp [Fo.len] at h0
  · rw [if_neg h1] at h
    cases hf : frS ks with
    | none => rw [hf] at h; cases h
    | some xs =>
      rw [hf, Option.bind_some] at h
      have h2 : k ≠ 2 := by
        rintro rfl
        unfold comb at h
        simp at h
      unfold rd1
      rw [if_neg h2, ih xs hf]
      rfl
theorem fr_reads : ∀ {f : Fo} {xs : List ByteArray}, good f = true → frS f = some xs → rdl f = []
  | .nil, _, _, _ => rfl
  | .node k s ks r, xs, hg, h => by
    simp only [good, Bool.and_eq_true] at hg
    rw [frS_node] at h
    cases h1 : fr1 k s ks with
    | none => rw [h1] at h; cases h
    | some x =>
      rw [h1, Option.bind_some] at h
      cases h2 : frS r with
      | none => rw [h2] at h; cases h
      | some ys =>
        rw [rdl_node, fr_reads hg.2 h2, fr1_reads_of hg.1.1 (fun xs hx => fr_reads hg.1.2 hx) h1]
        rfl
/-- what has a result of its own is valid and reads nothing -/
theorem free_plain {k : Int} {s : ByteArray} {ks : Fo} {x : ByteArray} (h : freeE k s ks = some x) : validE k s ks = true ∧ readsE k s ks = [] ∧ anyN (rd1 k ks) = false := by
  unfold freeE at h
  split at h
  · rename_i hv
    obtain ⟨hn, hg, _⟩ := valid_good hv
    have hr := fr1_reads_of hn (fun xs hx => fr_reads hg hx) h
    refine ⟨hv, ?_, by rw [hr]; rfl⟩
    unfold readsE
    rw [if_pos hv, hr]
    rfl
  · cases h
theorem frS_one {k : Int} {s : ByteArray} {ks : Fo} {y : ByteArray} (h : fr1 k s ks = some y) : frS (.node k s ks .nil) = some [y] := by rw [frS_node, h]; rfl
theorem fr_first {k : Int} {s : ByteArray} {ks : Fo} {y : ByteArray} (h : fr1 k s ks = some y) : fr1 5 .empty (.node k s ks .nil) = some (y.extract 0 (min 1 y.size)) := by
  unfold fr1
  rw [if_neg (by decide), frS_one h]
  rfl
theorem fr_rest {k : Int} {s : ByteArray} {ks : Fo} {y : ByteArray} (h : fr1 k s ks = some y) : fr1 6 .empty (.node k s ks .nil) = some (y.extract (min 1 y.size) y.size) := by
  unfold fr1
  rw [if_neg (by decide), frS_one h]
  rfl
theorem fr_count {k : Int} {s : ByteArray} {ks : Fo} {y : ByteArray} (h : fr1 k s ks = some y) : fr1 7 .empty (.node k s ks .nil) = some ⟨(Lib.decDigits y.size).toArray⟩ := by
  unfold fr1
  rw [if_neg (by decide), frS_one h]
  rfl
theorem cut_join (y : ByteArray) (m : Nat) (hm : m ≤ y.size) : y.extract 0 m ++ y.extract m y.size = y := by
  apply WideShapes.bytes_inj
  simp
/-- first and rest, joined -/
theorem fr_both {k : Int} {s : ByteArray} {ks : Fo} {y : ByteArray} (h : fr1 k s ks = some y) (hy : y.size ≤ 60) : fr1 3 .empty (.node 5 .empty (.node k s ks .nil) (.node 6 .empty (.node k s ks .nil) .nil)) = some y := by
  have e : y.extract 0 (min 1 y.size) ++ (y.extract (min 1 y.size) y.size ++ ByteArray.empty) = y := by rw [ByteArray.append_empty]; exact cut_join y _ (by omega)
  unfold fr1
  rw [if_neg (by decide), frS_node, fr_first h, Option.bind_some, frS_one (fr_rest h)]
  show comb 3 [_, _] = _
  unfold comb
  rw [if_pos rfl]
  show (if (_ ++ (_ ++ ByteArray.empty)).size ≤ 60 then some (_ ++ (_ ++ ByteArray.empty)) else none) = _
  rw [e, if_pos hy]
/-- a comparison -/
theorem fr_same {k k2 : Int} {s s2 u v : ByteArray} {ks ks2 : Fo} {x y : ByteArray} (h : fr1 k s ks = some x) (h2 : fr1 k2 s2 ks2 = some y) :
    fr1 4 .empty (.node k s ks (.node k2 s2 ks2 (.node 1 u .nil (.node 1 v .nil .nil)))) = some (if x = y then u else v) := by
  unfold fr1
  rw [if_neg (by decide), frS_node, h, Option.bind_some, frS_node, h2, Option.bind_some]
  rfl
/-- the digits of a number, read -/
theorem dec_read {n : Nat} (h : n < 100) : 1 ≤ (Lib.decDigits n).length ∧ (Lib.decDigits n).foldl (fun a d => a * 10 + (d.toNat - 48)) 0 = n := by
  by_cases h1 : n < 10
  · rw [dec_one h1]
    refine ⟨by simp, ?_⟩
    simp only [List.foldl_cons, List.foldl_nil, UInt8.toNat_ofNat']
    omega
  · rw [dec_two h1 h]
    refine ⟨by simp, ?_⟩
    simp only [List.foldl_cons, List.foldl_nil, UInt8.toNat_ofNat']
    omega
end Go.Proofs.YtbcghkdjhicocaaGreat
