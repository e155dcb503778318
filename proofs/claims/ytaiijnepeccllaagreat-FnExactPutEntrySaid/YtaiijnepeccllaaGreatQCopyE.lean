/-
  The program's copyEntry, the reference's l5Copy: an entry whose reads lie in a row of their own.
-/
import Derived.Test.YtaiijnepeccllaaGreatGone
import Derived.Test.YtaiijnepeccllaaGreatQEnBx
namespace Go.Proofs.YtaiijnepeccllaaGreat
set_option linter.unusedVariables false
set_option linter.unusedSimpArgs false
open Go.RowKit

theorem grown_setE (w : World) (R i : Nat) (u : Value) : w.grownBy (w.setCell ⟨R, i, none⟩ u) (some R) := ⟨rfl, rfl, rfl, by simp [World.setCell], fun k _ hk => Below.heap_setCell w _ _ k (fun e => hk (by simpa using e))⟩
theorem OwnsF.setB {w : World} {base g : Nat} {v : Value} {fs : List Fl} (h : OwnsF w base v fs) (hg : g < base) (i : Nat) (u : Value) : OwnsF (w.setCell ⟨g, i, none⟩ u) base v fs :=
  World.ownsRow.kept (row := some g) h (grown_setE w g i u) (by
    cases hv : v.ownBlock with
    | none => exact .inl rfl
    | some b => exact .inr fun e => by injection e with e; have := World.ownsRow.lt h b hv; omega)
/-- what copyEntry leaves -/
def CopE (t s : ByteArray) (fs : List Fl) (x : ByteArray) (w : World) (e : Ending) (w' : World) : Prop := ∃ a c, e = .returned (.agg #[.string t, .string s, .slice a fs.length c, .string x]) ∧ OwnsF w' w.heap.size (.slice a fs.length c) fs ∧ Below w.heap.size w w'

set_option maxRecDepth 100000 in
set_option maxHeartbeats 2000000 in
theorem copyEntry_any (t s : ByteArray) (fs : List Fl) (x : ByteArray) (a : Option Addr) (n c : Nat) (w : World) (hf : FilesAt w w.heap.size a n fs) (hn : n ≤ 1048576) :
    Calls Tryz.prog 26 #[.agg #[.string t, .string s, .slice a n c, .string x]] w (CopE t s fs x w) := by
  have hB0 := ((Below.refl w.heap.size w).alloc (Nat.le_refl _) (.cells #[.string t, .string s, .slice a n c, .string x] 26)).alloc (by simp) (.cells #[.string .empty, .string .empty, .slice none 0 0, .string .empty] 26)
  have hP0 := (BxN.new w t s (.slice a n c) x 26).alloc (.cells #[.string .empty, .string .empty, .slice none 0 0, .string .empty] 26)
  have hE0 := BxN.new (w.alloc (.cells #[.string t, .string s, .slice a n c, .string x] 26)) .empty .empty (.slice none 0 0) .empty 26
  simp only [World.size_alloc] at hE0
  have hf0 := (hf.below hB0).more hB0.size
  obtain ⟨p0, p1, p2, p3, pf0, pf1, pf2, pf3, pl⟩ := hP0.facts
  go_enter Tryz.func26, Tryz.ntmps26
  go_wp2_with fail
  refine (copyFiles_any a n c fs _ hf0 hn).mono ?_
  rintro e w2 ⟨v, rfl, hown, hB2⟩
  obtain ⟨a2, c2, rfl, _⟩ := hown.form
  have hP2 := hP0.next hB2
  have hE2 := hE0.next hB2
  have hs2 := hB2.size
  simp only [World.size_alloc] at hs2 hown
  clear p0 p1 p2 p3 pf0 pf1 pf2 pf3
  obtain ⟨p0, p1, p2, p3, pf0, pf1, pf2, pf3, pl2⟩ := hP2.facts
  obtain ⟨q0, q1, q2, q3, qf0, qf1, qf2, qf3, ql2⟩ := hE2.facts
  have B2 := hB0.trans (hB2.mono hB0.size)
  have Hown := Lib.hid hown
  clear hown hs2
  go_wp2_with fail
  refine bodyPost_ret (v := .agg #[.string t, .string s, .slice a2 fs.length c2, .string x]) (by simp [results, Tryz.results26, go_sem, *] <;> rfl) rfl ?_
  exact ⟨a2, c2, rfl, World.ownsRow.mono (((((Hown.out.setB (by omega) _ _).setB (by omega) _ _).setB (by omega) _ _).setB (by omega) _ _).setB (by omega) _ _) (by omega), ((((B2.setCell (Nat.le_refl _) _).setCell (Nat.le_succ _) _).setCell (Nat.le_succ _) _).setCell (Nat.le_succ _) _).setCell (Nat.le_succ _) _⟩
end Go.Proofs.YtaiijnepeccllaaGreat
