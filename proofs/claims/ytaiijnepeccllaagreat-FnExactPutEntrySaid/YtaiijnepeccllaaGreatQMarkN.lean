/-
  The laws' markEntry and heldEntry.
-/
import Derived.Test.YtaiijnepeccllaaGreatGone
import Derived.Test.YtaiijnepeccllaaGreatQEnBx
namespace Go.Proofs.YtaiijnepeccllaaGreat
set_option linter.unusedVariables false
set_option linter.unusedSimpArgs false
open Go.RowKit

set_option maxRecDepth 100000 in
set_option maxHeartbeats 1000000 in
theorem markEn_any (t s : ByteArray) (fs : List Fl) (x : ByteArray) (a : Option Addr) (c B k : Nat) (w : World) (ho : OwnsF w B (.slice a fs.length c) fs) (hn : fs.length ≤ 1048576) (h0 : 1 ≤ k) (h1 : k + 2 * fs.length ≤ 8388600) :
    Calls Tryz.prog 13 #[.agg #[.string t, .string s, .slice a fs.length c, .string x], .int .i64 k] w fun e w' =>
      e = .returned (.int .i64 (k + 2 * fs.length : Nat)) ∧ OwnsF w' B (.slice a fs.length c) (mrk k fs.length fs) ∧ w.grownBy w' (Value.slice a fs.length c).ownBlock := by
  have hx := BxN.new w t s (.slice a fs.length c) x 26
  have hg := World.grownBy_alloc w (.cells #[.string t, .string s, .slice a fs.length c, .string x] 26) (Value.slice a fs.length c).ownBlock
  have Ho := Lib.hid (ownsF_alloc ho (.cells #[.string t, .string s, .slice a fs.length c, .string x] 26))
  obtain ⟨x0, x1, x2, x3, _⟩ := hx.facts
  go_enter Tryz.func13, Tryz.ntmps13
  go_wp2_with fail
  refine (markF_any (.slice a fs.length c) B k fs _ Ho.out hn h0 h1).mono ?_
  rintro e w2 ⟨rfl, ho2, hg2⟩
  have H := Lib.hid (And.intro ho2 (growT hg hg2))
  clear ho2 hg2
  go_wp2_with fail
  go_ret
  exact ⟨rfl, H.out.1, H.out.2⟩

set_option maxRecDepth 100000 in
set_option maxHeartbeats 1000000 in
theorem heldEn_any (t s : ByteArray) (a : Option Addr) (n c k : Nat) (gs : List Fl) (x : ByteArray) (w : World) (hf : FilesAt w w.heap.size a n gs) (hm : ∀ j, j < n → gs[j]? = some (mkS (k + 2 * j), mkS (k + 2 * j + 1))) (hn : n ≤ 1048576) (h0 : 1 ≤ k) (h1 : k ≤ 16) :
    Calls Tryz.prog 14 #[.agg #[.string t, .string s, .slice a n c, .string x], .int .i64 k] w fun e w' =>
      e = .returned (.int .i64 (k + 2 * n : Nat)) ∧ Below w.heap.size w w' := by
  have hx := BxN.new w t s (.slice a n c) x 26
  have hB0 := (Below.refl w.heap.size w).alloc (Nat.le_refl _) (.cells #[.string t, .string s, .slice a n c, .string x] 26)
  have hf0 := (hf.below hB0).more hB0.size
  have hneg : ¬ ((k + 2 * n : Nat) : Int) < 0 := by omega
  obtain ⟨x0, x1, x2, x3, _⟩ := hx.facts
  go_enter Tryz.func14, Tryz.ntmps14
  go_wp2_with fail
  refine (heldF_any a n c k gs _ hf0 hm hn h0 h1).mono ?_
  rintro e w2 ⟨rfl, hB2⟩
  have B2 := hB0.trans (hB2.mono hB0.size)
  have Hr := Lib.hid (rfl : Ending.returned (.int .i64 ((k + 2 * n : Nat) : Int)) = .returned (.int .i64 ((k + 2 * n : Nat) : Int)))
  go_wp2_with fail
  go_ret
  exact ⟨by first | rfl | exact ret_int (by omega), B2⟩
end Go.Proofs.YtaiijnepeccllaaGreat
