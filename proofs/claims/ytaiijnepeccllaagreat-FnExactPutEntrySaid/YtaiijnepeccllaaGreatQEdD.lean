/-
  The reference's DropEntry.
-/
import Derived.Test.YtaiijnepeccllaaGreatQEdN
namespace Go.Proofs.YtaiijnepeccllaaGreat
set_option linter.unusedVariables false
set_option linter.unusedSimpArgs false
open Go.RowKit Go.Maps

set_option maxRecDepth 100000 in
set_option maxHeartbeats 4000000 in
theorem dropES_any (pb : ByteArray → Bool) (hpb : ∀ s, IsP s.data.toList (pb s)) (es : List En) (a : Option Addr) (n c : Nat) (x : ByteArray) (w : World) (hf : EnAt w 0 w.heap.size es a n) (hnl : NilOk w a n) (hfit : EnFits es) (hn : n ≤ maxLen) (hz : es.length + enTot es ≤ 1048576) :
    Calls Tryz.prog 20 #[.slice a n c, .string x] w (EdA (dropSt pb es x) w) := by
  obtain ⟨⟨⟨t, s, fs, y⟩, found⟩, hres⟩ : ∃ r, findSt pb es x = r := ⟨_, rfl⟩
  have Hc := Lib.hid (findES_any pb hpb es a n c x w hf hnl hfit hn hz)
  rw [hres] at Hc
  have Hq := Lib.hid (show dropSt pb es x = if found = true then (delE x es, true) else ([], false) by
    unfold findSt at hres
    unfold dropSt
    by_cases hv : stB pb es = true
    · rw [if_pos hv] at hres
      rw [hres]
      by_cases h : found = true <;> simp [hv, h]
    · rw [if_neg hv] at hres
      simp only [noEn, Prod.mk.injEq] at hres
      rw [if_neg fun h => hv h.1, ← hres.2]
      rfl)
  have HF := Lib.hid (And.intro hf hnl)
  clear hf hnl hres
  go_enter Tryz.func20, Tryz.ntmps20
  go_wp2_with fail
  refine Hc.out.mono ?_
  rintro e w1 ⟨a1, c1, rfl, _, hB1⟩
  have hBx := hB1.alloc hB1.size (.cells #[.string t, .string s, .slice a1 fs.length c1, .string y] 26)
  have hf1 := HF.out.1.next hBx
  have hn1 := HF.out.2.keep HF.out.1 fun p hp => hBx.cell hp
  cases found with
  | false =>
    clear hf1 hn1
    go_wp2_with fail
    refine bodyPost_ret (v := .tuple #[.slice (some ⟨w1.heap.size + 1, 0, none⟩) 0 0, .bool false]) (by simp [results, Tryz.results20, go_sem]) rfl ?_
    rw [Hq.out]
    have hs := hBx.size
    simp only [World.size_alloc] at hs
    have ho := OwnD.made (w1.alloc (.cells #[.string t, .string s, .slice a1 fs.length c1, .string y] 26))
    rw [World.size_alloc] at ho
    exact ⟨_, [], rfl, ho.mono hs, hBx.alloc (by simpa using hs) _⟩
  | true =>
    go_wp2_with fail
    refine (l5Drop_any a n c es x _ hf1 hn1 (by omega)).mono ?_
    rintro e w2 ⟨v, bs, rfl, hown, hB2⟩
    have B2 := hBx.trans (hB2.mono hBx.size)
    have Ho := Lib.hid (hown.mono hBx.size)
    clear hown hf1 hn1
    go_wp2_with fail
    refine bodyPost_ret (v := .tuple #[v, .bool true]) (by simp [results, Tryz.results20, go_sem]) rfl ?_
    rw [Hq.out]
    exact ⟨v, bs, rfl, Ho.out, B2⟩
end Go.Proofs.YtaiijnepeccllaaGreat
