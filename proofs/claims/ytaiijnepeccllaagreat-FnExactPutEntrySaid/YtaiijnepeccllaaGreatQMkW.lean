/-
  The laws' markEntryS and heldEntryS over lists of entries of one's own, walked.
-/
import Derived.Test.YtaiijnepeccllaaGreatQMkD
import Derived.Deep.RegionHeld3
namespace Go.Proofs.YtaiijnepeccllaaGreat
set_option linter.unusedVariables false
set_option linter.unusedSimpArgs false
open Go.RowKit

/-- the first j entries are marked from k on -/
def MkTo (k : Nat) (es es' : List En) (j : Nat) : Prop := es'.length = es.length ∧ (∀ i, i < j → es'[i]? = (mrkE k es)[i]?) ∧ ∀ i, j ≤ i → es'[i]? = es[i]?
theorem MkTo.zero (k : Nat) (es : List En) : MkTo k es es 0 := ⟨rfl, fun i h => absurd h (by omega), fun _ _ => rfl⟩
theorem MkTo.all {k : Nat} {es es' : List En} (h : MkTo k es es' es.length) : es' = mrkE k es := by
  refine List.ext_getElem? fun i => ?_
  by_cases hi : i < es.length
  · exact h.2.1 i hi
  · rw [List.getElem?_eq_none (by have := h.1; omega), List.getElem?_eq_none (by rw [mrkE_len]; omega)]
theorem MkTo.step {k j : Nat} {es es' : List En} {t s x : ByteArray} {fs : List Fl} (h : MkTo k es es' j) (hg : es[j]? = some (t, s, fs, x)) :
    MkTo k es ((((es'.set j (mkS (k + enMk (es.take j)), s, fs, x)).set j (mkS (k + enMk (es.take j)), mkS (k + enMk (es.take j) + 1), fs, x)).set j (mkS (k + enMk (es.take j)), mkS (k + enMk (es.take j) + 1), mrk (k + enMk (es.take j) + 2) fs.length fs, x)).set j (mkS (k + enMk (es.take j)), mkS (k + enMk (es.take j) + 1), mrk (k + enMk (es.take j) + 2) fs.length fs, mkS (k + enMk (es.take j) + 2 + 2 * fs.length))) (j + 1) := by
  have hj := (List.getElem?_eq_some_iff.1 hg).1
  rw [List.set_set, List.set_set, List.set_set]
  refine ⟨by rw [List.length_set]; exact h.1, fun i hi => ?_, fun i hi => ?_⟩
  · by_cases e : i = j
    · subst e
      rw [List.getElem?_set_self (by have := h.1; omega), mrkE_get hg]
    · rw [List.getElem?_set_ne (fun e' => e e'.symm)]
      exact h.2.1 i (by omega)
  · rw [List.getElem?_set_ne (by omega)]
    exact h.2.2 i (by omega)

set_option maxRecDepth 100000 in
set_option maxHeartbeats 4000000 in
theorem markD_any (v : Value) (base k : Nat) (es : List En) (bs : List Nat) (w : World) (h : OwnD w base v es bs) (h1 : 1 ≤ k) (hb : k + enMk es ≤ 8388600) (hz : es.length + enTot es ≤ 1048577) :
    Calls Tryz.prog 12 #[v, .int .i64 k] w fun e w' => e = .returned (.int .i64 (k + enMk es : Nat)) ∧ OwnD w' base v (mrkE k es) bs ∧ Below base w w' := by
  have hbase := h.1
  have hcs : (v = .slice none 0 0 ∧ es.length = 0) ∨ ∃ g cap, v = .slice (some ⟨g, 0, none⟩) es.length cap := by
    obtain ⟨_, xs, hx, _⟩ := h
    exact hx.2.imp id fun ⟨g, cap, cur, e, _⟩ => ⟨g, cap, e⟩
  rcases hcs with ⟨rfl, h00⟩ | ⟨g, cap, rfl⟩
  · obtain rfl : es = [] := List.eq_nil_of_length_eq_zero h00
    have H := Lib.hid h
    clear h
    go_enter Tryz.func12, Tryz.ntmps12
    go_wp2_with fail
    go_loopw [1, 5] (fun x i wr => x = .int .i64 k ∧ i = .int .i64 0 ∧ wr = w) (fun _ _ _ => 0)
    case atStart => exact ⟨rfl, rfl, rfl⟩
    case round =>
      obtain ⟨rfl, rfl, rfl⟩ := hrel
      go_wp2_with fail
      go_ret
      exact ⟨rfl, H.out, Below.refl _ _⟩
  · have H := Lib.hid h
    clear h
    go_enter Tryz.func12, Tryz.ntmps12
    go_wp2_with fail
    go_loopw [1, 5] (fun x i wr => ∃ (j : Nat) (es' : List En), j ≤ es.length ∧ i = .int .i64 j ∧ x = .int .i64 (k + enMk (es.take j) : Nat) ∧ MkTo k es es' j ∧ OwnD wr base (.slice (some ⟨g, 0, none⟩) es.length cap) es' bs ∧ Below base w wr) (fun _ i _ => es.length - (intOf i).toNat)
    case atStart => exact ⟨0, es, Nat.zero_le _, rfl, by simp [enMk], MkTo.zero k es, H.out, Below.refl _ _⟩
    case round =>
      obtain ⟨j, es', hj, rfl, rfl, hmk, hown, hB⟩ := hrel
      have hsw := Nat.le_trans hbase hB.size
      have hle := enMk_take_le es j
      have hle1 := enMk_take_le es (j + 1)
      have Hmk := Lib.hid hmk
      have Hown := Lib.hid hown
      clear hmk hown
      by_cases hlt : j < es.length
      · obtain ⟨⟨t, s, fs, y⟩, hg⟩ : ∃ x, es[j]? = some x := ⟨_, List.getElem?_eq_getElem hlt⟩
        have htk := enMk_take hg
        have hts := enTot_get hg
        simp only [enSz] at hts
        have Hst := Lib.hid (Hmk.out.step hg)
        have hg' : es'[j]? = some (t, s, fs, y) := (Hmk.out.2.2 j (Nat.le_refl _)).trans hg
        have hl' : j < es'.length := (List.getElem?_eq_some_iff.1 hg').1
        generalize hm : k + enMk (es.take j) = m at *
        have hm1 : 1 ≤ m := by omega
        have hmm : m + 3 + 2 * fs.length ≤ 8388600 := by omega
        have hmn : k + enMk (es.take (j + 1)) = m + 3 + 2 * fs.length := by omega
        clear hm hg htk
        have Hg := Lib.hid hg'
        clear hg'
        go_wp2_with fail
        refine (markText_at m _ (by omega) (by omega) (by omega)).mono ?_
        rintro e w1 ⟨rfl, hB1⟩
        have ho1 := Hown.out.below hB1
        obtain ⟨a1, c1, q0, q1, q2, q3, _, _⟩ := ho1.cells Hg.out
        have qf0 := ho1.frozen (j * 4)
        have B1 := hB.trans (hB1.mono hsw)
        have Ho2 := Lib.hid (ho1.stored (i := j * 4) (u := .string (mkS m)) (List.length_set ..) fun xs hx => rowD_set0 hx Hg.out)
        have Hg2 := Lib.hid (show (es'.set j (mkS m, s, fs, y))[j]? = some (mkS m, s, fs, y) from List.getElem?_set_self hl')
        have hgb := (ho1.in_ g (by simp [Value.ownBlock])).1
        have B2 := B1.setCell (p := ⟨g, j * 4, none⟩) hgb (.string (mkS m))
        have hs2 := Nat.le_trans hbase B2.size
        clear ho1 q1 q2 q3
        go_wp2_with fail
        refine (markText_at (m + 1) _ (by omega) (by omega) (by omega)).mono ?_
        rintro e w2 ⟨rfl, hB3⟩
        have ho3 := Ho2.out.below hB3
        obtain ⟨a3, c3, r0, r1, r2, r3, _, _⟩ := ho3.cells Hg2.out
        have rf1 := ho3.frozen (j * 4 + 1)
        have B3 := B2.trans (hB3.mono hs2)
        have Ho4 := Lib.hid (ho3.stored (i := j * 4 + 1) (u := .string (mkS (m + 1))) (List.length_set ..) fun xs hx => rowD_set1 hx Hg2.out)
        have Hg4 := Lib.hid (show ((es'.set j (mkS m, s, fs, y)).set j (mkS m, mkS (m + 1), fs, y))[j]? = some (mkS m, mkS (m + 1), fs, y) from List.getElem?_set_self (by rw [List.length_set]; exact hl'))
        have B4 := B3.setCell (p := ⟨g, j * 4 + 1, none⟩) hgb (.string (mkS (m + 1)))
        obtain ⟨a5, c5, s0, s1, s2, s3, hof, hbs5⟩ := Ho4.out.cells Hg4.out
        have Hof := Lib.hid (And.intro hof (And.intro hbs5 s2))
        have hs4 := Nat.le_trans hbase B4.size
        clear ho3 r0 r2 r3 s0 s1 s3 hof hbs5 q0 qf0
        go_wp2_with fail
        rw [show ((m : Int) + 1 + 1) = ((m + 2 : Nat) : Int) by omega]
        refine (markF_any _ base (m + 2) fs _ Hof.out.1 (by omega) (by omega) (by omega)).mono ?_
        rintro e w5 ⟨rfl, hof5, hgr5⟩
        have ho5 := Ho4.out.reads Hg4.out Hof.out.2.2 hof5 hgr5 Hof.out.2.1
        have Hg5 := Lib.hid (show (((es'.set j (mkS m, s, fs, y)).set j (mkS m, mkS (m + 1), fs, y)).set j (mkS m, mkS (m + 1), mrk (m + 2) fs.length fs, y))[j]? = some (mkS m, mkS (m + 1), mrk (m + 2) fs.length fs, y) from List.getElem?_set_self (by rw [List.length_set, List.length_set]; exact hl'))
        have hin4 := Ho4.out.in_
        have B5 := B4.grown hgr5 hs4 fun q e => (hin4 q (List.mem_append_right _ (Hof.out.2.1 q e))).1
        have Ho5 := Lib.hid ho5
        have hs5 := Nat.le_trans hbase B5.size
        clear ho5 hof5 hgr5 s2 r1 rf1
        go_wp2_with fail
        refine (markText_at (m + 2 + 2 * fs.length) _ (by omega) (by omega) (by omega)).mono ?_
        rintro e w6 ⟨rfl, hB6⟩
        have ho6 := Ho5.out.below hB6
        obtain ⟨a6, c6, u0, u1, u2, u3, _, _⟩ := ho6.cells Hg5.out
        have uf3 := ho6.frozen (j * 4 + 3)
        have B6 := B5.trans (hB6.mono hs5)
        have Ho7 := Lib.hid (ho6.stored (i := j * 4 + 3) (u := .string (mkS (m + 2 + 2 * fs.length))) (List.length_set ..) fun xs hx => rowD_set3 hx Hg5.out)
        have B7 := B6.setCell (p := ⟨g, j * 4 + 3, none⟩) hgb (.string (mkS (m + 2 + 2 * fs.length)))
        clear ho6 u0 u1 u2
        go_wp2_with fail
        exact ⟨⟨j + 1, _, by omega, by go_num, by rw [hmn]; go_num, Hst.out, Ho7.out, B7⟩, by simp [intOf]; omega⟩
      · have e : j = es.length := by omega
        have Hf := Lib.hid (show OwnD wr base (.slice (some ⟨g, 0, none⟩) es.length cap) (mrkE k es) bs by
          have h1 := Hmk.out
          rw [e] at h1
          rw [← h1.all]
          exact Hown.out)
        have Hr : Hid (((k + enMk (es.take j) : Nat) : Int) = ((k + enMk es : Nat) : Int)) := Lib.hid (by rw [e, List.take_length])
        clear e
        go_wp2_with fail
        go_ret
        exact ⟨ret_int Hr.out, Hf.out, hB⟩

set_option maxRecDepth 100000 in
set_option maxHeartbeats 4000000 in
theorem heldD_any (a : Option Addr) (n c k : Nat) (es : List En) (w : World) (hf : EnAt w 0 w.heap.size (mrkE k es) a n) (h1 : 1 ≤ k) (hb : k + enMk es ≤ 8388600) (hz : es.length + enTot es ≤ 1048577) :
    Calls Tryz.prog 19 #[.slice a n c, .int .i64 k] w fun e w' => e = .returned (.int .i64 (k + enMk es : Nat)) ∧ Below w.heap.size w w' := by
  have hn : n = es.length := by rw [← hf.1, mrkE_len]
  subst hn
  go_enter Tryz.func19, Tryz.ntmps19
  go_wp2_with fail
  go_loopw [1, 5] (fun x i wr => ∃ j : Nat, j ≤ es.length ∧ i = .int .i64 j ∧ x = .int .i64 (k + enMk (es.take j) : Nat) ∧ Below w.heap.size w wr) (fun _ i _ => es.length - (intOf i).toNat)
  case atStart => exact ⟨0, Nat.zero_le _, rfl, by simp [enMk], Below.refl _ _⟩
  case round =>
    obtain ⟨j, hj, rfl, rfl, hB⟩ := hrel
    have hsw := hB.size
    have hle := enMk_take_le es j
    have hle1 := enMk_take_le es (j + 1)
    by_cases hlt : j < es.length
    · obtain ⟨⟨t, s, fs, y⟩, hg⟩ : ∃ x, es[j]? = some x := ⟨_, List.getElem?_eq_getElem hlt⟩
      have htk := enMk_take hg
      have hts := enTot_get hg
      simp only [enSz] at hts
      have hmg := mrkE_get (k := k) hg
      generalize hm : k + enMk (es.take j) = m at *
      obtain ⟨b, off, t', s', fs', y', a', n', c', rfl, _, hbb, hg', hc0, hc1, hc2, hc3, hcap, hks⟩ := (hf.below hB).get hlt
      rw [hmg] at hg'
      simp only [Option.some.injEq, Prod.mk.injEq] at hg'
      obtain ⟨rfl, rfl, rfl, rfl⟩ := hg'
      have hm1 : 1 ≤ m := by omega
      have hmm : m + 3 + 2 * fs.length ≤ 8388600 := by omega
      have hmn : k + enMk (es.take (j + 1)) = m + 3 + 2 * fs.length := by omega
      have hnl : fs.length = n' := by rw [← hks.1, mrk_length]
      subst hnl
      have Hks := Lib.hid (hks.more (Nat.le_refl 0) (Nat.le_refl _)).files
      have hbw : b < wr.heap.size := by omega
      have hd0 : ((mkS m).toList == (mkS m).toList) = true := by simp
      have hd1 : ((mkS (m + 1)).toList == (mkS (m + 1)).toList) = true := by simp
      have hd3 : ((mkS (m + 2 + 2 * fs.length)).toList == (mkS (m + 2 + 2 * fs.length)).toList) = true := by simp
      clear hm hg htk hmg hks
      go_wp2_with fail
      go_region_held3 (fun w' => w'.cell? ⟨b, off + j * 4, none⟩ = some (.string (mkS m))) (first | go_keep | exact (hB1.cell (p := ⟨b, off + j * 4, none⟩) hbw).trans hc0) ((go_at_call 28; refine (markText_at m _ (by omega) (by omega) (by omega)).mono ?_; rintro e w1 ⟨rfl, hB1⟩))
      have B1 := hB.drew.trans (hB1.mono hsw)
      have hs1 : wr.heap.size ≤ w1.heap.size := hB1.size
      have hd1' := (hB1.cell (p := ⟨b, off + j * 4 + 1, none⟩) hbw).trans hc1
      have hbw1 : b < w1.heap.size := by omega
      go_wp2_with fail
      go_region_held3 (fun w' => w'.cell? ⟨b, off + j * 4 + 1, none⟩ = some (.string (mkS (m + 1)))) (first | go_keep | exact (hB2.cell (p := ⟨b, off + j * 4 + 1, none⟩) hbw1).trans hd1') ((go_at_call 28; refine (markText_at (m + 1) _ (by omega) (by omega) (by omega)).mono ?_; rintro e w2 ⟨rfl, hB2⟩))
      have hB12 := (show Below wr.heap.size wr w1 from (Below.refl _ _).drew.trans hB1)
      have hB22 := (show Below w1.heap.size w1 w2 from (Below.refl _ _).drew.trans hB2)
      have B2 := B1.trans (hB22.mono B1.size)
      have hs2 := hB22.size
      have hd2' := (hB22.cell (p := ⟨b, off + j * 4 + 2, none⟩) hbw1).trans ((hB12.cell (p := ⟨b, off + j * 4 + 2, none⟩) hbw).trans hc2)
      have hfl := ((Hks.out.below (hB12.mono hsw)).below (hB22.mono B1.size)).more B2.size
      go_wp2_with fail
      rw [show ((m : Int) + 1 + 1) = ((m + 2 : Nat) : Int) by omega]
      refine (heldF2_any a' fs.length c' (m + 2) (mrk (m + 2) fs.length fs) w2 hfl (fun i hi => mrk_get hi hi) (by omega) (by omega) (by omega)).mono ?_
      rintro e w3 ⟨rfl, hB3⟩
      have B3 := B2.trans (hB3.mono B2.size)
      have hs3 := hB3.size
      have hd3' := (hB3.cell (p := ⟨b, off + j * 4 + 3, none⟩) (show b < w2.heap.size by omega)).trans ((hB22.cell (p := ⟨b, off + j * 4 + 3, none⟩) hbw1).trans ((hB12.cell (p := ⟨b, off + j * 4 + 3, none⟩) hbw).trans hc3))
      have hbw3 : b < w3.heap.size := by omega
      have hneg : ¬ (((m + 2 + 2 * fs.length : Nat) : Int) < 0) := by omega
      clear hd2' hfl hc0 hc1 hc2 hc3 hd1' hB1 hB2
      go_wp2_with fail
      go_region_held3 (fun w' => w'.cell? ⟨b, off + j * 4 + 3, none⟩ = some (.string (mkS (m + 2 + 2 * fs.length)))) (first | go_keep | exact (hB4.cell (p := ⟨b, off + j * 4 + 3, none⟩) hbw3).trans hd3') ((go_at_call 28; refine (markText_at (m + 2 + 2 * fs.length) _ (by omega) (by omega) (by omega)).mono ?_; rintro e w4 ⟨rfl, hB4⟩))
      have B4 := B3.drew.trans (hB4.mono B3.size)
      clear hB4 hd3' hB3 hB12 hB22
      go_wp2_with fail
      exact ⟨⟨j + 1, by omega, by go_num, by rw [hmn]; go_num, B4⟩, by simp [intOf]; omega⟩
    · have e : j = es.length := by omega
      have Hr : Hid (((k + enMk (es.take j) : Nat) : Int) = ((k + enMk es : Nat) : Int)) := Lib.hid (by rw [e, List.take_length])
      clear e
      go_wp2_with fail
      go_ret
      exact ⟨ret_int Hr.out, hB⟩
end Go.Proofs.YtaiijnepeccllaaGreat
