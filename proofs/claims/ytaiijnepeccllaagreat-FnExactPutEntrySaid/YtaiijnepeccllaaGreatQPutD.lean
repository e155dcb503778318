/-
  The reference's PutEntry.
-/
import Derived.Test.YtaiijnepeccllaaGreatQPutS
namespace Go.Proofs.YtaiijnepeccllaaGreat
set_option linter.unusedVariables false
set_option linter.unusedSimpArgs false
open Go.RowKit Go.Maps

/-- what the reference's PutEntry leaves -/
def EdW (r : List En × Bool) (w : World) (e : Ending) (w' : World) : Prop := ∃ v, e = .returned (.tuple #[v, .bool r.2]) ∧ OwnW w' w.heap.size v r.1 ∧ Below w.heap.size w w'

set_option maxRecDepth 100000 in
set_option maxHeartbeats 4000000 in
theorem putES_any (pb : ByteArray → Bool) (hpb : ∀ s, IsP s.data.toList (pb s)) (es : List En) (a : Option Addr) (n c : Nat) (t s : ByteArray) (fs : List Fl) (y : ByteArray) (a0 : Option Addr) (c0 : Nat) (w : World) (hf : EnAt w 0 w.heap.size es a n) (hnl : NilOk w a n) (hk0 : FilesAt w w.heap.size a0 fs.length fs) (hnil0 : a0 = none → fs.length = 0 ∧ c0 = 0) (hfit : EnFits es) (hfit2 : EnFit (t, s, fs, y)) (hn : n ≤ maxLen) (hz : es.length + enTot es + enSz (t, s, fs, y) ≤ 1048576) :
    Calls Tryz.prog 16 #[.slice a n c, .agg #[.string t, .string s, .slice a0 fs.length c0, .string y]] w (EdW (putSt pb es (t, s, fs, y)) w) := by
  have hB0 := (Below.refl w.heap.size w).alloc (Nat.le_refl _) (.cells #[.string t, .string s, .slice a0 fs.length c0, .string y] 26)
  have hP0 := BxN.new w t s (.slice a0 fs.length c0) y 26
  have hfl : fs.length ≤ 1048576 := by simp only [enSz] at hz; omega
  have hpt := (putE_tot (t, s, fs, y) es).2
  have hpl := (putE_tot (t, s, fs, y) es).1
  have Hc := Lib.hid (storeS_any pb hpb es a n c _ (hf.next hB0) hfit hn (bodies_le (by omega)))
  have HF := Lib.hid (And.intro (hf.next hB0) (And.intro (hnl.keep hf fun p hp => hB0.cell hp) ((hk0.below hB0).more hB0.size)))
  obtain ⟨r, hr⟩ : ∃ r, putSt pb es (t, s, fs, y) = r := ⟨_, rfl⟩
  have Hr := Lib.hid hr
  have hpf : EnFits (putE (t, s, fs, y) es) := fun z hz => by
    rcases mem_putE.1 hz with rfl | ⟨h, _⟩
    · exact hfit2
    · exact hfit z h
  have Hpf := Lib.hid hpf
  rw [hr]
  clear hf hnl hk0 hfit hfit2 hr hpf
  go_enter Tryz.func16, Tryz.ntmps16
  go_wp2_with fail
  refine Hc.out.mono ?_
  rintro e w1 ⟨rfl, hB1⟩
  have B1 := hB0.trans (hB1.mono hB0.size)
  have hP1 := hP0.next hB1
  rcases Bool.eq_false_or_eq_true (stB pb es) with hv | hv
  case inr =>
    have Hq := Lib.hid (show r = ([], false) by rw [← Hr.out]; unfold putSt; rw [hv]; rfl)
    rw [hv]
    clear hv
    go_wp2_with fail
    refine bodyPost_ret (v := .tuple #[.slice (some ⟨w1.heap.size, 0, none⟩) 0 0, .bool false]) (by simp [results, Tryz.results16, go_sem]) rfl ?_
    rw [Hq.out]
    exact ⟨_, rfl, (OwnW.made w1).mono B1.size, B1.alloc B1.size _⟩
  have Hv := Lib.hid hv
  rw [hv]
  clear hv
  have hf1 := HF.out.1.next hB1
  have hn1 := HF.out.2.1.keep HF.out.1 fun p hp => hB1.cell hp
  have hk1 := (HF.out.2.2.below hB1).more hB1.size
  have Hp := Lib.hid (l5Put_any a n c es t s fs y a0 c0 w1 hf1 hn1 hk1 hnil0 hfl (by omega))
  obtain ⟨q0, q1, q2, q3, _, _, _, _, _⟩ := hP1.facts
  clear hf1 hn1 hk1 hnil0
  go_wp2_with fail
  refine Hp.out.mono ?_
  rintro e w2 ⟨v, rfl, hown, hB2⟩
  have B2 := B1.trans (hB2.mono B1.size)
  obtain ⟨a2, c2, rfl, hc2, hf2⟩ := hown.form
  have Ho := Lib.hid hown
  have Hs2 := Lib.hid (storeS_any pb hpb (putE (t, s, fs, y) es) a2 _ c2 w2 hf2 Hpf.out (by unfold maxLen; omega) (bodies_le (by omega)))
  clear hown q0 q1 q2 q3 hf2
  go_wp2_with fail
  refine Hs2.out.mono ?_
  rintro e w3 ⟨rfl, hB3⟩
  have B3 := B2.trans (hB3.mono B2.size)
  rcases Bool.eq_false_or_eq_true (stB pb (putE (t, s, fs, y) es)) with hv | hv
  case inr =>
    have Hq := Lib.hid (show r = ([], false) by rw [← Hr.out]; unfold putSt; simp [hv])
    rw [hv]
    clear hv
    go_wp2_with fail
    refine bodyPost_ret (v := .tuple #[.slice (some ⟨w3.heap.size, 0, none⟩) 0 0, .bool false]) (by simp [results, Tryz.results16, go_sem]) rfl ?_
    rw [Hq.out]
    exact ⟨_, rfl, (OwnW.made w3).mono B3.size, B3.alloc B3.size _⟩
  have Hq := Lib.hid (show r = (putE (t, s, fs, y) es, true) by rw [← Hr.out]; unfold putSt; simp [hv, Hv.out])
  rw [hv]
  clear hv
  have Ho3 := Lib.hid ((Ho.out.below hB3).mono B1.size)
  go_wp2_with fail
  refine bodyPost_ret (v := .tuple #[.slice a2 (putE (t, s, fs, y) es).length c2, .bool true]) (by simp [results, Tryz.results16, go_sem]) rfl ?_
  rw [Hq.out]
  exact ⟨_, rfl, Ho3.out, B3⟩
end Go.Proofs.YtaiijnepeccllaaGreat
