/-
  The exact law FnExactFindEntry, walked.
-/
import Derived.Test.YtaiijnepeccllaaGreatQFeI
import Derived.Test.YtaiijnepeccllaaGreatQFeS
import Derived.Test.YtaiijnepeccllaaGreatQMarkN
import Derived.Test.YtaiijnepeccllaaGreatQMarkNs
namespace Go.Proofs.YtaiijnepeccllaaGreat
set_option linter.unusedVariables false
set_option linter.unusedSimpArgs false
open Go.RowKit

theorem ownsF_blk {w w' : World} {base : Nat} {v : Value} {fs : List Fl} (h : OwnsF w base v fs) (hk : ∀ g, v.ownBlock = some g → w'.heap[g]? = w.heap[g]?) : OwnsF w' base v fs := by
  refine ⟨h.1, h.2.imp id ?_⟩
  rintro ⟨g', cap', cur, e1, h1, h2, r⟩
  exact ⟨g', cap', cur, e1, h1, (hk g' (by rw [e1]; rfl)).trans h2, r⟩
theorem ownsF_in {w : World} {base : Nat} {v : Value} {fs : List Fl} (h : OwnsF w base v fs) : ∀ g, v.ownBlock = some g → base ≤ g ∧ g < w.heap.size := fun k hk => World.ownsRow.lt h k hk
/-- what lies below L through the whole walk: the argument and the reference's answer, with its box -/
structure FeA (W : World) (L ge : Nat) (es : List En) (a : Option Addr) (n : Nat) (t s : ByteArray) (fs : List Fl) (z : ByteArray) (a0 : Option Addr) (c0 : Nat) : Prop where
  hf : EnAt W 0 L es a n
  h0 : FilesAt W L a0 fs.length fs
  b0 : BxN W ge t s (.slice a0 fs.length c0) z 26
  le : ge < L
/-- the copy of the argument, from S to G -/
structure FeB (W : World) (S G : Nat) (es : List En) (n : Nat) : Prop where
  hf : EnAt W S G es (some ⟨S, 0, none⟩) n
  sk : SkN W (S + 1) G es S n
  lg : S < G
/-- the program's answer, between S and G -/
structure FeC (W : World) (S G gy : Nat) (t s : ByteArray) (fs gs : List Fl) (z : ByteArray) (a7 : Option Addr) (c7 : Nat) : Prop where
  own : OwnsF W S (.slice a7 fs.length c7) gs
  in_ : ∀ g, (Value.slice a7 fs.length c7).ownBlock = some g → g < gy
  bx : BxN W gy t s (.slice a7 fs.length c7) z 26
  ls : S ≤ gy
  ly : gy < G
section
variable {W W' : World} {L S G ge gy c0 c7 n : Nat} {es : List En} {fs gs : List Fl} {t s z : ByteArray} {a a0 a7 : Option Addr}
theorem FeA.below (h : FeA W L ge es a n t s fs z a0 c0) (hb : Below L W W') : FeA W' L ge es a n t s fs z a0 c0 := ⟨h.hf.below hb, h.h0.below hb, (hb.block ge h.le).trans h.b0, h.le⟩
theorem FeB.below (h : FeB W S G es n) (hG : G ≤ W.heap.size) (hb : Below G W W') : FeB W' S G es n := ⟨h.hf.below hb, by
  obtain ⟨⟨cs, h1, h2⟩, h3⟩ := h.sk
  refine ⟨⟨cs, (hb.block S h.lg).trans h1, h2⟩, fun i x hg => ?_⟩
  obtain ⟨gi, h4, h5, h7, h6⟩ := h3 i x hg
  exact ⟨gi, (hb.cell (p := ⟨S, i * 4 + 2, none⟩) h.lg).trans h4, h5, h7, h6.block (hb.block gi h7)⟩, h.lg⟩
theorem FeC.below (h : FeC W S G gy t s fs gs z a7 c7) (hb : Below G W W') : FeC W' S G gy t s fs gs z a7 c7 :=
  ⟨ownsF_blk h.own fun g hg => hb.block g (by have := h.in_ g hg; have := h.ly; omega), h.in_, (hb.block gy h.ly).trans h.bx, h.ls, h.ly⟩
/-- .. where only the copy of the argument is written to -/
theorem FeC.tch (h : FeC W S G gy t s fs gs z a7 c7) (hG : G ≤ W.heap.size) (hb : Tch L S W W') : FeC W' S G gy t s fs gs z a7 c7 := by
  have hly := h.ly
  have hls := h.ls
  refine ⟨ownsF_blk h.own fun g hg => hb.out g (by have := h.in_ g hg; omega) (.inr (ownsF_in h.own g hg).1), h.in_, (hb.out gy (by omega) (.inr hls)).trans h.bx, h.ls, h.ly⟩
/-- .. and where its own row is written to -/
theorem FeC.marked {gs' : List Fl} (h : FeC W S G gy t s fs gs z a7 c7) (hG : G ≤ W.heap.size) (ho : OwnsF W' S (.slice a7 fs.length c7) gs') (hg : W.grownBy W' (Value.slice a7 fs.length c7).ownBlock) : FeC W' S G gy t s fs gs' z a7 c7 := by
  have hly := h.ly
  refine ⟨ho, h.in_, (hg.block gy (by omega) fun e => ?_).trans h.bx, h.ls, h.ly⟩
  have := h.in_ gy e.symm
  omega
theorem FeC.grown (h : FeC W S G gy t s fs gs z a7 c7) (hG : G ≤ W.heap.size) (hg : W.grownBy W' (Value.slice a7 fs.length c7).ownBlock) : Below S W W' :=
  (Below.refl S W).grown hg (by have := h.ls; have := h.ly; omega) fun k hk => (ownsF_in h.own k hk).1
end
theorem findSt_len {pb : ByteArray → Bool} {es : List En} {x : ByteArray} {t s z : ByteArray} {fs : List Fl} {found : Bool} (hz : es.length + enTot es ≤ 1048576) (h : findSt pb es x = ((t, s, fs, z), found)) : fs.length ≤ 1048576 := by
  unfold findSt entF at h
  have no : ∀ {r : En × Bool}, r = (noEn, false) → r = ((t, s, fs, z), found) → fs.length ≤ 1048576 := by
    rintro _ rfl h
    simp only [noEn, Prod.mk.injEq] at h
    obtain ⟨⟨_, _, rfl, _⟩, _⟩ := h
    simp
  split at h
  · cases hf : findE es x with
    | none => rw [hf] at h; exact no rfl h
    | some y =>
      rw [hf] at h
      simp only [Prod.mk.injEq] at h
      obtain ⟨rfl, _⟩ := h
      obtain ⟨j, hj⟩ := List.mem_iff_getElem?.1 (findE_some hf).1
      have := enTot_get hj
      simp only [enSz] at this
      omega
  · exact no rfl h

set_option maxRecDepth 100000 in
set_option maxHeartbeats 16000000 in
theorem walkFnExactFindEntry (a : Option Addr) (n c : Nat) (es : List En) (x : ByteArray) (w : World) (h : InNs w a n es) (hx : x.size ≤ maxLen) :
    Calls Tryz.prog 3 #[.slice a n c, .string x] w fun e w' => e = .returned (.bool true) ∧ Below w.heap.size w w' := by
  obtain ⟨hf, hs, hn⟩ := h
  have hnl := hf.1
  obtain ⟨pb, hpb⟩ := isP_all
  have hxm := hx
  unfold maxLen at hxm
  by_cases hxl : (1048576 : Int) < (x.size : Int)
  case pos =>
    go_enter Tryz.func3, Tryz.ntmps3
    go_wp2_with fail
    go_ret
    exact ⟨rfl, Below.refl _ _⟩
  case neg =>
  by_cases hsz : (es.length + enTot es : Int) ≤ 1048576
  case neg =>
    have Hsz := Lib.hid (szNs_neg hsz)
    clear hsz
    go_enter Tryz.func3, Tryz.ntmps3
    go_wp2_with fail
    refine (szEntryS_any es a n c _ _ hf hs hn (by omega) (by omega)).mono ?_
    rintro e w1 ⟨rfl, B1⟩
    rw [Hsz.out]
    go_wp2_with fail
    go_ret
    exact ⟨rfl, B1⟩
  case pos =>
  have hn2 : es.length + enTot es ≤ 1048576 := by omega
  have hz0 : 0 ≤ szNs 1048576 es := by rw [szNs_pos hsz]; omega
  have Hpb := Lib.hid hpb
  have Hs := Lib.hid hs
  obtain ⟨⟨⟨t, s, fs, z⟩, found⟩, hres⟩ : ∃ r, findSt pb es x = r := ⟨_, rfl⟩
  have Hfl := Lib.hid (findSt_len hn2 hres)
  have Hres := Lib.hid hres
  have hff : (found == found) = true := by simp
  have hflm : fs.length ≤ maxLen := by have := Hfl.out; unfold maxLen; omega
  clear hsz hpb hs hres
  go_enter Tryz.func3, Tryz.ntmps3
  go_wp2_with fail
  refine (szEntryS_any es a n c _ _ hf Hs.out hn (by omega) (by omega)).mono ?_
  rintro e w1 ⟨rfl, B1⟩
  generalize szNs 1048576 es = left at *
  have hz1 : ¬ left < 0 := by omega
  go_wp2_with fail
  refine (toEntrySN_any es a n c _ (hf.next B1) hn2).mono ?_
  rintro e w2 ⟨g2, rfl, hO2, rfl, hK2, hB2⟩
  have B2 := B1.trans (hB2.mono B1.size)
  have Hc3 := Lib.hid (findES_any pb Hpb.out es _ n n x w2 (hO2.more (Nat.zero_le _) (Nat.le_refl _)) (hK2.ok hnl) Hs.out hn hn2)
  rw [Hres.out] at Hc3
  clear hO2 hK2
  go_wp2_with fail
  refine Hc3.out.mono ?_
  rintro e w3 ⟨a0, c0, rfl, hown0, hB3⟩
  have B3 := B2.trans (hB3.mono B2.size)
  have hf3 := hf.next B3
  have hB30 := (Below.refl w3.heap.size w3).alloc (Nat.le_refl _) (.cells #[.string t, .string s, .slice a0 fs.length c0, .string z] 26)
  have HA := Lib.hid (show FeA (w3.alloc (.cells #[.string t, .string s, .slice a0 fs.length c0, .string z] 26)) (w3.heap.size + 1) w3.heap.size es a n t s fs z a0 c0 from
    ⟨by have := hf3.next hB30; simpa using this, ((hown0.at_).below hB30).more (Nat.le_succ _), BxN.new w3 _ _ _ _ _, Nat.lt_succ_self _⟩)
  have B3 := B3.alloc B3.size (.cells #[.string t, .string s, .slice a0 fs.length c0, .string z] 26)
  clear Hc3 hown0 hB3 hB30 hf3
  go_wp2_with fail
  generalize hv3 : w3.alloc (.cells #[.string t, .string s, .slice a0 fs.length c0, .string z] 26) = v3 at *
  have hz3 : v3.heap.size ≤ w3.heap.size + 1 ∧ w3.heap.size + 1 ≤ v3.heap.size := by rw [← hv3]; simp
  obtain ⟨hz3, hz3'⟩ := hz3
  refine (toEntrySN_any es a n c _ (HA.out.hf.more (Nat.le_refl _) hz3') hn2).mono ?_
  rintro e w4 ⟨g4, rfl, hO4, hg4, hK4, hB4⟩
  rw [← hg4] at hO4 hK4
  have Hg4 := Lib.hid (show g4 ≤ v3.heap.size ∧ v3.heap.size ≤ g4 from by omega)
  clear hg4
  have HA := Lib.hid (HA.out.below (hB4.mono hz3'))
  have hA4 := hB4.size
  have HB := Lib.hid (show FeB w4 g4 w4.heap.size es n from ⟨hO4, hK4, hK4.lt⟩)
  have B4 := B3.trans (hB4.mono B3.size)
  have Hc7 := Lib.hid (findEI_any pb Hpb.out es _ n n x w4 (HB.out.hf.more (Nat.zero_le _) (Nat.le_refl _)) Hs.out hn hn2 hx)
  rw [Hres.out] at Hc7
  clear hO4 hK4 hB4
  go_wp2_with fail
  refine Hc7.out.mono ?_
  rintro e w7 ⟨a7, c7, rfl, hown7, hB7⟩
  have HA := Lib.hid (HA.out.below (hB7.mono (by omega)))
  have HB := Lib.hid (HB.out.below (Nat.le_refl _) hB7)
  have B7 := B4.trans (hB7.mono B4.size)
  have hA7 := hB7.size
  have hB70 := (Below.refl w7.heap.size w7).alloc (Nat.le_refl _) (.cells #[.string t, .string s, .slice a7 fs.length c7, .string z] 26)
  have HC := Lib.hid (show FeC (w7.alloc (.cells #[.string t, .string s, .slice a7 fs.length c7, .string z] 26)) w4.heap.size (w7.heap.size + 1) w7.heap.size t s fs fs z a7 c7 from
    ⟨ownsF_alloc hown7 _, fun g hg => (ownsF_in hown7 g hg).2, BxN.new w7 _ _ _ _ _, hA7, Nat.lt_succ_self _⟩)
  have HA := Lib.hid (HA.out.below (hB70.mono (by omega)))
  have HB := Lib.hid (HB.out.below hA7 (hB70.mono (by omega)))
  have B70 := B7.trans (hB70.mono B7.size)
  clear Hc7 hown7 hB7 hB70
  generalize hv7 : w7.alloc (.cells #[.string t, .string s, .slice a7 fs.length c7, .string z] 26) = v7 at *
  have hz7 : v7.heap.size ≤ w7.heap.size + 1 ∧ w7.heap.size + 1 ≤ v7.heap.size := by rw [← hv7]; simp
  obtain ⟨hz7, hz7'⟩ := hz7
  obtain ⟨q0, q1, q2, q3, qf0, qf1, qf2, qf3, _⟩ := HC.out.bx.facts
  obtain ⟨r0, r1, r2, r3, rf0, rf1, rf2, rf3, _⟩ := HA.out.b0.facts
  go_wp2_with fail
  refine (eqEntry_any t s fs z a7 a0 fs.length c7 c0 _ (HC.out.own.at_.more (Nat.le_refl _)) (HA.out.h0.more (by omega)) hflm).mono ?_
  rintro e w8 ⟨rfl, hB8⟩
  have hs8 := hB8.size
  have HA := Lib.hid (HA.out.below (hB8.mono (by omega)))
  have HB := Lib.hid (HB.out.below (by omega) (hB8.mono (by omega)))
  have HC := Lib.hid (HC.out.below (hB8.mono (by omega)))
  have B8 := B70.trans (hB8.mono B70.size)
  clear q0 q1 q2 q3 qf0 qf1 qf2 qf3 r0 r1 r2 r3 rf0 rf1 rf2 rf3 hB8
  go_wp2_with fail
  refine (toEntryS_any es a n c _ (HA.out.hf.more (Nat.le_refl _) (by omega)) hn2).mono ?_
  rintro e v1 ⟨g5, rfl, hu1, hC1⟩
  have hC1s := hC1.size
  have HA := Lib.hid (HA.out.below (hC1.mono (by omega)))
  have HB := Lib.hid (HB.out.below (by omega) (hC1.mono (by omega)))
  have HC := Lib.hid (HC.out.below (hC1.mono (by omega)))
  have Be := B8.trans (hC1.mono B8.size)
  go_wp2_with fail
  refine (eqEntryS_any es _ _ n n n _ (HB.out.hf.more (Nat.zero_le _) (by omega)) (hu1.more (Nat.zero_le _) (Nat.le_refl _)) Hs.out hn).mono ?_
  rintro e v2 ⟨rfl, hC2⟩
  clear hu1
  have hC2s := hC2.size
  have HA := Lib.hid (HA.out.below (hC2.mono (by omega)))
  have HB := Lib.hid (HB.out.below (by omega) (hC2.mono (by omega)))
  have HC := Lib.hid (HC.out.below (hC2.mono (by omega)))
  have Bg := Be.trans (hC2.mono Be.size)
  have hmle := enMk_le es
  go_wp2_with fail
  refine (markEs_any g4 n n 1 (g4 + 1) w4.heap.size es v2 HB.out.sk hnl (Nat.lt_succ_self _) HB.out.lg (by omega) (Nat.le_refl _) (by omega) hn2).mono ?_
  rintro e w9 ⟨rfl, hT9⟩
  have hs9 := hT9.size
  have hM9 := hT9.below (show g4 ≤ v2.heap.size by have := HB.out.lg; omega)
  have HA := Lib.hid (HA.out.below (hM9.mono (by have := Hg4.out; omega)))
  have HC := Lib.hid (HC.out.tch (by omega) hT9)
  have B9 := Bg.trans (hM9.mono (by have := Hg4.out; have := B3.size; omega))
  clear hT9 hM9 HB
  have hneg : ¬ (((1 + enMk es : Nat) : Int) < 0) := by omega
  obtain ⟨q0, q1, q2, q3, qf0, qf1, qf2, qf3, _⟩ := HC.out.bx.facts
  obtain ⟨r0, r1, r2, r3, rf0, rf1, rf2, rf3, _⟩ := HA.out.b0.facts
  go_wp2_with fail
  refine (eqEntry_any t s fs z a7 a0 fs.length c7 c0 _ HC.out.own.at_ (HA.out.h0.more (by omega)) hflm).mono ?_
  rintro e w10 ⟨rfl, hB10⟩
  have hB10s := hB10.size
  have HA := Lib.hid (HA.out.below (hB10.mono (by omega)))
  have HC := Lib.hid (HC.out.below (hB10.mono (by omega)))
  have B10 := B9.trans (hB10.mono B9.size)
  clear q0 q1 q2 q3 qf0 qf1 qf2 qf3
  clear r0 r1 r2 r3 rf0 rf1 rf2 rf3
  obtain ⟨q0, q1, q2, q3, qf0, qf1, qf2, qf3, _⟩ := HC.out.bx.facts
  go_wp2_with fail
  refine (markEn_any t s fs z a7 c7 w4.heap.size 1 w10 HC.out.own Hfl.out (Nat.le_refl _) (by have := Hfl.out; omega)).mono ?_
  rintro e w11 ⟨rfl, hmk11, hg11⟩
  have hM11 := HC.out.grown (by omega) hg11
  have hs11 := hM11.size
  have HC := Lib.hid (HC.out.marked (by omega) hmk11 hg11)
  have HA := Lib.hid (HA.out.below (hM11.mono (by omega)))
  have B11 := B10.trans (hM11.mono (by have := B4.size; omega))
  clear hmk11 hg11 hM11
  clear q0 q1 q2 q3 qf0 qf1 qf2 qf3
  obtain ⟨q0, q1, q2, q3, qf0, qf1, qf2, qf3, _⟩ := HC.out.bx.facts
  go_wp2_with fail
  refine (heldEn_any t s a7 fs.length c7 1 (mrk 1 fs.length fs) z _ HC.out.own.at_ (fun j hj => mrk_get hj hj) Hfl.out (Nat.le_refl _) (by omega)).mono ?_
  rintro e w12 ⟨rfl, hB12⟩
  have hB12s := hB12.size
  have HA := Lib.hid (HA.out.below (hB12.mono (by omega)))
  have HC := Lib.hid (HC.out.below (hB12.mono (by omega)))
  have B12 := B11.trans (hB12.mono B11.size)
  clear q0 q1 q2 q3 qf0 qf1 qf2 qf3
  have hneg2 : ¬ (((1 + 2 * fs.length : Nat) : Int) < 0) := by omega
  go_wp2_with fail
  refine (toEntryS_any es a n c _ (HA.out.hf.more (Nat.le_refl _) (by omega)) hn2).mono ?_
  rintro e w13 ⟨g8, rfl, hu13, hB13⟩
  have hB13s := hB13.size
  have HA := Lib.hid (HA.out.below (hB13.mono (by omega)))
  have HC := Lib.hid (HC.out.below (hB13.mono (by omega)))
  have B13 := B12.trans (hB13.mono B12.size)
  have Hc14 := Lib.hid (findEI_any pb Hpb.out es _ n n x w13 (hu13.more (Nat.zero_le _) (Nat.le_refl _)) Hs.out hn hn2 hx)
  rw [Hres.out] at Hc14
  clear hu13
  go_wp2_with fail
  refine Hc14.out.mono ?_
  rintro e w14 ⟨a9, c9, rfl, hown9, hB14⟩
  have hB14s := hB14.size
  have HA := Lib.hid (HA.out.below (hB14.mono (by omega)))
  have HC := Lib.hid (HC.out.below (hB14.mono (by omega)))
  have B14 := B13.trans (hB14.mono B13.size)
  have hB15 := (Below.refl w14.heap.size w14).alloc (Nat.le_refl _) (.cells #[.string t, .string s, .slice a9 fs.length c9, .string z] 26)
  have Hh := Lib.hid (BxN.new w14 t s (.slice a9 fs.length c9) z 26)
  have Hk9 := Lib.hid ((hown9.at_.below hB15).more hB15.size)
  clear Hc14 hown9
  generalize hv15 : w14.alloc (.cells #[.string t, .string s, .slice a9 fs.length c9, .string z] 26) = w15 at *
  have hB15s := hB15.size
  have HA := Lib.hid (HA.out.below (hB15.mono (by omega)))
  have HC := Lib.hid (HC.out.below (hB15.mono (by omega)))
  have B15 := B14.trans (hB15.mono B14.size)
  obtain ⟨q0, q1, q2, q3, qf0, qf1, qf2, qf3, _⟩ := Hh.out.facts
  obtain ⟨r0, r1, r2, r3, rf0, rf1, rf2, rf3, _⟩ := HA.out.b0.facts
  go_wp2_with fail
  refine (eqEntry_any t s fs z a9 a0 fs.length c9 c0 _ Hk9.out (HA.out.h0.more (by omega)) hflm).mono ?_
  rintro e w16 ⟨rfl, hB16⟩
  have hB16s := hB16.size
  have HA := Lib.hid (HA.out.below (hB16.mono (by omega)))
  have HC := Lib.hid (HC.out.below (hB16.mono (by omega)))
  have B16 := B15.trans (hB16.mono B15.size)
  clear q0 q1 q2 q3 qf0 qf1 qf2 qf3
  clear r0 r1 r2 r3 rf0 rf1 rf2 rf3
  obtain ⟨q0, q1, q2, q3, qf0, qf1, qf2, qf3, _⟩ := HC.out.bx.facts
  go_wp2_with fail
  refine (heldEn_any t s a7 fs.length c7 1 (mrk 1 fs.length fs) z _ HC.out.own.at_ (fun j hj => mrk_get hj hj) Hfl.out (Nat.le_refl _) (by omega)).mono ?_
  rintro e w17 ⟨rfl, hB17⟩
  have B17 := B16.trans (hB17.mono B16.size)
  go_wp2_with fail
  go_ret
  exact ⟨rfl, B17⟩
end Go.Proofs.YtaiijnepeccllaaGreat
