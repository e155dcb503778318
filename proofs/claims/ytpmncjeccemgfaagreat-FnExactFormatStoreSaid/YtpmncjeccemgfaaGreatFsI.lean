/-
  Plain words for FormatStore: the lines of an entry; the program's FormatStore.
-/
import Derived.Test.YtpmncjeccemgfaaGreatStI
import Derived.Test.YtpmncjeccemgfaaGreatWrL
import Derived.Test.YtpmncjeccemgfaaGreatEnBx
import Derived.Deep.RegionHeld3
namespace Go.Proofs.YtpmncjeccemgfaaGreat
set_option linter.unusedVariables false
set_option linter.unusedSimpArgs false
open Go.RowKit

/-- "entry T B" -/
def lineE (t s : ByteArray) : List UInt8 := [101, 110, 116, 114, 121] ++ ([32] ++ (t.data.toList ++ ([32] ++ (s.data.toList ++ [10]))))
/-- "read P T" -/
def lineRd (f : Fl) : List UInt8 := [114, 101, 97, 100] ++ ([32] ++ (f.1.data.toList ++ ([32] ++ (f.2.data.toList ++ [10]))))
/-- "text X" -/
def lineX (x : ByteArray) : List UInt8 := [116, 101, 120, 116] ++ ([32] ++ (x.data.toList ++ [10]))
/-- the lines of an entry -/
def textE (e : En) : List UInt8 := lineE e.1 e.2.1 ++ (e.2.2.1.flatMap lineRd ++ lineX e.2.2.2)
/-- what FormatStore answers -/
def fmtSt (pb : ByteArray → Bool) (es : List En) : ByteArray := if stB pb es = true then ⟨(es.flatMap textE).toArray⟩ else .empty
theorem flatE_take {α : Type} (g : α → List UInt8) {l : List α} {j : Nat} {x : α} (h : l[j]? = some x) : (l.take (j + 1)).flatMap g = (l.take j).flatMap g ++ g x := by
  rw [List.take_add_one, h, List.flatMap_append]
  simp
theorem flatE_le {α : Type} (g : α → List UInt8) (l : List α) (j : Nat) : ((l.take j).flatMap g).length ≤ (l.flatMap g).length := by
  have h := congrArg (fun z => (z.flatMap g).length) (List.take_append_drop j l)
  simp only [List.flatMap_append, List.length_append] at h
  omega
theorem blen (s : ByteArray) : s.data.toList.length = s.size := by rw [Array.length_toList]; rfl
theorem lineE_len (t s : ByteArray) : (lineE t s).length = t.size + s.size + 8 := by
  simp only [lineE, List.length_append, List.length_cons, List.length_nil, blen]
  omega
theorem lineRd_len (f : Fl) : (lineRd f).length = f.1.size + f.2.size + 7 := by
  simp only [lineRd, List.length_append, List.length_cons, List.length_nil, blen]
  omega
theorem lineX_len (x : ByteArray) : (lineX x).length = x.size + 6 := by
  simp only [lineX, List.length_append, List.length_cons, List.length_nil, blen]
  omega
theorem tot_get {fs : List Fl} {k : Nat} {p t : ByteArray} (h : fs[k]? = some (p, t)) : p.size + t.size ≤ tot fs := by
  have h1 := tot_take_succ h
  have h2 := tot_take_le fs (k + 1)
  omega
theorem reads_len : ∀ fs : List Fl, (fs.flatMap lineRd).length ≤ 8 * (fs.length + tot fs)
  | [] => by simp
  | f :: r => by
    have h := reads_len r
    have h2 := lineRd_len f
    simp only [List.flatMap_cons, List.length_append, List.length_cons, tot] at h ⊢
    omega
theorem textE_len (e : En) : (textE e).length ≤ 16 * (1 + enSz e) := by
  have h := reads_len e.2.2.1
  have h1 := lineE_len e.1 e.2.1
  have h2 := lineX_len e.2.2.2
  simp only [textE, List.length_append, enSz]
  omega
theorem textS_len : ∀ es : List En, (es.flatMap textE).length ≤ 16 * (es.length + enTot es)
  | [] => by simp
  | e :: r => by
    have h := textS_len r
    have h2 := textE_len e
    simp only [List.flatMap_cons, List.length_append, List.length_cons, enTot] at h ⊢
    omega
/-- two words -/
theorem wl2 (s0 p : ByteArray) (bk B b : Nat) (l : List UInt8) (V : World) {T : TypeId} {fr : Nat × Nat} (hrow : V.heap[bk]? = some (.cells #[.string s0, .string p] T fr)) (hbl : Bld B b l V) (hBb : B ≤ b) (hlen : l.length + (s0.size + p.size) + 10 ≤ 900000000) :
    Calls Tryz.prog 20 #[.iface 40 (.pointer (some ⟨b, 0, none⟩)), .slice (some ⟨bk, 0, none⟩) 2 2] V fun e w' => e = .returned (.tuple #[]) ∧ Wrote B b (l ++ (s0.data.toList ++ ([32] ++ (p.data.toList ++ [10])))) V w' := by
  have hj : Lib.join ([s0, p].map (·.data.toList)) [32] = s0.data.toList ++ ([32] ++ p.data.toList) := by simp [Lib.join]
  have z0 : s0.data.toList.length = s0.size := by simp
  have z1 : p.data.toList.length = p.size := by simp
  refine (writeLineW_any [s0, p] bk 0 2 B b l V (fun j x hx => ?_) (blk_lt hrow) (by simp) (by simp) hbl hBb ?_).mono ?_
  · rw [Nat.zero_add, cell_of_row _ _ _ _ _ _ hrow]
    match j, hx with
    | 0, hx => simpa using hx
    | 1, hx => simpa using hx
    | j + 2, hx => simp at hx
  · rw [hj]
    simp only [List.length_append, List.length_cons, List.length_nil]
    omega
  · rintro e w' ⟨rfl, hW⟩
    rw [hj] at hW
    exact ⟨rfl, hW.to (by simp only [List.append_assoc])⟩

/-- between two rounds of writeEntry -/
def WeI (B b : Nat) (l : List UInt8) (fs : List Fl) (n : Nat) (V : World) (i : Value) (wr : World) : Prop := ∃ j : Nat, j ≤ n ∧ i = .int .i64 j ∧ Wrote B b (l ++ (fs.take j).flatMap lineRd) V wr

set_option maxRecDepth 100000 in
set_option maxHeartbeats 1000000 in
theorem writeEntry_any (t s : ByteArray) (fs : List Fl) (x : ByteArray) (a : Option Addr) (n c : Nat) (B b : Nat) (l : List UInt8) (w : World) (hks : FilesAt w B a n fs) (hn : n ≤ maxLen) (hbl : Bld B b l w) (hBb : B ≤ b) (hlen : l.length + 16 * (1 + enSz (t, s, fs, x)) ≤ 800000000) :
    Calls Tryz.prog 13 #[.iface 40 (.pointer (some ⟨b, 0, none⟩)), .agg #[.string t, .string s, .slice a n c, .string x]] w fun e w' => e = .returned (.tuple #[]) ∧ Wrote B b (l ++ textE (t, s, fs, x)) w w' := by
  have hbw := hbl.lt
  simp only [enSz] at hlen
  have hl1 := lineE_len t s
  have hl2 := reads_len fs
  have hl3 := lineX_len x
  have k5 : (⟨#[101, 110, 116, 114, 121]⟩ : ByteArray).size = 5 := rfl
  have k4r : (⟨#[114, 101, 97, 100]⟩ : ByteArray).size = 4 := rfl
  have k4t : (⟨#[116, 101, 120, 116]⟩ : ByteArray).size = 4 := rfl
  have hkn := hks.1
  have hb0 := hbl.alloc (.cells #[.string t, .string s, .slice a n c, .string x] 36)
  have hx0 := BxN.new w t s (.slice a n c) x 36
  have hk0 := hks.alloc (by omega) (.cells #[.string t, .string s, .slice a n c, .string x] 36)
  have hz0 : (w.alloc (.cells #[.string t, .string s, .slice a n c, .string x] 36)).heap.size = w.heap.size + 1 := by simp
  obtain ⟨V, hV⟩ : ∃ V, w.alloc (.cells #[.string t, .string s, .slice a n c, .string x] 36) = V := ⟨_, rfl⟩
  have HV := Lib.hid hV
  have hBV : B ≤ V.heap.size := by rw [← hV, hz0]; omega
  have hbV : b < V.heap.size := by rw [← hV, hz0]; omega
  have hpre := Lib.hid (fun (l' : List UInt8) (w' : World) (h : Wrote B b l' V w') => (show Wrote B b l' w w' from Wrote.pre (by rw [hV]; exact h) (by omega)))
  go_enter Tryz.func13, Tryz.ntmps13
  rw [hV] at hb0 hx0 hk0
  clear hbl hks hz0
  go_upto_region 1 with (fail)
  clear hV
  obtain ⟨x0, x1, x2, x3, xf0, xf1, xf2, xf3, xl⟩ := hx0.facts
  go_wp2_with fail
  refine (wl3 ⟨#[101, 110, 116, 114, 121]⟩ t s V.heap.size B b l _ (heap_alloc_new V _) (hb0.alloc _) hBb (by rw [k5]; omega)).mono ?_
  rintro e w2 ⟨rfl, hW2⟩
  have hWV : Wrote B b (l ++ lineE t s) V w2 := hW2.pre (by omega)
  have hx2 : BxN w2 w.heap.size t s (.slice a n c) x 36 := hWV.cell hx0 (by decide) (by omega)
  clear hW2 x0 x1 x2 x3 xf0 xf1 xf2 xf3
  obtain ⟨x0, x1, x2, x3, xf0, xf1, xf2, xf3, xl2⟩ := hx2.facts
  go_wp2_with fail
  go_loopw [16] (fun i wr => WeI B b (l ++ lineE t s) fs n V i wr) (fun i _ => n - (intOf i).toNat)
  case atStart => exact ⟨0, Nat.zero_le _, rfl, by simpa using hWV⟩
  case round =>
    obtain ⟨j, hj, rfl, hW⟩ := hrel
    have hsw := hW.below.size
    have hacc := flatE_le lineRd fs j
    by_cases hlt : j < n
    · obtain ⟨b3, off3, p, q, rfl, hb3, hg3, hd0, hd1⟩ := (hk0.below hW.below).get hlt
      have hjj : (j : Int) < (n : Int) := by omega
      have hj0 : (0 : Int) ≤ (j : Int) := by omega
      have hsz3 := tot_get hg3
      have Hst := Lib.hid (flatE_take lineRd hg3)
      have hbw3 : b3 < wr.heap.size := by omega
      have hVr := heap_alloc_new (wr.alloc (.cells #[.string p, .string q] 38)) (.cells #[.string ⟨#[114, 101, 97, 100]⟩, .string p, .string q] 9)
      rw [World.size_alloc] at hVr
      have hbl3 := (hW.is.alloc (.cells #[.string p, .string q] 38)).alloc (.cells #[.string ⟨#[114, 101, 97, 100]⟩, .string p, .string q] 9)
      have HW := Lib.hid hW
      have Hx0 := Lib.hid hx0
      clear hg3 hW x0 x1 x2 x3 xf0 xf1 xf2 xf3 hx0
      go_wp2_with fail
      refine (wl3 ⟨#[114, 101, 97, 100]⟩ p q (wr.heap.size + 1) B b _ _ hVr hbl3 hBb (by rw [k4r]; simp only [List.length_append]; omega)).mono ?_
      rintro e w3 ⟨rfl, hW3⟩
      have hW4 : Wrote B b ((l ++ lineE t s ++ (fs.take j).flatMap lineRd) ++ lineRd (p, q)) wr w3 := (hW3.pre (by simp; omega)).pre (by omega)
      have HW5 := Lib.hid ((HW.out.then hW4).to (l' := l ++ lineE t s ++ (fs.take (j + 1)).flatMap lineRd) (by rw [Hst.out]; simp only [List.append_assoc]))
      clear hW3 hW4
      go_wp2_with fail
      exact ⟨⟨j + 1, by omega, by go_num, HW5.out⟩, by simp [intOf]; omega⟩
    · have hjn : ¬ (j : Int) < (n : Int) := by omega
      have hall : (fs.take j).flatMap lineRd = fs.flatMap lineRd := by rw [List.take_of_length_le (by omega)]
      rw [hall] at hW
      have hx3 : BxN wr w.heap.size t s (.slice a n c) x 36 := hW.cell hx0 (by decide) (by omega)
      clear x0 x1 x2 x3 xf0 xf1 xf2 xf3
      obtain ⟨x0, x1, x2, x3, xf0, xf1, xf2, xf3, xl3⟩ := hx3.facts
      have HW := Lib.hid hW
      have hbl3 := hW.is.alloc (.cells #[.string ⟨#[116, 101, 120, 116]⟩, .string x] 9)
      clear hW hall hacc
      go_wp2_with fail
      refine (wl2 ⟨#[116, 101, 120, 116]⟩ x wr.heap.size B b _ _ (heap_alloc_new wr _) hbl3 hBb (by rw [k4t]; simp only [List.length_append]; omega)).mono ?_
      rintro e w3 ⟨rfl, hW3⟩
      have hW4 : Wrote B b ((l ++ lineE t s ++ fs.flatMap lineRd) ++ lineX x) wr w3 := hW3.pre (by omega)
      have HW5 := Lib.hid (hpre.out _ _ ((HW.out.then hW4).to (l' := l ++ textE (t, s, fs, x)) (by simp only [textE, List.append_assoc])))
      clear hW3 hW4
      go_wp2_with fail
      go_end0
      exact ⟨rfl, HW5.out⟩

/-- between two rounds of FormatStore -/
def FsJ (w1 : World) (es : List En) (n : Nat) (i : Value) (wr : World) : Prop := ∃ j : Nat, j ≤ n ∧ i = .int .i64 j ∧ Bld w1.heap.size w1.heap.size ((es.take j).flatMap textE) wr ∧ Below w1.heap.size w1 wr

set_option maxRecDepth 100000 in
set_option maxHeartbeats 4000000 in
theorem fmtSI_any (pb : ByteArray → Bool) (hpb : ∀ s, IsP s.data.toList (pb s)) (es : List En) (a : Option Addr) (n c : Nat) (w : World) (hf : EnAt w 0 w.heap.size es a n) (hfit : EnFits es) (hn : n ≤ maxLen) (hz : es.length + enTot es ≤ 1048576) :
    Calls Tryz.prog 7 #[.slice a n c] w fun e w' => e = .returned (.string (fmtSt pb es)) ∧ Below w.heap.size w w' := by
  have hbz : ∀ x ∈ es, x.2.1.size ≤ 1048576 := by
    intro x hx
    obtain ⟨j, hj⟩ := List.mem_iff_getElem?.1 hx
    have := enTot_get hj
    simp only [enSz] at this
    omega
  have hts := textS_len es
  have hlen := Lib.hid hf.1
  unfold maxLen at hn
  go_enter Tryz.func7, Tryz.ntmps7
  go_wp2_with fail
  refine (storeI_any pb hpb es a n c w hf hfit (by unfold maxLen; omega) hbz).mono ?_
  rintro e w1 ⟨rfl, B1⟩
  rcases Bool.eq_false_or_eq_true (stB pb es) with hv | hv
  case inr =>
    rw [hv]
    go_wp2_with fail
    go_ret
    exact ⟨by unfold fmtSt; rw [hv]; rfl, B1⟩
  rw [hv]
  have Hv := Lib.hid hv
  have Hpb := Lib.hid hpb
  clear hpb hbz hv
  have hbl0 := Bld.new w1
  have B01 := (Below.refl w1.heap.size w1).alloc (Nat.le_refl _) (.cells #[.pointer none, .slice none 0 0] 43)
  go_wp2_with fail
  go_loopw [11] (fun i wr => FsJ w1 es n i wr) (fun i _ => n - (intOf i).toNat)
  case atStart => exact ⟨0, Nat.zero_le _, rfl, hbl0, B01⟩
  case round =>
    obtain ⟨j, hj, rfl, hbl, hB⟩ := hrel
    have Bw := B1.trans (hB.mono B1.size)
    have hsw := hB.size
    have hblt := hbl.lt
    have hacc := flatE_le textE es j
    by_cases hlt : j < n
    · obtain ⟨b, off, t, s, fs, x, a', n', c', rfl, _, hb, hg, hc0, hc1, hc2, hc3, hcap, hks⟩ := ((hf.next B1).below hB).get hlt
      have hjj : (j : Int) < (n : Int) := by omega
      have hj0 : (0 : Int) ≤ (j : Int) := by omega
      have hkl := hks.1
      subst hkl
      have hsz := enTot_get hg
      have hxf := hfit.get hg
      have Hst := Lib.hid (flatE_take textE hg)
      have hbw : b < wr.heap.size := by omega
      have hAl := (Below.refl wr.heap.size wr).alloc (Nat.le_refl _) (.cells #[.string t, .string s, .slice a' fs.length c', .string x] 36)
      have hbx := BxN.new wr t s (.slice a' fs.length c') x 36
      have hkV := hks.files.below (hAl.mono hsw)
      have BV := hB.trans (hAl.mono hB.size)
      have hblV := hbl.alloc (.cells #[.string t, .string s, .slice a' fs.length c', .string x] 36)
      have Hxf := Lib.hid hxf
      clear hg hks hxf hbl
      go_upto_region 7 with (fail)
      generalize wr.alloc (.cells #[.string t, .string s, .slice a' fs.length c', .string x] 36) = V at *
      obtain ⟨x0, x1, x2, x3, xf0, xf1, xf2, xf3, xl⟩ := hbx.facts
      go_wp2_with fail
      refine (writeEntry_any t s fs x a' fs.length c' w1.heap.size w1.heap.size _ V hkV Hxf.out.2.2.1 hblV (Nat.le_refl _) (by omega)).mono ?_
      rintro e w3 ⟨rfl, hW3⟩
      have B3 := BV.trans hW3.below
      have Hbl3 := Lib.hid hW3.is
      clear hW3
      go_wp2_with fail
      exact ⟨⟨j + 1, by omega, by go_num, by rw [Hst.out]; exact Hbl3.out, B3⟩, by simp [intOf]; omega⟩
    · have hjn : ¬ (j : Int) < (n : Int) := by omega
      have hall : (es.take j).flatMap textE = es.flatMap textE := by rw [List.take_of_length_le (by have := hlen.out; omega)]
      rw [hall] at hbl
      clear hall
      go_wp2_with fail
      refine (builderString_any _ _ _ _ hbl hsw).mono ?_
      rintro e w3 ⟨rfl, hB3⟩
      have B3 := Bw.trans (hB3.mono B1.size)
      go_wp2_with fail
      go_ret
      refine ⟨ret_str ?_, B3⟩
      unfold fmtSt
      rw [if_pos Hv.out]
end Go.Proofs.YtpmncjeccemgfaaGreat
