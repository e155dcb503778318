/-
  The program's ExprEqual, walked.
-/
import Derived.Test.YtahdpocaldhamaaGreatQEqI
import Derived.WideMake
import Derived.Deep.RegionLaw
namespace Go.Proofs.YtahdpocaldhamaaGreat
set_option linter.unusedVariables false
set_option linter.unusedSimpArgs false
open Go.RowKit

/-- a box with a pair -/
def PrBx (w : World) (g : Nat) (m : Pr) : Prop := w.heap[g]? = some (.cells #[.pointer (some ⟨m.1.1, m.1.2, none⟩), .pointer (some ⟨m.2.1, m.2.2, none⟩)] 78 (0, 0))
theorem PrBx.cells {w : World} {g : Nat} {m : Pr} (h : PrBx w g m) : w.cell? ⟨g, 0, none⟩ = some (.pointer (some ⟨m.1.1, m.1.2, none⟩)) ∧ w.cell? ⟨g, 1, none⟩ = some (.pointer (some ⟨m.2.1, m.2.2, none⟩)) := ⟨by rw [cell_of_row _ _ _ _ _ _ h]; rfl, by rw [cell_of_row _ _ _ _ _ _ h]; rfl⟩
theorem PrBx.frozen {w : World} {g : Nat} {m : Pr} (h : PrBx w g m) (i : Nat) : w.frozen? ⟨g, i, none⟩ = false := blk_frozen h i
theorem RdN.box (w : World) (k : Int) (s : ByteArray) (ks : Fo) (a : Option Addr) (n c : Nat) (hk : RdA w ks a n) (hc : n ≤ c) : RdN (w.alloc (.cells #[.int .i64 k, .string s, .slice a n c] 41)) k s ks (w.heap.size, 0) := by
  have h := heap_alloc_new w (.cells #[.int .i64 k, .string s, .slice a n c] 41)
  exact ⟨⟨_, _, h⟩, by rw [cell_of_row _ _ _ _ _ _ h]; rfl, by rw [cell_of_row _ _ _ _ _ _ h]; rfl, a, n, c, by rw [cell_of_row _ _ _ _ _ _ h]; rfl, hc, hk.keep fun b hb => Below.heap_alloc w _ b hb⟩

theorem eq_step {wr w7 w2 : World} {o : Obj} {g6 bm R : Nat} {M : List Pr} {m : Pr} (hg : ((wr.alloc o).drew).grownBy w7 (some g6)) (hm : MapP wr bm M) (hb : PrBx wr R m) (hB : Below w2.heap.size w2 wr) (h1 : bm < g6) (h2 : g6 ≠ R) (h3 : w2.heap.size ≤ g6) :
    MapP w7 bm M ∧ PrBx w7 R m ∧ Below w2.heap.size w2 w7 ∧ R < w7.heap.size := by
  have hR : R < wr.heap.size := blk_lt hb
  have hbm := hm.lt
  have hk : ∀ x, x < wr.heap.size → x ≠ g6 → w7.heap[x]? = wr.heap[x]? := fun x hx hne => (hg.block x (by show x < (wr.alloc o).heap.size; simp; omega) (by simpa using hne)).trans (Below.heap_alloc wr o x hx)
  have hsz : (wr.alloc o).heap.size ≤ w7.heap.size := hg.size
  simp only [World.size_alloc] at hsz
  exact ⟨hm.block (hk _ hbm (by omega)), (hk _ hR (by omega)).trans hb, ((hB.alloc hB.size o).drew).grown hg (by show w2.heap.size ≤ (wr.alloc o).heap.size; have := hB.size; simp; omega) (fun k e => by injection e with e; omega), by omega⟩

set_option maxRecDepth 100000 in
set_option maxHeartbeats 8000000 in
theorem eqI_any (b : Bool) (k k' : Int) (s s' : ByteArray) (ks ks' : Fo) (hb : b = true ↔ (k = k' ∧ s = s' ∧ ks = ks')) (a a' : Option Addr) (n n' c c' : Nat) (w : World) (h1 : RdA w ks a n) (h2 : RdA w ks' a' n') (hc : n ≤ c) (hc' : n' ≤ c') (hz : ks.size ≤ 1048576) (hfit : s.size ≤ maxLen ∧ n ≤ maxLen ∧ n' ≤ maxLen) :
    Calls Tryz.prog 19 #[.agg #[.int .i64 k, .string s, .slice a n c], .agg #[.int .i64 k', .string s', .slice a' n' c']] w fun e w' => e = .returned (.bool b) ∧ Below w.heap.size w w' := by
  have B2 := ((Below.refl w.heap.size w).alloc (Nat.le_refl _) (.cells #[.int .i64 k, .string s, .slice a n c] 41)).alloc (by simp) (.cells #[.int .i64 k', .string s', .slice a' n' c'] 41)
  have R1 := (RdN.box w k s ks a n c h1 hc).keep (fun g hg => Below.heap_alloc (w.alloc (.cells #[.int .i64 k, .string s, .slice a n c] 41)) (.cells #[.int .i64 k', .string s', .slice a' n' c'] 41) g hg)
  have R2 := RdN.box (w.alloc (.cells #[.int .i64 k, .string s, .slice a n c] 41)) k' s' ks' a' n' c' (h2.keep fun g hg => Below.heap_alloc w _ g hg) hc'
  rw [World.size_alloc] at R2
  have hE := EqI.start (root := ((w.heap.size, 0), (w.heap.size + 1, 0))) R1 R2
  have hS : SumS ((w.alloc (.cells #[.int .i64 k, .string s, .slice a n c] 41)).alloc (.cells #[.int .i64 k', .string s', .slice a' n' c'] 41)) [((w.heap.size, 0), (w.heap.size + 1, 0))] (ks.size + 1) := ⟨k, s, ks, 0, R1, rfl, by omega⟩
  have hO := fun W => run_makeMap_plain (P := Tryz.prog) W 75
  have HE := Lib.hid hE
  have HS := Lib.hid hS
  have HR := Lib.hid (And.intro R1 R2)
  have Hb := Lib.hid hb
  have Hz2 := Lib.hid (show ((w.alloc (.cells #[.int .i64 k, .string s, .slice a n c] 41)).alloc (.cells #[.int .i64 k', .string s', .slice a' n' c'] 41)).heap.size = w.heap.size + 2 from by simp)
  clear hE hS R1 R2 h1 h2 hb hfit
  go_enter Tryz.func19, Tryz.ntmps19
  go_wp2_with fail
  generalize hw2 : (w.alloc (.cells #[.int .i64 k, .string s, .slice a n c] 41)).alloc (.cells #[.int .i64 k', .string s', .slice a' n' c'] 41) = w2 at *
  have hD := Hz2.out
  have hD' : w2.heap.size = w.heap.size + 1 + 1 := by omega
  have HD := Lib.hid hD
  have hM0 := Lib.hid (show MapP (w2.alloc (.map #[] 0)) (w.heap.size + 1 + 1) [] from ⟨#[], 0, by rw [← hD']; exact heap_alloc_new w2 _, rfl, by simp⟩)
  have hO0 := OwnPr.one (base := w.heap.size + 1 + 1 + 1) (w2.alloc (.map #[] 0)) ((w.heap.size, 0), (w.heap.size + 1, 0)) (by simp; omega)
  rw [World.size_alloc, hD'] at hO0
  have HO0 := Lib.hid hO0
  have HB0 := Lib.hid (((Below.refl w2.heap.size w2).alloc (Nat.le_refl _) (.map #[] 0)).alloc (by simp) (.cells #[.pointer (some ⟨w.heap.size, 0, none⟩), .pointer (some ⟨w.heap.size + 1, 0, none⟩)] 78))
  have HB2 := Lib.hid B2
  clear hD hO0 B2 hw2 Hz2 hD'
  go_loopg [6] (ks.size + 1) (fun N v wr => ∃ (M W : List Pr) (g cap : Nat), v = .slice (some ⟨g, 0, none⟩) W.length cap ∧ OwnPr wr (w.heap.size + 1 + 1 + 1) (.slice (some ⟨g, 0, none⟩) W.length cap) W ∧ MapP wr (w.heap.size + 1 + 1) M ∧ EqI w2 ((w.heap.size, 0), (w.heap.size + 1, 0)) (k = k' ∧ s = s' ∧ ks = ks') M W ∧ SumS w2 W N ∧ N ≤ 1048577 ∧ Below w2.heap.size w2 wr)
  case atStart => exact ⟨[], [((w.heap.size, 0), (w.heap.size + 1, 0))], _, 1, rfl, HO0.out, hM0.out.block (Below.heap_alloc _ _ _ (by have := hM0.out.lt; exact this)), HE.out, HS.out, by omega, HB0.out⟩
  case round =>
    obtain ⟨M, W, g, cap, rfl, hown, hmap, hE, hS, hN, hB⟩ := hrel
    clear HO0 hM0 HB0 HE HS
    rcases List.eq_nil_or_concat W with rfl | ⟨W', m, hW⟩
    · have hbt : b = true := Hb.out.2 (EqI.done hE HR.out.1 HR.out.2)
      have Hbt := Lib.hid hbt
      have HB := Lib.hid (HB2.out.trans (hB.mono HB2.out.size))
      clear hown hmap hE hS hB hbt
      go_wp2_with fail
      go_ret
      exact ⟨ret_bool Hbt.out.symm, HB.out⟩
    · simp only [List.concat_eq_append] at hW
      subst hW
      simp only [show (W' ++ [m]).length = W'.length + 1 from by simp] at hown ⊢
      obtain ⟨k1, s1, f1, k2, s2, f2, r1, r2, hq⟩ := hE.rd m (by simp)
      obtain ⟨hx1, hx2⟩ := hown.cells
      obtain ⟨N', hS', hNN⟩ := SumS.pop r1 hS
      have hlenW : W'.length ≤ 1048576 := by have := hS'.len; omega
      have hroom := hown.room
      have hblt := hmap.lt
      have hroom' : W'.length ≤ cap := by omega
      have hcut := hown.cut
      have hD := HD.out
      have hgl := (hown.lt g rfl).2
      obtain ⟨⟨mb, mo⟩, ⟨qb, qo⟩⟩ := m
      have hkeep : ∀ x : Nat, x < w2.heap.size → wr.heap[x]? = w2.heap[x]? := fun x hx => hB.block x hx
      have hpm : PPln wr ((mb, mo), (qb, qo)) := ⟨r1.1.block (hkeep _ r1.1.lt), r2.1.block (hkeep _ r2.1.lt)⟩
      have hpM : ∀ x ∈ M, PPln wr x := fun x hx => ⟨(hE.pl x hx).1.block (hkeep _ (hE.pl x hx).1.lt), (hE.pl x hx).2.block (hkeep _ (hE.pl x hx).2.lt)⟩
      simp only at hx1 hx2
      have HpA := Lib.hid (show PPln (wr.alloc (.cells #[.pointer (some ⟨mb, mo, none⟩), .pointer (some ⟨qb, qo, none⟩)] 78)) ((mb, mo), (qb, qo)) from ⟨hpm.1.block (Below.heap_alloc _ _ _ hpm.1.lt), hpm.2.block (Below.heap_alloc _ _ _ hpm.2.lt)⟩)
      have HpB := Lib.hid (show ∀ x ∈ M, PPln (wr.alloc (.cells #[.pointer (some ⟨mb, mo, none⟩), .pointer (some ⟨qb, qo, none⟩)] 78)) x from fun x hx => ⟨(hpM x hx).1.block (Below.heap_alloc _ _ _ (hpM x hx).1.lt), (hpM x hx).2.block (Below.heap_alloc _ _ _ (hpM x hx).2.lt)⟩)
      have HmA := Lib.hid (hmap.block (w' := wr.alloc (.cells #[.pointer (some ⟨mb, mo, none⟩), .pointer (some ⟨qb, qo, none⟩)] 78)) (Below.heap_alloc _ _ _ hmap.lt))
      have HBA := Lib.hid (hB.alloc hB.size (.cells #[.pointer (some ⟨mb, mo, none⟩), .pointer (some ⟨qb, qo, none⟩)] 78))
      have HcA := Lib.hid (hcut.alloc (.cells #[.pointer (some ⟨mb, mo, none⟩), .pointer (some ⟨qb, qo, none⟩)] 78))
      have HS' := Lib.hid (And.intro hS' hNN)
      have HE := Lib.hid hE
      have Hr := Lib.hid (And.intro r1 (And.intro r2 hq))
      have HBw := Lib.hid hB
      have hlw : w2.heap.size ≤ wr.heap.size := hB.size
      clear hS hS' hNN hcut hpm hpM hkeep hmap hE hown hq r1 r2 hB
      by_cases hmem : ((mb, mo), (qb, qo)) ∈ M
      · have Hd := Lib.hid (show decide (((mb, mo), (qb, qo)) ∈ M) = true by simpa using hmem)
        have Hmem := Lib.hid hmem
        clear hmem
        go_wp2_with ((at_lookup; refine wpList_look_pair rfl _ _ rfl (w.heap.size + 1 + 1) M rfl HmA.out ((mb, mo), (qb, qo)) rfl HpA.out HpB.out true Hd.out ?_))
        go_roundg N'
        case measure => have := HS'.out.2; omega
        case rel => exact ⟨M, W', g, cap, rfl, HcA.out, HmA.out, HE.out.drop Hmem.out, HS'.out.1, by have := HS'.out.2; omega, HBA.out⟩
      · have Hd := Lib.hid (show decide (((mb, mo), (qb, qo)) ∈ M) = false by simpa using hmem)
        have Hmem := Lib.hid hmem
        clear hmem
        obtain ⟨r1, r2, hq⟩ := Hr.out
        obtain ⟨_, _, _, a1, n1, c1, e13, hc1, hA1⟩ := id r1
        obtain ⟨_, _, _, a2, n2, c2, e23, hc2, hA2⟩ := id r2
        have hn1 : n1 ≤ 1048576 := by have := HS'.out.2; have := f1.len_size; rw [← hA1.1]; omega
        have hl1 := r1.1.lt
        have hl2 := r2.1.lt
        simp only at e13 e23 hl1 hl2
        have Hcc := Lib.hid (And.intro e13 e23)
        have HA := Lib.hid (And.intro hA1 hA2)
        have Hrr := Lib.hid (And.intro r1 r2)
        have Hq := Lib.hid hq
        clear r1 r2 hq hA1 hA2 e13 e23
        have mid : ∀ w5, (wr.alloc (.cells #[.pointer (some ⟨mb, mo, none⟩), .pointer (some ⟨qb, qo, none⟩)] 78)).grownBy w5 (some (w.heap.size + 1 + 1)) → PrBx w5 wr.heap.size ((mb, mo), (qb, qo)) ∧ Below w2.heap.size w2 w5 ∧ OwnPr w5 (w.heap.size + 1 + 1 + 1) (.slice (some ⟨g, 0, none⟩) W'.length cap) W' := by
          intro w5 hg5
          refine ⟨(hg5.block wr.heap.size (by simp) (by simp; omega)).trans (heap_alloc_new wr _), HBA.out.grown hg5 (by simp; omega) (fun k e => by cases e; omega), HcA.out.kept hg5 fun k e => by cases e; omega⟩
        have Hmid := Lib.hid mid
        clear mid
        by_cases hkk : k1 = k2
        case neg =>
          have hbf : b = false := by
            cases b with
            | false => rfl
            | true => exact absurd (Hq.out (Hb.out.1 rfl)).1 hkk
          have Hbf := Lib.hid hbf
          clear hbf
          have hkb : (k1 != k2) = true := by simpa using hkk
          go_wp2_with (first
            | (at_lookup; refine wpList_look_pair rfl _ _ rfl (w.heap.size + 1 + 1) M rfl HmA.out ((mb, mo), (qb, qo)) rfl HpA.out HpB.out false Hd.out ?_)
            | (at_mapUpdate; refine wpList_put_pair rfl _ _ _ rfl (w.heap.size + 1 + 1) M rfl HmA.out ((mb, mo), (qb, qo)) rfl rfl HpA.out HpB.out Hmem.out ?_; intro w5 hm5 hg5; obtain ⟨hb5, hB5, ho5⟩ := Hmid.out w5 hg5; obtain ⟨p0, p1⟩ := hb5.cells; obtain ⟨_, d1, d2, _⟩ := Hrr.out.1.keep fun x hx => hB5.block x hx; obtain ⟨_, g1, g2, _⟩ := Hrr.out.2.keep fun x hx => hB5.block x hx; have d3 := (hB5.cell (p := ⟨mb, mo + 2, none⟩) hl1).trans Hcc.out.1; have g3 := (hB5.cell (p := ⟨qb, qo + 2, none⟩) hl2).trans Hcc.out.2; dsimp only at p0 p1 d1 d2 d3 g1 g2 g3))
          go_quiet (fail)
          have HB5 := Lib.hid (HB2.out.trans (hB5.mono HB2.out.size))
          clear hm5 hg5 hb5 hB5 ho5
          go_wp2_with fail
          go_ret
          exact ⟨ret_bool Hbf.out.symm, below_drewN HB5.out _⟩
        case pos =>
        subst hkk
        have hkb : (k1 != k1) = false := by simp
        by_cases hss : s1 = s2
        case neg =>
          have hbf : b = false := by
            cases b with
            | false => rfl
            | true => exact absurd (Hq.out (Hb.out.1 rfl)).2.1 hss
          have Hbf := Lib.hid hbf
          clear hbf
          have hsb : (s1.toList == s2.toList) = false := by
            rw [beq_eq_false_iff_ne]
            intro e
            exact hss (ByteArray.ext (by simpa [ByteArray.toList_eq] using congrArg List.toArray e))
          go_wp2_with (first
            | (at_lookup; refine wpList_look_pair rfl _ _ rfl (w.heap.size + 1 + 1) M rfl HmA.out ((mb, mo), (qb, qo)) rfl HpA.out HpB.out false Hd.out ?_)
            | (at_mapUpdate; refine wpList_put_pair rfl _ _ _ rfl (w.heap.size + 1 + 1) M rfl HmA.out ((mb, mo), (qb, qo)) rfl rfl HpA.out HpB.out Hmem.out ?_; intro w5 hm5 hg5; obtain ⟨hb5, hB5, ho5⟩ := Hmid.out w5 hg5; obtain ⟨p0, p1⟩ := hb5.cells; obtain ⟨_, d1, d2, _⟩ := Hrr.out.1.keep fun x hx => hB5.block x hx; obtain ⟨_, g1, g2, _⟩ := Hrr.out.2.keep fun x hx => hB5.block x hx; have d3 := (hB5.cell (p := ⟨mb, mo + 2, none⟩) hl1).trans Hcc.out.1; have g3 := (hB5.cell (p := ⟨qb, qo + 2, none⟩) hl2).trans Hcc.out.2; dsimp only at p0 p1 d1 d2 d3 g1 g2 g3))
          go_quiet (fail)
          have HB5 := Lib.hid (HB2.out.trans (hB5.mono HB2.out.size))
          clear hm5 hg5 hb5 hB5 ho5
          go_wp2_with fail
          go_ret
          exact ⟨ret_bool Hbf.out.symm, below_drewN HB5.out _⟩
        case pos =>
        have hsb : (s1.toList == s2.toList) = true := by rw [hss]; simp
        have Hss := Lib.hid hss
        clear hss
        by_cases hnn : n1 = n2
        case neg =>
          have hbf : b = false := by
            cases b with
            | false => rfl
            | true => exact absurd (show n1 = n2 from by have := (Hq.out (Hb.out.1 rfl)).2.2; rw [← HA.out.1.1, ← HA.out.2.1, this]) hnn
          have Hbf := Lib.hid hbf
          clear hbf
          have hnb : ((n1 : Int) != (n2 : Int)) = true := by rw [bne_iff_ne]; omega
          go_wp2_with (first
            | (at_lookup; refine wpList_look_pair rfl _ _ rfl (w.heap.size + 1 + 1) M rfl HmA.out ((mb, mo), (qb, qo)) rfl HpA.out HpB.out false Hd.out ?_)
            | (at_mapUpdate; refine wpList_put_pair rfl _ _ _ rfl (w.heap.size + 1 + 1) M rfl HmA.out ((mb, mo), (qb, qo)) rfl rfl HpA.out HpB.out Hmem.out ?_; intro w5 hm5 hg5; obtain ⟨hb5, hB5, ho5⟩ := Hmid.out w5 hg5; obtain ⟨p0, p1⟩ := hb5.cells; obtain ⟨_, d1, d2, _⟩ := Hrr.out.1.keep fun x hx => hB5.block x hx; obtain ⟨_, g1, g2, _⟩ := Hrr.out.2.keep fun x hx => hB5.block x hx; have d3 := (hB5.cell (p := ⟨mb, mo + 2, none⟩) hl1).trans Hcc.out.1; have g3 := (hB5.cell (p := ⟨qb, qo + 2, none⟩) hl2).trans Hcc.out.2; dsimp only at p0 p1 d1 d2 d3 g1 g2 g3))
          go_quiet (fail)
          have HB5 := Lib.hid (HB2.out.trans (hB5.mono HB2.out.size))
          clear hm5 hg5 hb5 hB5 ho5
          go_wp2_with fail
          go_ret
          exact ⟨ret_bool Hbf.out.symm, below_drewN HB5.out _⟩
        case pos =>
        have hnb : ((n1 : Int) != (n2 : Int)) = false := by rw [hnn]; simp
        have Hnn := Lib.hid hnn
        clear hnn
        go_wp2_with (first
            | (at_lookup; refine wpList_look_pair rfl _ _ rfl (w.heap.size + 1 + 1) M rfl HmA.out ((mb, mo), (qb, qo)) rfl HpA.out HpB.out false Hd.out ?_)
            | (at_mapUpdate; refine wpList_put_pair rfl _ _ _ rfl (w.heap.size + 1 + 1) M rfl HmA.out ((mb, mo), (qb, qo)) rfl rfl HpA.out HpB.out Hmem.out ?_; intro w5 hm5 hg5; obtain ⟨hb5, hB5, ho5⟩ := Hmid.out w5 hg5; obtain ⟨p0, p1⟩ := hb5.cells; obtain ⟨_, d1, d2, _⟩ := Hrr.out.1.keep fun x hx => hB5.block x hx; obtain ⟨_, g1, g2, _⟩ := Hrr.out.2.keep fun x hx => hB5.block x hx; have d3 := (hB5.cell (p := ⟨mb, mo + 2, none⟩) hl1).trans Hcc.out.1; have g3 := (hB5.cell (p := ⟨qb, qo + 2, none⟩) hl2).trans Hcc.out.2; dsimp only at p0 p1 d1 d2 d3 g1 g2 g3))
        go_quiet (fail)
        have HB5 := Lib.hid hB5
        have Ho5 := Lib.hid ho5
        have Hm5 := Lib.hid hm5
        have Hb5 := Lib.hid hb5
        have z0 : (w5.drewN nq).cell? ⟨wr.heap.size, 0, none⟩ = some (.pointer (some ⟨mb, mo, none⟩)) := p0
        have z3 : (w5.drewN nq).cell? ⟨mb, mo + 2, none⟩ = some (.slice a1 n1 c1) := d3
        clear p0 p1 d1 d2 d3 g1 g2 g3 hm5 hg5 hb5 hB5 ho5 hx1 hx2 hkb hsb hnb
        go_wp2_with fail
        generalize hR : wr.heap.size = R at *
        clear hR
        go_loopw [6, 76] (fun v i wr6 => ∃ (j g6 cap6 : Nat), j ≤ n1 ∧ i = .int .i64 j ∧ v = .slice (some ⟨g6, 0, none⟩) (W'.length + j) cap6 ∧ OwnPr wr6 (w.heap.size + 1 + 1 + 1) (.slice (some ⟨g6, 0, none⟩) (W'.length + j) cap6) (W' ++ (List.range j).map fun i => (kid a1 i, kid a2 i)) ∧ g6 ≠ R ∧ MapP wr6 (w.heap.size + 1 + 1) (M ++ [((mb, mo), (qb, qo))]) ∧ PrBx wr6 R ((mb, mo), (qb, qo)) ∧ Below w2.heap.size w2 wr6 ∧ R < wr6.heap.size) (fun _ i _ => n1 - (intOf i).toNat)
        case atStart => exact ⟨0, g, cap, Nat.zero_le _, rfl, rfl, by have := Ho5.out; simpa using (show OwnPr (w5.drewN nq) _ _ _ from this), by omega, Hm5.out, Hb5.out, below_drewN HB5.out _, blk_lt Hb5.out⟩
        case round =>
          obtain ⟨j, g6, cap6, hj, rfl, rfl, hown, hg6, hmp, hbx, hB6, hlt6⟩ := hrel
          clear z0 z3
          have Hown := Lib.hid hown
          have Hmp := Lib.hid hmp
          have Hbx := Lib.hid hbx
          have HB6 := Lib.hid hB6
          have hcs := hbx.cells
          have d3 := (hB6.cell (p := ⟨mb, mo + 2, none⟩) hl1).trans Hcc.out.1
          have g3 := (hB6.cell (p := ⟨qb, qo + 2, none⟩) hl2).trans Hcc.out.2
          clear hown hmp hbx hB6
          by_cases hlt : j < n1
          · have hlt2 : j < n2 := by have := Hnn.out; omega
            obtain ⟨b1, o1, ha1, _⟩ := HA.out.1.2 (by omega)
            obtain ⟨b2, o2, ha2, _⟩ := HA.out.2.2 (by omega)
            obtain ⟨p0, p1⟩ := hcs
            rw [ha1] at d3
            rw [ha2] at g3
            have Hk := Lib.hid (show ((kid a1 j, kid a2 j) : Pr) = ((b1, o1 + j * 3), (b2, o2 + j * 3)) from by rw [ha1, ha2]; rfl)
            dsimp only at p0 p1
            have Hst := Lib.hid (show W' ++ (List.range (j + 1)).map (fun i => ((kid a1 i, kid a2 i) : Pr)) = (W' ++ (List.range j).map fun i => ((kid a1 i, kid a2 i) : Pr)) ++ [((b1, o1 + j * 3), (b2, o2 + j * 3))] from by rw [List.range_succ, List.map_append, ← List.append_assoc, ← Hk.out]; rfl)
            have hj0 : (0 : Int) ≤ (j : Int) := by omega
            have hj1 : (j : Int) < (n1 : Int) := by omega
            have hj2 : (j : Int) < (n2 : Int) := by omega
            clear ha1 ha2
            go_wp2_with fail
            go_region_law (refine step_append_pair rfl _ _ (by rfl) (w.heap.size + 1 + 1 + 1) (.slice (some ⟨g6, 0, none⟩) (W'.length + j) cap6) (W' ++ (List.range j).map fun i => (kid a1 i, kid a2 i)) (by rfl) (by exact Hown.out.alloc _) wr.heap.size 1 (by rfl) ((b1, o1 + j * 3), (b2, o2 + j * 3)) (by exact heap_alloc_new wr _) (W'.length + j) (by simp) (by omega) (by simp; omega) ?_; intro g7 cap7 w7 hown7 hgrow7 hlt7 hbg7)
            all_goals go_wp2_with fail
            all_goals
              obtain ⟨y1, y2, y3, y4⟩ := eq_step (g6 := g6) hgrow7 Hmp.out Hbx.out HB6.out (by have := (Hown.out.lt g6 rfl).1; omega) hg6 (by have := (Hown.out.lt g6 rfl).1; omega)
              exact ⟨⟨j + 1, g7, cap7, by omega, by go_num, rfl, by rw [Hst.out]; exact hown7, by
                rcases hbg7 with e | e
                · have e3 : g6 = g7 := by injection e
                  omega
                · have e2 : (wr.alloc (.cells #[.pointer (some ⟨b1, o1 + j * 3, none⟩), .pointer (some ⟨b2, o2 + j * 3, none⟩)] 78)).heap.size ≤ g7 := e
                  simp only [World.size_alloc] at e2
                  omega, y1, y2, y3, y4⟩, by simp [intOf]; omega⟩
          · have hjn : j = n1 := by omega
            have hge : ¬ (j : Int) < (n1 : Int) := by omega
            have Hjn := Lib.hid hjn
            clear hjn
            go_wp2_with fail
            obtain ⟨N3, hN3, hN4⟩ := SumS.kids (a' := a2) HA.out.1 j (by omega) HS'.out.1
            rw [Fo.drop_all (by rw [HA.out.1.1]; have := Hjn.out; omega)] at hN4
            have hNN := HS'.out.2
            simp only [Fo.size] at hN4
            obtain rfl := Hss.out
            obtain rfl := Hnn.out
            obtain rfl := Hjn.out
            go_roundg N3
            case measure => omega
            case rel => exact ⟨M ++ [((mb, mo), (qb, qo))], W' ++ (List.range j).map (fun i => (kid a1 i, kid a2 i)), g6, cap6, by simp, by have := Hown.out; simpa using this, Hmp.out, HE.out.next Hrr.out.1 Hrr.out.2 Hcc.out.1 Hcc.out.2, hN3, by omega, HB6.out⟩
end Go.Proofs.YtahdpocaldhamaaGreat
