/-
  The program's conversion of an expression into its node.
-/
import Derived.Test.YtceiafncpimihaaGreatQNodeV
import Derived.Deep.RegionHeld3
namespace Go.Proofs.YtceiafncpimihaaGreat
set_option linter.unusedVariables false
open Go.RowKit

/-- what convert leaves -/
def CvP (k : Int) (s : ByteArray) (ks : Fo) (r : Option Nat) (P : Nat) (w : World) (e : Ending) (w' : World) : Prop :=
  match r with
  | some m' => ∃ v, e = .returned (.tuple #[v, .bool true]) ∧ NV1 w' w.heap.size w'.heap.size k s ks v ∧ Ctr w' P m' ∧ w.grownBy w' (some P)
  | none => e = .returned (.tuple #[.nilIface, .bool false]) ∧ w.grownBy w' (some P)
/-- the contract of convert at one node -/
def CvC (k : Int) (s : ByteArray) (ks : Fo) : Prop := ∀ (a : Option Addr) (n c d m P D : Nat) (w : World), KA w 0 D ks a n → s.size ≤ maxLen → ks.Fits → n ≤ maxLen → D ≤ P → P < w.heap.size → Ctr w P m → d ≤ 7 → m ≤ 20 →
  Calls Tryz.prog 87 #[.pointer (some ⟨P, 0, none⟩), .agg #[.int .i64 k, .string s, .slice a n c], .int .i64 d] w (CvP k s ks (conv1 k s ks d m) P w)
theorem node_info : (Tryz.prog.info? 102).map (fun i => (i.zero, i.size, i.bytes)) = some (some .nilIface, 1, 16) := by kernel_rfl
theorem conv1_no {k : Int} {s : ByteArray} {ks : Fo} {d m : Nat} (h : ¬ (m + 1 ≤ 20 ∧ d ≤ 6)) : conv1 k s ks d m = none := by unfold conv1; rw [if_neg h]
theorem KA.ctr {w w' : World} {D P n : Nat} {a : Option Addr} {f : Fo} (h : KA w 0 D f a n) (hg : w.grownBy w' (some P)) (hD : D ≤ P) (hP : P < w.heap.size) : KA w' 0 D f a n :=
  h.keep (Nat.le_refl _) (Nat.le_refl _) fun p _ hp => World.cell?_of_block (hg.block p.block (by omega) (fun e => by injection e; omega))
theorem grown_then {w w' w'' : World} {r : Option Nat} (h : w.grownBy w' r) (h2 : w'.grownBy w'' r) : w.grownBy w'' r :=
  ⟨h2.os.trans h.os, h2.tape.trans h.tape, h2.output.trans h.output, Nat.le_trans h.size h2.size, fun k hk hne => (h2.block k (Nat.lt_of_lt_of_le hk h.size) hne).trans (h.block k hk hne)⟩

theorem grown_own {w w' w'' : World} {P : Nat} {r : Option Nat} (h : w.grownBy w' (some P)) (h2 : w'.grownBy w'' r) (hr : ∀ g, r = some g → w.heap.size ≤ g) : w.grownBy w'' (some P) :=
  ⟨h2.os.trans h.os, h2.tape.trans h.tape, h2.output.trans h.output, Nat.le_trans h.size h2.size, fun k hk hne => (h2.block k (Nat.lt_of_lt_of_le hk h.size) (fun e => by have := hr k e.symm; omega)).trans (h.block k hk hne)⟩
theorem grown_below1 {w w' w'' : World} {P : Nat} (h : w.grownBy w' (some P)) (h2 : Below w'.heap.size w' w'') : w.grownBy w'' (some P) :=
  ⟨h2.os.trans h.os, h2.tape.trans h.tape, h2.output.trans h.output, Nat.le_trans h.size h2.size, fun k hk hne => (h2.block k (Nat.lt_of_lt_of_le hk h.size)).trans (h.block k hk hne)⟩
theorem conv1_bind (k : Int) (s : ByteArray) (ks : Fo) (d m : Nat) : conv (.node k s ks .nil) d m = conv1 k s ks d m := by
  rw [conv_node]
  cases conv1 k s ks d m <;> rfl
theorem conv1_ge {k : Int} {s : ByteArray} {ks : Fo} {d m m' : Nat} (hd : d ≤ 7) (hm : m ≤ 20) (h : conv1 k s ks d m = some m') : m + 1 ≤ m' ∧ m' ≤ 20 := by
  rw [← conv1_bind, conv_eq _ d m hd hm] at h
  split at h
  · rename_i h2
    cases h
    simp only [Fo.size] at h2 ⊢
    omega
  · cases h
/-- a row of the call's own, as values side by side -/
theorem own_vs {w : World} {base e n : Nat} {o : Value} {os : List Value} (h : w.ownsRow base e 1 o n os) : ∃ oa oc, o = .slice oa os.length oc ∧ VsAt w oa os ∧ SlotsAt w base w.heap.size oa os := by
  have hl := h.1
  rw [Nat.mul_one] at hl
  rcases h.2 with ⟨rfl, h0⟩ | ⟨g, cap, cur, rfl, hb, hg, _⟩
  · have : os.length = 0 := by omega
    exact ⟨none, 0, by rw [this], fun hn => absurd hn (by omega), fun hn => absurd hn (by omega)⟩
  · have hc : ∀ j v, os[j]? = some v → w.cell? ⟨g, 0 + j, none⟩ = some v := fun j v hv => by
      have := h.cells (g := g) rfl j v hv
      rwa [add_none] at this
    exact ⟨some ⟨g, 0, none⟩, cap, by rw [hl], fun _ => ⟨g, 0, rfl, hc⟩, fun _ => ⟨g, 0, rfl, hb, blk_lt hg, hc⟩⟩
theorem cell_one (w : World) (v : Value) (t : TypeId) : ∀ j u, [v][j]? = some u → (w.alloc (.cells #[v] t)).cell? ((⟨w.heap.size, 0, none⟩ : Addr).add j) = some u := by
  intro j u h
  rw [add_none, cell_of_row _ _ _ _ _ _ (heap_alloc_new w _)]
  simpa using h

set_option maxRecDepth 100000 in
set_option maxHeartbeats 4000000 in
theorem conv_of (k : Int) (s : ByteArray) (ks : Fo) (ih : ∀ k' s' ks', Fo.size ks' < ks.size → CvC k' s' ks') : CvC k s ks := by
  intro a n c d m P D w hk hs hfit hn hD hP hctr hd hm
  obtain rfl : ks.len = n := hk.1
  have Hs := Lib.hid hs
  have Hfit := Lib.hid hfit
  obtain ⟨i0, hi, hz0, hzz1, hzz2⟩ := info_parts node_info
  unfold maxLen at hn
  have hg0 := World.grownBy_alloc w (.cells #[.int .i64 k, .string s, .slice a ks.len c] 43) (some P)
  have hc0 : Ctr (w.alloc (.cells #[.int .i64 k, .string s, .slice a ks.len c] 43)) P m := (Below.heap_alloc w _ P hP).trans hctr
  have hb0 := heap_alloc_new w (.cells #[.int .i64 k, .string s, .slice a ks.len c] 43)
  have hw0 : (w.alloc (.cells #[.int .i64 k, .string s, .slice a ks.len c] 43)).heap.size = w.heap.size + 1 := by simp
  by_cases hok : m + 1 ≤ 20 ∧ d ≤ 6
  case neg =>
    rw [conv1_no hok]
    go_enter Tryz.func87, Tryz.ntmps87
    go_wp2_with fail
    refine (admit_any P m _ hc0 (by omega)).mono ?_
    rintro e w1 ⟨rfl, hc1, hg1, hsz1⟩
    have hgg := grown_then hg0 hg1
    by_cases h1 : m + 1 ≤ 20
    · rw [decide_eq_true h1]
      have h2 : ¬ (d : Int) ≤ 6 := by omega
      go_wp2_with fail
      go_ret2
      exact ⟨rfl, hgg⟩
    · rw [decide_eq_false h1]
      go_wp2_with fail
      go_ret2
      exact ⟨rfl, hgg⟩
  have hd6 : (d : Int) ≤ 6 := by omega
  go_enter Tryz.func87, Tryz.ntmps87
  go_wp2_with fail
  refine (admit_any P m _ hc0 (by omega)).mono ?_
  rintro e w1 ⟨rfl, hc1, hg1, hsz1⟩
  have hb1 : w1.heap[w.heap.size]? = _ := (hg1.block w.heap.size (by simp) (fun e => by injection e; omega)).trans hb0
  have hx2 : w1.cell? ⟨w.heap.size, 2, none⟩ = some (.slice a ks.len c) := by rw [cell_of_row _ _ _ _ _ _ hb1]; rfl
  have hgg := grown_then hg0 hg1
  rw [decide_eq_true hok.1]
  rw [hw0] at hsz1
  have Hb1 := Lib.hid hb1
  clear hg0 hc0 hb0 hb1 hg1
  go_wp2_with fail
  go_loopw [8, 23] (fun o i wr => ∃ (j m' : Nat) (os : List Value), j ≤ ks.len ∧ os.length = j ∧ i = .int .i64 j ∧ wr.ownsRow (w.heap.size + 1) 102 1 o j os ∧ DoneN wr (w.heap.size + 1) o ks os ∧ conv (ks.drop j) (d + 1) m' = conv ks (d + 1) (m + 1) ∧ m' ≤ 20 ∧ j + m + 1 ≤ m' ∧ Ctr wr P m' ∧ wr.heap[w.heap.size]? = some (.cells #[.int .i64 k, .string s, .slice a ks.len c] 43 (0, 0)) ∧ w.grownBy wr (some P)) (fun _ i _ => ks.len - (intOf i).toNat)
  case atStart => exact ⟨0, m + 1, [], Nat.zero_le _, rfl, rfl, World.ownsRow_nil _ _ _ _, DoneN.nil, by rw [Fo.drop_zero], hok.1, by omega, hc1, Hb1.out, hgg⟩
  case round =>
    obtain ⟨j, m', os, hj, hol, rfl, hown, hdone, hconv, hm', hjm, hcr, hbx, hgr⟩ := hrel
    obtain rfl : os.length = j := hol
    obtain ⟨oa, oc, rfl, hvs, hsl⟩ := own_vs hown
    have hwr := blk_lt hbx
    have Hown := Lib.hid hown
    have Hdone := Lib.hid hdone
    have Hconv := Lib.hid hconv
    have Hcr := Lib.hid hcr
    have Hbx := Lib.hid hbx
    by_cases hlt : os.length < ks.len
    · obtain ⟨b, off, k', s', ks', a', n', c', rfl, _, hb, hg, hc1', hc2', hc3', hcap, hks⟩ := (hk.ctr hgr hD hP).get hlt
      have hsz := Fo.get_size hg
      have Hg := Lib.hid hg
      have Hfk := Lib.hid (Hfit.out.get hg)
      have hn' : n' ≤ maxLen := by rw [← hks.1]; exact Hfk.out.2.1
      have hgk := World.grownBy_alloc wr (.cells #[.int .i64 k', .string s', .slice a' n' c'] 43) (some P)
      have hck : Ctr (wr.alloc (.cells #[.int .i64 k', .string s', .slice a' n' c'] 43)) P m' := (Below.heap_alloc wr _ P (by omega)).trans hcr
      have hkk := hks.alloc (by omega) (.cells #[.int .i64 k', .string s', .slice a' n' c'] 43)
      have hwk : (wr.alloc (.cells #[.int .i64 k', .string s', .slice a' n' c'] 43)).heap.size = wr.heap.size + 1 := by simp
      have Hgk := Lib.hid hgk
      have Hih := Lib.hid (ih k' s' ks' (by omega) a' n' c' (d + 1) m' P D _ hkk Hfk.out.1 Hfk.out.2.2 hn' hD (by rw [hwk]; omega) hck (by omega) hm')
      clear hown hdone hconv hcr hbx hg hvs hsl
      go_wp2_with fail
      refine Hih.out.mono ?_
      intro e w2 hpost
      have hcn : conv (ks.drop os.length) (d + 1) m' = (conv1 k' s' ks' (d + 1) m').bind fun m'' => conv (ks.drop (os.length + 1)) (d + 1) m'' := by rw [Fo.drop_get Hg.out, conv_node]
      have Hcn := Lib.hid hcn
      clear hcn
      cases hcv : conv1 k' s' ks' (d + 1) m' with
      | none =>
        rw [hcv] at hpost
        obtain ⟨rfl, hg2⟩ := hpost
        have hgz := grown_then hgr (grown_then Hgk.out hg2)
        have hno : conv1 k s ks d m = none := by
          unfold conv1
          rw [if_pos hok, ← Hconv.out, Hcn.out, hcv]
          rfl
        have Hno := Lib.hid hno
        clear hcv hno
        go_wp2_with fail
        go_ret2
        rw [Hno.out]
        exact ⟨rfl, hgz⟩
      | some m'' =>
        rw [hcv] at hpost
        obtain ⟨v, rfl, hv, hc2, hg2⟩ := hpost
        obtain ⟨t, x, rfl⟩ := hv.iface
        rw [hwk] at hv
        have hge := conv1_ge (by omega) hm' hcv
        have hw2 : wr.heap.size + 1 ≤ w2.heap.size := by have := hg2.size; rw [hwk] at this; exact this
        have hown2 : w2.ownsRow (w.heap.size + 1) 102 1 (.slice oa os.length oc) os.length os := (Hown.out.alloc _).kept hg2 (.inr (fun e => by have := (Hown.out.lt P e).1; omega))
        have hdone2 := (Hdone.out.grown Hgk.out (by omega)).grown hg2 (by omega)
        have hbx2 : w2.heap[w.heap.size]? = _ := (hg2.block w.heap.size (by rw [hwk]; omega) (fun e => by injection e; omega)).trans ((Below.heap_alloc wr _ w.heap.size hwr).trans Hbx.out)
        have hgz := grown_then hgr (grown_then Hgk.out hg2)
        have hoL : ∀ g, (Value.slice oa os.length oc).ownBlock = some g → g < wr.heap.size + 1 ∧ w.heap.size + 1 ≤ g := fun g hg => by have := Hown.out.lt g hg; omega
        have hP2 : P < w2.heap.size := by omega
        have hgx := World.grownBy_alloc w2 (.cells #[.iface t x] 102) (some P)
        have Hall := Lib.hid (And.intro hown2 (And.intro hdone2 (And.intro hbx2 (And.intro hgz (And.intro hv (And.intro hc2 (And.intro hoL hgx)))))))
        have hw2' : w.heap.size + 1 ≤ w2.heap.size + 1 := by omega
        have hlen20 : os.length + 1 ≤ 20 := by omega
        have Hcv := Lib.hid hcv
        clear hown2 hdone2 hbx2 hgz hv hc2 hoL hgx hcv hg2
        go_wp2_with (at_builtin; refine wpList_append_at rfl _ _ 124 rfl (w.heap.size + 1) 102 i0 _ 1 16 Tryz.underlying124 hi hz0 hzz1 hzz2 rfl (by decide) _ _ _ rfl (Hall.out.1.alloc _) ⟨w2.heap.size, 0, none⟩ 1 1 [.iface t x] rfl rfl (cell_one _ _ _) (by simp [Value.oneCell']) (by simp only [maxLen]; omega) (by omega) (by simp; omega) ?_; intro v4 w4 hown4 hgrow4 hat4)
        obtain ⟨_, hdone2, hbx2, hgz, hv, hc2, hoL, hgx⟩ := Hall.out
        have hx0 : (w2.alloc (.cells #[.iface t x] 102)).heap.size = w2.heap.size + 1 := by simp
        have hgo := grown_own (grown_then hgz hgx) hgrow4 fun g hg => by have := hoL g hg; omega
        have hd4 := (hdone2.grown hgx (by omega)).snoc (L := wr.heap.size + 1) (B := w2.heap.size) hgrow4 hat4 Hg.out (hv.grown hgx (Nat.le_refl _) (fun g e => by injection e with e; omega)) (by omega) (by rw [hx0]; omega) (fun g hg => (hoL g hg).1)
        have hc4 : Ctr w4 P m'' := (hgrow4.block P (by rw [hx0]; omega) (fun e => by have := hoL P e.symm; omega)).trans ((Below.heap_alloc w2 _ P hP2).trans hc2)
        have hb4 : w4.heap[w.heap.size]? = _ := (hgrow4.block w.heap.size (by rw [hx0]; omega) (fun e => by have := hoL _ e.symm; omega)).trans ((Below.heap_alloc w2 _ w.heap.size (by omega)).trans hbx2)
        have hcv4 : conv (ks.drop (os.length + 1)) (d + 1) m'' = conv ks (d + 1) (m + 1) := by rw [← Hconv.out, Hcn.out, Hcv.out]; rfl
        have hfin : ∃ (j m' : Nat) (os' : List Value), j ≤ ks.len ∧ os'.length = j ∧ Value.int .i64 ((os.length : Int) + 1) = .int .i64 j ∧ w4.ownsRow (w.heap.size + 1) 102 1 v4 j os' ∧ DoneN w4 (w.heap.size + 1) v4 ks os' ∧ conv (ks.drop j) (d + 1) m' = conv ks (d + 1) (m + 1) ∧ m' ≤ 20 ∧ j + m + 1 ≤ m' ∧ Ctr w4 P m' ∧ w4.heap[w.heap.size]? = some (.cells #[.int .i64 k, .string s, .slice (some ⟨b, off, none⟩) ks.len c] 43 (0, 0)) ∧ w.grownBy w4 (some P) :=
          ⟨os.length + 1, m'', os ++ [.iface t x], by omega, by simp, rfl, hown4, hd4, hcv4, hge.2, by omega, hc4, hb4, hgo⟩
        have Hfin := Lib.hid hfin
        clear hfin hcv4 hb4 hc4 hd4 hgo hx0 hdone2 hbx2 hgz hv hc2 hoL hgx hown4 hgrow4 hat4
        go_wp2_with fail
        exact ⟨Hfin.out, by simp [intOf]; omega⟩
    · have e0 : os.length = ks.len := by omega
      have hnv := hdone.all e0
      have hif := nvs_iface hnv
      have y0 : wr.cell? ⟨w.heap.size, 0, none⟩ = some (.int .i64 k) := by rw [cell_of_row _ _ _ _ _ _ hbx]; rfl
      have y1 : wr.cell? ⟨w.heap.size, 1, none⟩ = some (.string s) := by rw [cell_of_row _ _ _ _ _ _ hbx]; rfl
      have y2 : wr.cell? ⟨w.heap.size, 2, none⟩ = some (.slice a ks.len c) := by rw [cell_of_row _ _ _ _ _ _ hbx]; rfl
      have hcn : conv ks (d + 1) (m + 1) = some m' := by rw [← hconv, e0, Fo.drop_all (Nat.le_refl _)]; rfl
      have hno : conv1 k s ks d m = if nodeB k s os.length = true then some m' else none := by unfold conv1; rw [if_pos hok, hcn, e0]; rfl
      have Hnn := Lib.hid (And.intro hno (And.intro hnv (And.intro hif (And.intro hvs (And.intro hsl hgr)))))
      have He0 := Lib.hid e0
      have hol : os.length ≤ maxLen := by simp only [maxLen]; omega
      have Hol := Lib.hid hol
      clear hno hcn hnv hif hown hdone hconv hcr hbx hvs hsl hgr e0 hol
      go_wp2_with fail
      refine (newNode_any k s (.slice a ks.len c) oa oc os wr Hs.out Hnn.out.2.2.2.1 Hnn.out.2.2.1 Hol.out).mono ?_
      rintro e w2 ⟨rfl, hB2⟩
      have HB2 := Lib.hid hB2
      clear hB2
      rcases Bool.eq_false_or_eq_true (nodeB k s os.length) with hnb | hnb
      · rw [show mk? (nodeB k s os.length) (nodeV k s (.slice oa os.length oc) os) = .tuple #[nodeV k s (.slice oa os.length oc) os, .bool true] from by rw [hnb]; rfl]
        have Hnb := Lib.hid hnb
        clear hnb
        obtain ⟨t, x, hix⟩ := nodeV_iface k s (.slice oa os.length oc) os
        rw [hix]
        have Hix := Lib.hid hix
        clear hix
        go_wp2_with fail
        go_ret2
        obtain ⟨hno, hnv, _, _, hsl, hgr⟩ := Hnn.out
        rw [hno, if_pos Hnb.out]
        refine ⟨_, rfl, ?_, ?_, grown_below1 hgr HB2.out⟩
        · refine ⟨os, oa, oc, nvs_keep (by omega) HB2.out.size (fun p h1 h2 => HB2.out.cell h2) hnv, by rw [← He0.out]; exact Hix.out.symm, hsl.keep (by omega) HB2.out.size (fun p h1 h2 => HB2.out.cell h2)⟩
        · exact (HB2.out.block P (by omega)).trans Hcr.out
      · rw [show mk? (nodeB k s os.length) (nodeV k s (.slice oa os.length oc) os) = .tuple #[.nilIface, .bool false] from by rw [hnb]; rfl]
        have Hnb := Lib.hid hnb
        clear hnb
        go_wp2_with fail
        go_ret2
        obtain ⟨hno, _, _, _, _, hgr⟩ := Hnn.out
        rw [hno, Hnb.out]
        exact ⟨rfl, grown_below1 hgr HB2.out⟩
theorem conv_all (N : Nat) : ∀ k s ks, Fo.size ks ≤ N → CvC k s ks := by
  induction N with
  | zero => exact fun k s ks hN => conv_of k s ks fun k' s' ks' h => absurd h (by omega)
  | succ N ih => exact fun k s ks hN => conv_of k s ks fun k' s' ks' h => ih k' s' ks' (by omega)
/-- what nodeOf leaves -/
def NodeP (k : Int) (s : ByteArray) (ks : Fo) (w : World) (e : Ending) (w' : World) : Prop :=
  if validE k s ks = true then ∃ v, e = .returned (.tuple #[v, .bool true]) ∧ NV1 w' w.heap.size w'.heap.size k s ks v ∧ Below w.heap.size w w'
  else e = .returned (.tuple #[.nilIface, .bool false]) ∧ Below w.heap.size w w'
theorem below_grown {w w' w'' : World} {P : Nat} (h : Below w.heap.size w w') (h2 : w'.grownBy w'' (some P)) (hP : w.heap.size ≤ P) : Below w.heap.size w w'' :=
  h.grown h2 h.size fun k e => by injection e with e; omega

set_option maxHeartbeats 400000 in
theorem nodeOf_any (k : Int) (s : ByteArray) (ks : Fo) (a : Option Addr) (n c : Nat) (w : World) (hk : KA w 0 w.heap.size ks a n) (hs : s.size ≤ maxLen) (hfit : ks.Fits) (hn : n ≤ maxLen) :
    Calls Tryz.prog 70 #[.agg #[.int .i64 k, .string s, .slice a n c]] w (NodeP k s ks w) := by
  have B2 := ((Below.refl w.heap.size w).alloc (Nat.le_refl _) (.cells #[.int .i64 k, .string s, .slice a n c] 43)).alloc (by simp) (.cells #[.int .i64 0] 117)
  have hW : ((w.alloc (.cells #[.int .i64 k, .string s, .slice a n c] 43)).alloc (.cells #[.int .i64 0] 117)).heap.size = w.heap.size + 2 := by simp
  have hctr : Ctr ((w.alloc (.cells #[.int .i64 k, .string s, .slice a n c] 43)).alloc (.cells #[.int .i64 0] 117)) (w.heap.size + 1) 0 := by
    have := heap_alloc_new (w.alloc (.cells #[.int .i64 k, .string s, .slice a n c] 43)) (.cells #[.int .i64 0] 117)
    rwa [show (w.alloc (.cells #[.int .i64 k, .string s, .slice a n c] 43)).heap.size = w.heap.size + 1 from by simp] at this
  have hih := conv_all ks.size k s ks (Nat.le_refl _) a n c 1 0 (w.heap.size + 1) w.heap.size _ (hk.below B2) hs hfit hn (by omega) (by rw [hW]; omega) hctr (by omega) (by omega)
  rw [conv1_valid] at hih
  have Hih := Lib.hid hih
  have HB2 := Lib.hid B2
  clear hctr hih B2
  go_enter Tryz.func70, Tryz.ntmps70
  go_wp2_with fail
  refine Hih.out.mono ?_
  intro e w3 hpost
  rcases Bool.eq_false_or_eq_true (validE k s ks) with hv | hv
  · rw [if_pos hv] at hpost
    obtain ⟨v, rfl, hnv, _, hg⟩ := hpost
    rw [hW] at hnv
    obtain ⟨t, x, rfl⟩ := hnv.iface
    have Hall := Lib.hid (And.intro hv (And.intro hnv (below_grown HB2.out hg (by omega))))
    clear hv hnv hg hk
    go_wp2_with fail
    go_ret2
    unfold NodeP
    rw [if_pos Hall.out.1]
    exact ⟨_, rfl, Hall.out.2.1.more (by omega) (Nat.le_refl _), Hall.out.2.2⟩
  · rw [if_neg (by rw [hv]; simp)] at hpost
    obtain ⟨rfl, hg⟩ := hpost
    have Hall := Lib.hid (And.intro hv (below_grown HB2.out hg (by omega)))
    clear hv hg hk
    go_wp2_with fail
    go_ret2
    unfold NodeP
    rw [if_neg (by rw [Hall.out.1]; simp)]
    exact ⟨rfl, Hall.out.2⟩
theorem validI_expr (k : Int) (s : ByteArray) (ks : Fo) (a : Option Addr) (n c : Nat) (w : World) (hk : KA w 0 w.heap.size ks a n) (hs : s.size ≤ maxLen) (hfit : ks.Fits) (hn : n ≤ maxLen) :
    Calls Tryz.prog 42 #[.agg #[.int .i64 k, .string s, .slice a n c]] w fun e w' => e = .returned (.bool (validE k s ks)) ∧ Below w.heap.size w w' := by
  have hB0 := (Below.refl w.heap.size w).alloc (Nat.le_refl _) (.cells #[.int .i64 k, .string s, .slice a n c] 43)
  have Hno := Lib.hid (nodeOf_any k s ks a n c _ (hk.next hB0) hs hfit hn)
  have HB0 := Lib.hid hB0
  clear hk hs hfit hn hB0
  rcases Bool.eq_false_or_eq_true (validE k s ks) with hv | hv
  · rw [hv]
    have Hv := Lib.hid hv
    clear hv
    go_enter Tryz.func42, Tryz.ntmps42
    go_wp2_with fail
    refine Hno.out.mono ?_
    intro e w1 hpost
    unfold NodeP at hpost
    rw [if_pos Hv.out] at hpost
    obtain ⟨v, rfl, hnv, hB⟩ := hpost
    have hBB := HB0.out.trans (hB.mono HB0.out.size)
    clear hnv hB
    go_wp2_with fail
    go_ret
    exact ⟨rfl, hBB⟩
  · rw [hv]
    have Hv := Lib.hid hv
    clear hv
    go_enter Tryz.func42, Tryz.ntmps42
    go_wp2_with fail
    refine Hno.out.mono ?_
    intro e w1 hpost
    unfold NodeP at hpost
    rw [if_neg (by rw [Hv.out]; simp)] at hpost
    obtain ⟨rfl, hB⟩ := hpost
    have hBB := HB0.out.trans (hB.mono HB0.out.size)
    clear hB
    go_wp2_with fail
    go_ret
    exact ⟨rfl, hBB⟩
end Go.Proofs.YtceiafncpimihaaGreat
