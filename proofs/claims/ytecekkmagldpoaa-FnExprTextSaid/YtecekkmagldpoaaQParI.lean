/-
  The program's cursor reads expressions: expr, kidsUntil, kidsBefore.
-/
import Derived.Test.YtecekkmagldpoaaQCur
import Derived.Test.YtecekkmagldpoaaGone
import Derived.Test.YtecekkmagldpoaaQConv
namespace Go.Proofs.Ytecekkmagldpoaa
set_option linter.unusedVariables false
set_option linter.unusedSimpArgs false
open Go.RowKit

theorem bsz (l : List UInt8) : (⟨l.toArray⟩ : ByteArray).size = l.length := by show l.toArray.size = _; simp
theorem bdat (l : List UInt8) : (⟨l.toArray⟩ : ByteArray).data.toList = l := by simp
theorem grown_of_below {w w' : World} {r : Option Nat} (h : Below w.heap.size w w') : w.grownBy w' r := ⟨h.os, h.tape, h.output, h.size, fun k hk _ => h.block k hk⟩
theorem Cur.grown {w w' : World} {R m : Nat} {s : ByteArray} {r : Option Nat} (h : Cur w R s m) (hg : w.grownBy w' r) (hr : r ≠ some R) : Cur w' R s m := (hg.block R (blk_lt h) (fun e => hr e.symm)).trans h
theorem cur_ne {l : List UInt8} {c : UInt8} (h : cutB ⟨l.toArray⟩ ⟨#[c]⟩ = false) (t : List UInt8) : l ≠ c :: t := by
  have := cutB_no h t
  simpa using this
theorem cur_eq {l : List UInt8} {c : UInt8} (h : cutB ⟨l.toArray⟩ ⟨#[c]⟩ = true) : ∃ t, l = c :: t ∧ (⟨l.toArray⟩ : ByteArray).extract (⟨#[c]⟩ : ByteArray).size (⟨l.toArray⟩ : ByteArray).size = ⟨t.toArray⟩ := by
  obtain ⟨t, h1, h2⟩ := cutB_yes h
  exact ⟨t, by simpa using h1, h2⟩
theorem take_yes (R m : Nat) (s p : ByteArray) (w : World) (hc : Cur w R s m) (hs : s.size ≤ maxLen) (hp : p.size ≤ maxLen) (h : cutB s p = true) :
    Calls Try.prog 47 #[.pointer (some ⟨R, 0, none⟩), .string p] w fun e w' => e = .returned (.bool true) ∧ Moved w R (s.extract p.size s.size) m w' :=
  (take_any R m s p w hc hs hp).mono fun e w' ⟨h1, h2⟩ => ⟨by rw [h1, h], by rw [h, if_pos rfl] at h2; exact h2⟩
theorem take_no (R m : Nat) (s p : ByteArray) (w : World) (hc : Cur w R s m) (hs : s.size ≤ maxLen) (hp : p.size ≤ maxLen) (h : cutB s p = false) :
    Calls Try.prog 47 #[.pointer (some ⟨R, 0, none⟩), .string p] w fun e w' => e = .returned (.bool false) ∧ Moved w R s m w' :=
  (take_any R m s p w hc hs hp).mono fun e w' ⟨h1, h2⟩ => ⟨by rw [h1, h], by rw [h, if_neg (by decide)] at h2; exact h2⟩
/-- how long a slice is -/
def lenV : Value → Nat
  | .slice _ n _ => n
  | _ => 0
/-- what expr leaves -/
def ExPost (R : Nat) (l : List UInt8) (n : Nat) (w : World) (e : Ending) (w' : World) : Prop :=
  w.grownBy w' (some R) ∧
  ((∃ k s ks a c bk g tail, e = .returned (.tuple #[.agg #[.int .i64 k, .string s, .slice a (Fo.len ks) c], .bool true]) ∧ CopX w' w.heap.size ks a c bk g ∧ Cur w' R ⟨List.toArray tail⟩ (20 - n + (ks.size + 1)) ∧ Reads1 l n k s ks tail) ∨
   (∃ k s, e = .returned (.tuple #[.agg #[.int .i64 k, .string s, .slice none 0 0], .bool false]) ∧ NoRead l n))
/-- what kidsUntil leaves -/
def KuPost (R : Nat) (l : List UInt8) (n : Nat) (w : World) (e : Ending) (w' : World) : Prop :=
  w.grownBy w' (some R) ∧
  ((∃ f a c bk g tail, e = .returned (.tuple #[.slice a (Fo.len f) c, .bool true]) ∧ CopX w' w.heap.size f a c bk g ∧ Cur w' R ⟨List.toArray tail⟩ (20 - n + f.size) ∧ Tx f ∧ l = fmS f [] ++ 41 :: tail ∧ f.size ≤ n) ∨
   (e = .returned (.tuple #[.slice none 0 0, .bool false]) ∧ NoJoin l n))
/-- what kidsBefore leaves -/
def KbPost (R : Nat) (l : List UInt8) (n : Nat) (ms : List (List UInt8)) (w : World) (e : Ending) (w' : World) : Prop :=
  w.grownBy w' (some R) ∧
  ((∃ f a c bk g tail, e = .returned (.tuple #[.slice a (Fo.len f) c, .bool true]) ∧ CopX w' w.heap.size f a c bk g ∧ Cur w' R ⟨List.toArray tail⟩ (20 - n + f.size) ∧ Tx f ∧ f.len = ms.length ∧ l = fmS f ms ++ tail ∧ f.size ≤ n) ∨
   (e = .returned (.tuple #[.slice none 0 0, .bool false]) ∧ NoSeps l n ms))
/-- the contract of expr with room for n nodes -/
def ExC (n : Nat) : Prop := ∀ (R m : Nat) (s : ByteArray) (l : List UInt8) (w : World), Cur w R s m → s.data.toList = l → s.size ≤ 1048576 → m + n = 20 →
  Calls Try.prog 16 #[.pointer (some ⟨R, 0, none⟩)] w (ExPost R l n w)
theorem readsS_snoc {l : List UInt8} {n : Nat} {seps : List (List UInt8)} {f : Fo} {cur tail : List UInt8} {k : Int} {s : ByteArray} {ks : Fo} (h : ReadsS l n seps f cur) (h1 : Reads1 cur (n - f.size) k s ks tail) {m t : List UInt8} (hm : (seps.drop f.len).headD [] = m) (ht : tail = m ++ t) : ReadsS l n seps (f.snoc k s ks) t := by
  obtain ⟨hf, hl, hz⟩ := h
  obtain ⟨h2, h3, h4, h5⟩ := h1
  have tx_snoc : ∀ g : Fo, Tx g → Tx (g.snoc k s ks) := by
    intro g
    induction g with
    | nil => exact fun _ => ⟨h2, h3, trivial⟩
    | node k' s' ks' r _ ih => exact fun hg => ⟨hg.1, hg.2.1, ih hg.2.2⟩
  have fm_snoc : ∀ (g : Fo) (sp : List (List UInt8)), fmS (g.snoc k s ks) sp = fmS g sp ++ fm1 k s ks ++ (sp.drop g.len).headD [] := by
    intro g
    induction g with
    | nil => intro sp; simp only [Fo.snoc, fmS_node, Fo.len]; simp [fmS]
    | node k' s' ks' r _ ih =>
      intro sp
      simp only [Fo.snoc, fmS_node, Fo.len]
      rw [ih]
      cases sp with
      | nil => simp
      | cons a sp => simp
  refine ⟨tx_snoc f hf, ?_, by rw [Fo.snoc_size]; omega⟩
  rw [fm_snoc, hm, hl, h4, ht]
  simp

set_option maxRecDepth 100000 in
set_option maxHeartbeats 4000000 in
theorem ku_of (n : Nat) (ih : ∀ n', n' ≤ n → ExC n') (R m : Nat) (s : ByteArray) (l : List UInt8) (w : World) (hc : Cur w R s m) (hl : s.data.toList = l) (hs : s.size ≤ 1048576) (hm : m + n = 20) :
    Calls Try.prog 30 #[.pointer (some ⟨R, 0, none⟩), .string ⟨#[41]⟩] w (KuPost R l n w) := by
  have hR := blk_lt hc
  have hll : l.length ≤ 1048576 := by rw [← hl, Array.length_toList]; exact hs
  obtain rfl : s = ⟨l.toArray⟩ := ba_ext (by rw [hl])
  have Hc0 := Lib.hid hc
  clear hc hl
  go_enter Try.func30, Try.ntmps30
  go_wp2_with fail
  go_loopw [6] (fun v wr => ∃ (f bk : Fo) (cur : List UInt8), OwnB wr w.heap.size v f bk ∧ lenV v = f.len ∧ Cur wr R ⟨cur.toArray⟩ (20 - n + f.size) ∧ ReadsS l n [] f cur ∧ w.grownBy wr (some R)) (fun v _ => 20 - lenV v)
  case atStart => exact ⟨.nil, .nil, l, OwnB.nil _ _, rfl, by rw [show 20 - n + Fo.nil.size = m from by simp only [Fo.size]; omega]; exact Hc0.out, ⟨trivial, rfl, Nat.zero_le _⟩, World.grownBy.refl _ _⟩
  case round =>
    obtain ⟨f, bk, cur, hown, hlv, hcur, hrd, hgr⟩ := hrel
    have hcl : cur.length ≤ 1048576 := by have := congrArg List.length hrd.2.1; rw [List.length_append] at this; omega
    have hfz := hrd.2.2
    have hfl := Fo.size_len f
    have hws := hgr.size
    have Hown := Lib.hid hown
    have Hrd := Lib.hid hrd
    have Hgr := Lib.hid hgr
    have Hcur := Lib.hid hcur
    clear hown hrd hgr hcur
    by_cases hb : cutB ⟨cur.toArray⟩ ⟨#[41]⟩ = true
    · have Hb := Lib.hid hb
      clear hb
      go_wp2_with fail
      refine (take_yes R _ ⟨cur.toArray⟩ ⟨#[41]⟩ wr Hcur.out (by rw [bsz]; unfold maxLen; omega) (by decide) Hb.out).mono ?_
      rintro e w1 ⟨rfl, hM⟩
      obtain ⟨t, ht, hx⟩ := cur_eq Hb.out
      rw [hx] at hM
      have HM := Lib.hid hM
      have Ht := Lib.hid ht
      clear hM ht hx
      obtain ⟨av, dv, gv, rfl, hcv⟩ := (Hown.out.grown HM.out.2.1 (fun g e => by injection e with e; omega)).form
      have Hcv := Lib.hid hcv
      clear hcv hlv
      go_wp2_with fail
      go_ret2
      exact ⟨grown_then Hgr.out HM.out.2.1, .inl ⟨f, av, dv, bk, gv, t, rfl, Hcv.out, HM.out.1, Hrd.out.1, by have := Hrd.out.2.1; rw [Ht.out] at this; exact this, Hrd.out.2.2⟩⟩
    · have Hb := Lib.hid (Bool.eq_false_iff.2 hb)
      clear hb
      go_wp2_with fail
      refine (take_no R _ ⟨cur.toArray⟩ ⟨#[41]⟩ wr Hcur.out (by rw [bsz]; unfold maxLen; omega) (by decide) Hb.out).mono ?_
      rintro e w1 ⟨rfl, hM⟩
      have HM := Lib.hid hM
      have hw1 : w1.heap.size = wr.heap.size := hM.2.2
      clear hM
      have Hih := Lib.hid (ih (n - f.size) (by omega) R _ ⟨cur.toArray⟩ cur w1 HM.out.1 (bdat cur) (by rw [bsz]; exact hcl) (by omega))
      go_wp2_with fail
      refine Hih.out.mono ?_
      rintro e w2 ⟨hg2, ⟨k3, s3, ks3, a4, c4, bk4, g4, tail, rfl, hcx, hcur2, hr1⟩ | ⟨k3, s3, rfl, hno⟩⟩
      · have hg12 := grown_then HM.out.2.1 hg2
        have hw2 := hg2.size
        have Hcx := Lib.hid hcx
        have Hr1 := Lib.hid hr1
        have Hcur2 := Lib.hid hcur2
        have Hg12 := Lib.hid hg12
        have hO2 := Hown.out.grown hg12 (fun g e => by injection e with e; omega)
        have Hown4 := Lib.hid ((hO2.alloc (.cells #[.int .i64 k3, .string s3, .slice a4 ks3.len c4] 25)).alloc (.cells #[.int .i64 k3, .string s3, .slice a4 ks3.len c4] 25))
        have hb4 := heap_alloc_new (w2.alloc (.cells #[.int .i64 k3, .string s3, .slice a4 ks3.len c4] 25)) (.cells #[.int .i64 k3, .string s3, .slice a4 ks3.len c4] 25)
        rw [World.size_alloc] at hb4
        have Hbx4 := Lib.hid hb4
        have Hk4 := Lib.hid (((hcx.2.2.1.alloc (Nat.le_refl _) (.cells #[.int .i64 k3, .string s3, .slice a4 ks3.len c4] 25)).alloc (by simp) (.cells #[.int .i64 k3, .string s3, .slice a4 ks3.len c4] 25)).more (Nat.le_refl _) (B' := ((w2.alloc (.cells #[.int .i64 k3, .string s3, .slice a4 ks3.len c4] 25)).alloc (.cells #[.int .i64 k3, .string s3, .slice a4 ks3.len c4] 25)).heap.size) (by simp; omega))
        have Hs4 := Lib.hid ((hcx.2.2.2.1.keep (w' := w2.alloc (.cells #[.int .i64 k3, .string s3, .slice a4 ks3.len c4] 25)) (fun x _ hx => Below.heap_alloc w2 _ x hx)).keep (w' := (w2.alloc (.cells #[.int .i64 k3, .string s3, .slice a4 ks3.len c4] 25)).alloc (.cells #[.int .i64 k3, .string s3, .slice a4 ks3.len c4] 25)) (fun x _ hx => Below.heap_alloc _ _ x hx))
        have Hin4 : Hid (∀ x ∈ blksA g4 bk4, w1.heap.size ≤ x ∧ x < ((w2.alloc (.cells #[.int .i64 k3, .string s3, .slice a4 ks3.len c4] 25)).alloc (.cells #[.int .i64 k3, .string s3, .slice a4 ks3.len c4] 25)).heap.size) := Lib.hid fun x hx => ⟨(hcx.2.2.2.2.2.1 x hx).1, by have := (hcx.2.2.2.2.2.1 x hx).2; simp; omega⟩
        have HO : Hid ((∀ g, u6.ownBlock = some g → g < w1.heap.size) ∧ ∀ x ∈ bk.blks, x < w1.heap.size) := Lib.hid ⟨fun g hg => by have := (Hown.out.own.lt g hg).2; omega, fun x hx => by have := Hown.out.bound x hx; omega⟩
        have HL := Lib.hid (fun g hg => (Hown.out.own.lt g hg).1 : ∀ g, u6.ownBlock = some g → w.heap.size ≤ g)
        clear hcx hr1 hcur2 hg12 hO2 hb4 hg2 Hih
        go_wp2_with (at_builtin; refine wpList_append_bk rfl _ _ rfl w.heap.size _ f bk rfl Hown4.out (w2.heap.size + 1) 1 rfl k3 s3 ks3 a4 c4 w1.heap.size bk4 g4 Hbx4.out Hcx.out.1 Hk4.out (by omega) HO.out.1 HO.out.2 Hs4.out Hcx.out.2.2.2.2.1 Hin4.out Hcx.out.2.2.2.2.2.2 (by omega) (by simp; omega) ?_; intro g6 cap6 w6 hown6 hgrow6 hlt6 hbg6)
        have hg6 : w.grownBy w6 (some R) := grown_own (grown_then Hgr.out (grown_alloc (grown_alloc Hg12.out _) _)) hgrow6 fun g e => HL.out g e
        have hcur6 : Cur w6 R ⟨tail.toArray⟩ (20 - n + (f.snoc k3 s3 ks3).size) := by
          rw [Fo.snoc_size, show 20 - n + (f.size + ks3.size + 1) = 20 - (n - f.size) + (ks3.size + 1) from by omega]
          exact ((Hcur2.out.alloc _).alloc _).grown hgrow6 (fun e => by have := HL.out R e; omega)
        have hrd6 := readsS_snoc Hrd.out Hr1.out (m := []) (t := tail) (by simp) rfl
        exact ⟨⟨_, _, tail, hown6, by rw [Fo.snoc_len]; rfl, hcur6, hrd6, hg6⟩, by have h1 := hrd6.2.2; have h2 := Fo.size_len (f.snoc k3 s3 ks3); rw [Fo.snoc_len] at h2; simp [lenV] at hlv ⊢; omega⟩
      · have Hno := Lib.hid hno
        have Hg12 := Lib.hid (grown_then HM.out.2.1 hg2)
        clear hno hg2 Hih
        go_wp2_with fail
        go_ret2
        exact ⟨grown_alloc (grown_then Hgr.out Hg12.out) _, .inr ⟨rfl, noJoin_of Hrd.out (cur_ne Hb.out) Hno.out⟩⟩

theorem cutS_ne {l p : List UInt8} (h : cutB ⟨l.toArray⟩ ⟨p.toArray⟩ = false) (t : List UInt8) : l ≠ p ++ t := by
  have := cutB_no h t
  simpa using this
theorem cutS_eq {l p : List UInt8} (h : cutB ⟨l.toArray⟩ ⟨p.toArray⟩ = true) : ∃ t, l = p ++ t ∧ (⟨l.toArray⟩ : ByteArray).extract (⟨p.toArray⟩ : ByteArray).size (⟨l.toArray⟩ : ByteArray).size = ⟨t.toArray⟩ := by
  obtain ⟨t, h1, h2⟩ := cutB_yes h
  exact ⟨t, by simpa using h1, h2⟩
theorem CopX.grown {w w' : World} {base c g R : Nat} {f bk : Fo} {a : Option Addr} (h : CopX w base f a c bk g) (hg : w.grownBy w' (some R)) (hR : R < base) : CopX w' base f a c bk g := by
  obtain ⟨h1, h2, h3, h4, h5, h6, h7⟩ := h
  refine ⟨h1, h2, h3.keep (Nat.le_refl _) hg.size fun p h8 h9 => World.cell?_of_block (hg.block p.block h9 (fun e => by injection e with e; omega)), h4.keep fun x hx hxs => hg.block x hxs (fun e => by injection e with e; have := h6 x hx; omega), h5, fun x hx => ⟨(h6 x hx).1, Nat.lt_of_lt_of_le (h6 x hx).2 hg.size⟩, h7⟩

set_option maxRecDepth 100000 in
set_option maxHeartbeats 4000000 in
theorem kb_of (n : Nat) (ih : ∀ n', n' ≤ n → ExC n') (R m b : Nat) (s : ByteArray) (l : List UInt8) (ms : List (List UInt8)) (w : World) (hc : Cur w R s m) (hl : s.data.toList = l) (hs : s.size ≤ 1048576) (hm : m + n = 20)
    (hms : ∀ j u, ms[j]? = some u → w.cell? ⟨b, j, none⟩ = some (.string ⟨u.toArray⟩)) (hb : b < w.heap.size) (hbR : b ≠ R) (hml : ms.length ≤ 4) (hmz : ∀ u ∈ ms, u.length ≤ 1) :
    Calls Try.prog 31 #[.pointer (some ⟨R, 0, none⟩), .slice (some ⟨b, 0, none⟩) ms.length ms.length] w (KbPost R l n ms w) := by
  have hR := blk_lt hc
  have hll : l.length ≤ 1048576 := by rw [← hl, Array.length_toList]; exact hs
  obtain rfl : s = ⟨l.toArray⟩ := ba_ext (by rw [hl])
  have Hc0 := Lib.hid hc
  clear hc hl
  have Hms := Lib.hid hms
  have Hmz := Lib.hid hmz
  clear hms hmz
  go_enter Try.func31, Try.ntmps31
  go_wp2_with fail
  go_loopw [6, 13] (fun v i wr => ∃ (j : Nat) (f bk : Fo) (cur : List UInt8), j ≤ ms.length ∧ i = .int .i64 j ∧ f.len = j ∧ OwnB wr w.heap.size v f bk ∧ Cur wr R ⟨cur.toArray⟩ (20 - n + f.size) ∧ ReadsS l n ms f cur ∧ w.grownBy wr (some R)) (fun _ i _ => ms.length - (intOf i).toNat)
  case atStart => exact ⟨0, .nil, .nil, l, Nat.zero_le _, rfl, rfl, OwnB.nil _ _, by rw [show 20 - n + Fo.nil.size = m from by simp only [Fo.size]; omega]; exact Hc0.out, ⟨trivial, rfl, Nat.zero_le _⟩, World.grownBy.refl _ _⟩
  case round =>
    obtain ⟨j, f, bk, cur, hj, rfl, hfj, hown, hcur, hrd, hgr⟩ := hrel
    have hcl : cur.length ≤ 1048576 := by have := congrArg List.length hrd.2.1; rw [List.length_append] at this; omega
    have hfz := hrd.2.2
    have hws := hgr.size
    have Hown := Lib.hid hown
    have Hrd := Lib.hid hrd
    have Hgr := Lib.hid hgr
    have Hcur := Lib.hid hcur
    clear hown hrd hgr hcur
    by_cases hlt : j < ms.length
    · obtain ⟨mk, hmk⟩ : ∃ mk, ms[j]? = some mk := ⟨_, List.getElem?_eq_getElem hlt⟩
      have hj0 : (0 : Int) ≤ (j : Int) := by omega
      have hjn : (j : Int) < (ms.length : Int) := by omega
      have hx0 : wr.cell? ⟨b, j, none⟩ = some (.string ⟨mk.toArray⟩) := (World.cell?_of_block (Hgr.out.block b hb (fun e => by injection e with e; omega))).trans (Hms.out j mk hmk)
      have hmkz : mk.length ≤ 1 := Hmz.out mk (List.mem_of_getElem? hmk)
      have Hmk := Lib.hid hmk
      have Hih := Lib.hid (ih (n - f.size) (by omega) R _ ⟨cur.toArray⟩ cur wr Hcur.out (bdat cur) (by rw [bsz]; exact hcl) (by omega))
      clear hmk
      go_wp2_with fail
      refine Hih.out.mono ?_
      rintro e w2 ⟨hg2, ⟨k3, s3, ks3, a4, c4, bk4, g4, tail, rfl, hcx, hcur2, hr1⟩ | ⟨k3, s3, rfl, hno⟩⟩
      · have hw2 := hg2.size
        have htl : tail.length ≤ 1048576 := by have := congrArg List.length hr1.2.2.1; rw [List.length_append] at this; omega
        have hgA := World.grownBy_alloc w2 (.cells #[.int .i64 k3, .string s3, .slice a4 ks3.len c4] 25) (some R)
        have hbxA := BxE.new w2 k3 s3 (.slice a4 ks3.len c4) 25
        have Hcx := Lib.hid (hcx.grown hgA (by omega))
        have Hr1 := Lib.hid hr1
        have Hcur2 := Lib.hid (hcur2.alloc (.cells #[.int .i64 k3, .string s3, .slice a4 ks3.len c4] 25))
        have Hg2 := Lib.hid (grown_then hg2 hgA)
        have HbxA := Lib.hid hbxA
        clear hcx hr1 hcur2 hgA hbxA hg2 Hih
        by_cases hb : cutB ⟨tail.toArray⟩ ⟨mk.toArray⟩ = true
        · have Hb := Lib.hid hb
          clear hb
          obtain ⟨t, ht, hx⟩ := cutS_eq Hb.out
          have Ht := Lib.hid ht
          have Hx := Lib.hid hx
          clear ht hx
          go_wp2_with fail
          refine (take_yes R _ ⟨tail.toArray⟩ ⟨mk.toArray⟩ _ Hcur2.out (by rw [bsz]; unfold maxLen; omega) (by rw [bsz]; unfold maxLen; omega) Hb.out).mono ?_
          rintro e w3 ⟨rfl, hM⟩
          rw [Hx.out] at hM
          have hw3 : w2.heap.size + 1 ≤ w3.heap.size := by have h9 := hM.2.2; rw [World.size_alloc] at h9; omega
          have hg3 := hM.2.1
          have Hcur3 := Lib.hid hM.1
          have Hcx3 := Lib.hid (Hcx.out.grown hg3 (by omega))
          have hbx3 := HbxA.out.grown hg3 (by intro e; injection e with e; omega)
          obtain ⟨y0, y1, y2, y3, y4, y5, y6⟩ := hbx3.facts
          have hgB := World.grownBy_alloc w3 (.cells #[.int .i64 k3, .string s3, .slice a4 ks3.len c4] 25) (some R)
          have HcxW := Lib.hid (Hcx3.out.grown hgB (by omega))
          have Hg3 := Lib.hid (grown_then (grown_then Hg2.out hg3) hgB)
          have hO2 := Hown.out.grown Hg3.out (fun g e => by injection e with e; omega)
          have Hown4 := Lib.hid hO2
          have Hbx4 := Lib.hid (heap_alloc_new w3 (.cells #[.int .i64 k3, .string s3, .slice a4 ks3.len c4] 25))
          have HO : Hid ((∀ g, u6.ownBlock = some g → g < wr.heap.size) ∧ ∀ x ∈ bk.blks, x < wr.heap.size) := Lib.hid ⟨fun g hg => (Hown.out.own.lt g hg).2, fun x hx => Hown.out.bound x hx⟩
          have HL := Lib.hid (fun g hg => (Hown.out.own.lt g hg).1 : ∀ g, u6.ownBlock = some g → w.heap.size ≤ g)
          clear hM hg3 hbx3 hgB hO2
          go_wp2_with (at_builtin; refine wpList_append_bk rfl _ _ rfl w.heap.size _ f bk rfl Hown4.out w3.heap.size 1 rfl k3 s3 ks3 a4 c4 wr.heap.size bk4 g4 Hbx4.out HcxW.out.1 HcxW.out.2.2.1 (by omega) HO.out.1 HO.out.2 HcxW.out.2.2.2.1 HcxW.out.2.2.2.2.1 HcxW.out.2.2.2.2.2.1 HcxW.out.2.2.2.2.2.2 (by omega) (by simp; omega) ?_; intro g6 cap6 w6 hown6 hgrow6 hlt6 hbg6)
          have hg6 : w.grownBy w6 (some R) := grown_own (grown_then Hgr.out Hg3.out) hgrow6 fun g e => HL.out g e
          have hcur6 : Cur w6 R ⟨t.toArray⟩ (20 - n + (f.snoc k3 s3 ks3).size) := by
            rw [Fo.snoc_size, show 20 - n + (f.size + ks3.size + 1) = 20 - (n - f.size) + (ks3.size + 1) from by omega]
            exact (Hcur3.out.alloc _).grown hgrow6 (fun e => by have := HL.out R e; omega)
          have hrd6 := readsS_snoc Hrd.out Hr1.out (m := mk) (t := t) (by rw [List.headD_eq_head?_getD, List.head?_drop, hfj, Hmk.out]; rfl) Ht.out
          rw [hfj] at hown6
          exact ⟨⟨j + 1, _, _, t, by omega, by go_num, by rw [Fo.snoc_len, hfj], hown6, hcur6, hrd6, hg6⟩, by simp [intOf]; omega⟩
        · have Hb := Lib.hid (Bool.eq_false_iff.2 hb)
          clear hb
          go_wp2_with fail
          refine (take_no R _ ⟨tail.toArray⟩ ⟨mk.toArray⟩ _ Hcur2.out (by rw [bsz]; unfold maxLen; omega) (by rw [bsz]; unfold maxLen; omega) Hb.out).mono ?_
          rintro e w3 ⟨rfl, hM⟩
          have Hg3 := Lib.hid (grown_then Hg2.out hM.2.1)
          clear hM
          go_wp2_with fail
          go_ret2
          exact ⟨grown_then Hgr.out Hg3.out, .inr ⟨rfl, noSeps_mark Hrd.out (by rw [hfj]; exact Hmk.out) Hr1.out (cutS_ne Hb.out)⟩⟩
      · have Hno := Lib.hid hno
        have Hg2 := Lib.hid hg2
        clear hno hg2 Hih
        go_wp2_with fail
        go_ret2
        exact ⟨grown_alloc (grown_then Hgr.out Hg2.out) _, .inr ⟨rfl, noSeps_expr Hrd.out (by rw [hfj]; exact hlt) Hno.out⟩⟩
    · have hjn : ¬ (j : Int) < (ms.length : Int) := by omega
      obtain ⟨av, dv, gv, rfl, hcv⟩ := Hown.out.form
      have Hcv := Lib.hid hcv
      clear hcv
      go_wp2_with fail
      go_ret2
      exact ⟨Hgr.out, .inl ⟨f, av, dv, bk, gv, cur, by rw [hfj]; rfl, Hcv.out, Hcur.out, Hrd.out.1, by omega, Hrd.out.2.1, Hrd.out.2.2⟩⟩
end Go.Proofs.Ytecekkmagldpoaa
