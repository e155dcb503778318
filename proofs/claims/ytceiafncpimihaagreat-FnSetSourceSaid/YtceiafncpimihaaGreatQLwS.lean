/-
  The reference's l3With.
-/
import Derived.Test.YtceiafncpimihaaGreatGone
import Derived.Test.YtceiafncpimihaaGreatQPutR
import Derived.Test.YtceiafncpimihaaGreatQRuS
import Derived.Deep.QuietTactic
import Derived.BigQuiet
namespace Go.Proofs.YtceiafncpimihaaGreat
set_option linter.unusedVariables false
set_option linter.unusedSimpArgs false
open Go.RowKit Go.Maps

theorem OwnK.drewN {w : World} {B base : Nat} {v : Value} {rs : List Ru} (h : OwnK w B base v rs) (m : Nat) : OwnK (w.drewN m) B base v rs := by
  obtain ⟨h0, h00, xs, h1, h2⟩ := h
  exact ⟨h0, h00, xs, h1, rowR_keep (w := w) (w' := w.drewN m) (Nat.le_refl _) (Nat.le_refl _) (fun g hg => .inl hg) (fun p _ _ _ => rfl) h2⟩
set_option maxRecDepth 100000 in
set_option maxHeartbeats 4000000 in
theorem l3With_any (a a0 : Option Addr) (n c c0 : Nat) (rs : List Ru) (t : ByteArray) (k : Int) (s : ByteArray) (ks : Fo) (w : World) (hr : RuAt w 0 w.heap.size rs a n) (hn : n ≤ 1048600) (hka : KA w 0 w.heap.size ks a0 ks.len) (hcc : ks.len ≤ c0) :
    Calls Tryz.prog 51 #[.slice a n c, .agg #[.string t, .int .i64 k, .string s, .slice a0 ks.len c0]] w fun e w' => ∃ v, e = .returned v ∧ OwnK w' w.heap.size w.heap.size v (insR (t, k, s, ks) rs) ∧ Below w.heap.size w w' := by
  have hlen := Lib.hid hr.1
  have hB0 := ((Below.refl w.heap.size w).alloc (Nat.le_refl _) (.cells #[.string t, .int .i64 k, .string s, .slice a0 ks.len c0] 45)).alloc (by simp) (.cells #[] 45)
  have hP0 := (BxR.new w t k s (.slice a0 ks.len c0) 45).alloc (.cells #[] 45)
  have hM0 : OwnK ((w.alloc (.cells #[.string t, .int .i64 k, .string s, .slice a0 ks.len c0] 45)).alloc (.cells #[] 45)) w.heap.size (w.heap.size + 1) (.slice (some ⟨w.heap.size + 1, 0, none⟩) 0 0) [] := by
    refine ⟨Nat.le_succ _, by simp, [], ?_, rfl⟩
    have := World.ownsRow_made (base := w.heap.size + 1) (e := 45) (size := 4) (w.alloc (.cells #[.string t, .int .i64 k, .string s, .slice a0 ks.len c0] 45)) #[] 0 (by simp) (by simp [maxLen]) rfl
    simpa using this
  have Hst := Lib.hid (And.intro hB0 (And.intro hP0 hM0))
  clear hB0 hP0 hM0
  go_enter Tryz.func51, Tryz.ntmps51
  go_wp2_with fail
  go_loopw [5, 6, 7] (fun v d i wr => ∃ j : Nat, j ≤ n ∧ i = .int .i64 j ∧ d = .bool (withTo (t, k, s, ks) (rs.take j)).2 ∧ OwnK wr w.heap.size (w.heap.size + 1) v (withTo (t, k, s, ks) (rs.take j)).1 ∧ BxR wr w.heap.size t k s (.slice a0 ks.len c0) 45 ∧ Below w.heap.size w wr) (fun _ _ i _ => n - (intOf i).toNat)
  case atStart => exact ⟨0, Nat.zero_le _, rfl, rfl, by simpa [withTo] using Hst.out.2.2, Hst.out.2.1, Hst.out.1⟩
  case round =>
    obtain ⟨j, hj, rfl, rfl, hown, hbx, hB⟩ := hrel
    have Hown := Lib.hid hown
    have Hbx := Lib.hid hbx
    have hwl := withTo_len (t, k, s, ks) (rs.take j)
    have hsw := hB.size
    have hbl := blk_lt hbx
    obtain ⟨q0, q1, q2, q3, qf0, qf1, qf2, qf3, hql⟩ := hbx.facts
    have Hka := Lib.hid (hka.keep (w' := wr) (Nat.le_refl _) (Nat.le_refl _) fun p _ hp => hB.cell hp)
    clear hown hbx
    by_cases hlt : j < n
    · obtain ⟨b, off, t3, k3, s3, ks3, a3, n3, c3, rfl, _, hb3, hg3, hc0, hc1, hc2, hc3, hcap3, hk3⟩ := (hr.below hB).get hlt
      have hjj : (j : Int) < (n : Int) := by omega
      have hj0 : (0 : Int) ≤ (j : Int) := by omega
      have hst := Lib.hid (withTo_succ (r := (t, k, s, ks)) hg3)
      have hln : (rs.take j).length ≤ j := List.length_take_le _ _
      obtain rfl := hk3.1
      have Hk3 := Lib.hid hk3
      clear hg3 hk3
      generalize withTo (t, k, s, ks) (rs.take j) = z at *
      obtain ⟨l, dn⟩ := z
      simp only at hwl Hown
      cases dn with
      | true =>
        have Hw := Lib.hid (show wst (t, k, s, ks) (l, true) (t3, k3, s3, ks3) = (l ++ [(t3, k3, s3, ks3)], true) by simp [wst])
        go_wp2_with fail
        go_quiet (fail)
        have Hown1 := Lib.hid ((Hown.out.drewN nq).below ((Below.refl _ _).alloc (Nat.le_refl _) (.cells #[.string t3, .int .i64 k3, .string s3, .slice a3 ks3.len c3] 45)))
        have Hk4 := Lib.hid (show KA (wr.drewN nq) 0 w.heap.size ks3 a3 ks3.len from Hk3.out.keep (Nat.le_refl _) (Nat.le_refl _) fun _ _ _ => rfl)
        go_wp2_with (at_builtin; refine wpList_append_rk rfl _ _ rfl w.heap.size (w.heap.size + 1) _ l rfl Hown1.out wr.heap.size 1 rfl t3 k3 s3 ks3 a3 c3 (heap_alloc_new (wr.drewN nq) _) hcap3 (Hk4.out.alloc (by show _ ≤ wr.heap.size; omega) _) (by omega) ?_; intro g6 cap6 w6 hown6 hgrow6 hlt6 hbg6)
        have hlo := Hown1.out.lt
        have hbx6 := bxR_grown ((show BxR (wr.drewN nq) w.heap.size t k s (.slice a0 ks.len c0) 45 from Hbx.out).alloc (.cells #[.string t3, .int .i64 k3, .string s3, .slice a3 ks3.len c3] 45)) hgrow6 (fun x e => by have := (hlo x e).1; omega)
        have hB6 : Below w.heap.size w w6 := ((below_drewN hB nq).alloc hsw _).grown hgrow6 (by simp; omega) (fun g' e => by have := (hlo _ e).1; omega)
        exact ⟨⟨j + 1, by omega, by go_num, by rw [hst.out, Hw.out], by rw [hst.out, Hw.out]; exact hown6, hbx6, hB6⟩, by simp [intOf]; omega⟩
      | false =>
        cases hl : sLess t t3 with
        | true =>
          have Hl := Lib.hid hl
          have he1 : Op.bytesLess t3.toList t.toList = false := sLess_asymm hl
          have he2 : (t3.toList == t.toList) = false := by rw [sEq]; simpa using fun e : t3 = t => sLess_ne hl e.symm
          clear hl
          have Hw := Lib.hid (show wst (t, k, s, ks) (l, false) (t3, k3, s3, ks3) = (l ++ [(t, k, s, ks)] ++ [(t3, k3, s3, ks3)], true) by simp [wst, Hl.out])
          go_wp2_with fail
          go_quiet (fail)
          have Hown1 := Lib.hid ((Hown.out.drewN nq).below ((Below.refl _ _).alloc (Nat.le_refl _) (.cells #[.string t, .int .i64 k, .string s, .slice a0 ks.len c0] 45)))
          have Hk4 := Lib.hid (show KA (wr.drewN nq) 0 w.heap.size ks a0 ks.len from Hka.out.keep (Nat.le_refl _) (Nat.le_refl _) fun _ _ _ => rfl)
          go_upto_region 8 with (at_builtin; refine wpList_append_rk rfl _ _ rfl w.heap.size (w.heap.size + 1) _ l rfl Hown1.out wr.heap.size 1 rfl t k s ks a0 c0 (heap_alloc_new (wr.drewN nq) _) hcc (Hk4.out.alloc (by show _ ≤ wr.heap.size; omega) _) (by omega) ?_; intro g5 cap5 w5 hown5 hgrow5 hlt5 hbg5)
          have hlo5 := Hown1.out.lt
          have hbx5 := bxR_grown ((show BxR (wr.drewN nq) w.heap.size t k s (.slice a0 ks.len c0) 45 from Hbx.out).alloc (.cells #[.string t, .int .i64 k, .string s, .slice a0 ks.len c0] 45)) hgrow5 (fun x e => by have := (hlo5 x e).1; omega)
          have hB5 : Below w.heap.size w w5 := ((below_drewN hB nq).alloc hsw _).grown hgrow5 (by simp; omega) (fun g' e => by have := (hlo5 _ e).1; omega)
          have hs5 := hgrow5.size
          have hwb : b < wr.heap.size := by omega
          have hk5 : ∀ i, w5.cell? ⟨b, i, none⟩ = wr.cell? ⟨b, i, none⟩ := fun i => (World.cell?_of_block (hgrow5.block b (by simp; omega) (fun e => by have := (hlo5 b e.symm).1; omega))).trans (World.cell?_alloc_lt (wr.drewN nq) _ ⟨b, i, none⟩ (by show b < wr.heap.size; omega))
          have hd0 := (hk5 (off + j * 4)).trans hc0
          have hd1 := (hk5 (off + j * 4 + 1)).trans hc1
          have hd2 := (hk5 (off + j * 4 + 2)).trans hc2
          have hd3 := (hk5 (off + j * 4 + 3)).trans hc3
          have Hown5 := Lib.hid (hown5.below ((Below.refl _ _).alloc (Nat.le_refl _) (.cells #[.string t3, .int .i64 k3, .string s3, .slice a3 ks3.len c3] 45)))
          have Hk5 := Lib.hid (show KA w5 0 w.heap.size ks3 a3 ks3.len from Hk3.out.keep (Nat.le_refl _) (Nat.le_refl _) fun p _ hp => (hB5.cell hp).trans (hB.cell hp).symm)
          simp only [World.size_alloc] at hs5
          have hs5' : wr.heap.size + 1 ≤ w5.heap.size := hs5
          clear hk5 hc0 hc1 hc2 hc3 hown5 q0 q1 q2 q3 qf0 qf1 qf2 qf3 hql hs5
          go_wp2_with (at_builtin; refine wpList_append_rk rfl _ _ rfl w.heap.size (w.heap.size + 1) _ (l ++ [(t, k, s, ks)]) rfl Hown5.out w5.heap.size 1 rfl t3 k3 s3 ks3 a3 c3 (heap_alloc_new w5 _) hcap3 (Hk5.out.alloc (by omega) _) (by simp; omega) ?_; intro g6 cap6 w6 hown6 hgrow6 hlt6 hbg6)
          have hlo := Hown5.out.lt
          have hbx6 := bxR_grown (hbx5.alloc (.cells #[.string t3, .int .i64 k3, .string s3, .slice a3 ks3.len c3] 45)) hgrow6 (fun x e => by have := (hlo x e).1; omega)
          have hB6 : Below w.heap.size w w6 := (hB5.alloc (by omega) _).grown hgrow6 (by simp; omega) (fun g' e => by have := (hlo _ e).1; omega)
          exact ⟨⟨j + 1, by omega, by go_num, by rw [hst.out, Hw.out], by rw [hst.out, Hw.out]; simpa using hown6, hbx6, hB6⟩, by simp [intOf]; omega⟩
        | false =>
          have Hl := Lib.hid hl
          obtain ⟨x, hx⟩ : ∃ x, Op.bytesLess t3.toList t.toList = x := ⟨_, rfl⟩
          obtain ⟨y, hy⟩ : ∃ y, (t3.toList == t.toList) = y := ⟨_, rfl⟩
          have hxy : (x || y) = true := by
            by_cases e : t3 = t
            · rw [← hy, sEq, e]; simp
            · rw [← hx, show Op.bytesLess t3.toList t.toList = true from sLess_total hl (fun e' => e e'.symm)]; rfl
          clear hl
          have Hwl := Lib.hid hwl
          cases x <;> cases y
          case false.false => cases hxy
          all_goals
            clear hxy
            have Hw := Lib.hid (show wst (t, k, s, ks) (l, false) (t3, k3, s3, ks3) = (l ++ [(t3, k3, s3, ks3)], false) by simp [wst, Hl.out])
            go_wp2_with fail
            go_quiet (fail)
            have Hown1 := Lib.hid ((Hown.out.drewN nq).below ((Below.refl _ _).alloc (Nat.le_refl _) (.cells #[.string t3, .int .i64 k3, .string s3, .slice a3 ks3.len c3] 45)))
            have Hk4 := Lib.hid (show KA (wr.drewN nq) 0 w.heap.size ks3 a3 ks3.len from Hk3.out.keep (Nat.le_refl _) (Nat.le_refl _) fun _ _ _ => rfl)
            go_wp2_with (at_builtin; refine wpList_append_rk rfl _ _ rfl w.heap.size (w.heap.size + 1) _ l rfl Hown1.out wr.heap.size 1 rfl t3 k3 s3 ks3 a3 c3 (heap_alloc_new (wr.drewN nq) _) hcap3 (Hk4.out.alloc (by show _ ≤ wr.heap.size; omega) _) (by omega) ?_; intro g6 cap6 w6 hown6 hgrow6 hlt6 hbg6)
            have hlo := Hown1.out.lt
            have hbx6 := bxR_grown ((show BxR (wr.drewN nq) w.heap.size t k s (.slice a0 ks.len c0) 45 from Hbx.out).alloc (.cells #[.string t3, .int .i64 k3, .string s3, .slice a3 ks3.len c3] 45)) hgrow6 (fun x e => by have := (hlo x e).1; omega)
            have hB6 : Below w.heap.size w w6 := ((below_drewN hB nq).alloc hsw _).grown hgrow6 (by simp; omega) (fun g' e => by have := (hlo _ e).1; omega)
            exact ⟨⟨j + 1, by omega, by go_num, by rw [hst.out, Hw.out], by rw [hst.out, Hw.out]; exact hown6, hbx6, hB6⟩, by simp [intOf]; omega⟩
    · have hall : rs.take j = rs := List.take_of_length_le (by have := hlen.out; omega)
      have hjj : ¬ (j : Int) < (n : Int) := by omega
      have hrl := hlen.out
      rw [hall] at hwl Hown
      have hins := withTo_ins (t, k, s, ks) rs
      clear hall hlen
      have hrs : rs.take j = rs := List.take_of_length_le (by omega)
      rw [hrs]
      clear hrs
      generalize withTo (t, k, s, ks) rs = z at *
      obtain ⟨l, dn⟩ := z
      simp only at hwl Hown hins
      have Hins := Lib.hid hins
      clear hins
      cases dn with
      | true =>
        go_wp2_with fail
        go_ret
        have h := Hins.out
        simp only [if_true] at h
        exact ⟨_, rfl, h ▸ Hown.out.mono (Nat.le_refl _) (Nat.le_succ _), hB⟩
      | false =>
        have Hown1 := Lib.hid (Hown.out.below ((Below.refl _ _).alloc (Nat.le_refl _) (.cells #[.string t, .int .i64 k, .string s, .slice a0 ks.len c0] 45)))
        have hrl2 : rs.length ≤ 1048600 := by omega
        go_wp2_with (at_builtin; refine wpList_append_rk rfl _ _ rfl w.heap.size (w.heap.size + 1) _ l rfl Hown1.out wr.heap.size 1 rfl t k s ks a0 c0 (heap_alloc_new wr _) hcc (Hka.out.alloc (by omega) _) (by omega) ?_; intro g6 cap6 w6 hown6 hgrow6 hlt6 hbg6)
        have hlo := Hown1.out.lt
        have hB6 : Below w.heap.size w w6 := (hB.alloc hsw _).grown hgrow6 (by simp; omega) (fun g' e => by have := (hlo _ e).1; omega)
        go_ret
        have h := Hins.out
        simp only [if_false, Bool.false_eq_true] at h
        exact ⟨_, rfl, h ▸ hown6.mono (Nat.le_refl _) (Nat.le_succ _), hB6⟩
end Go.Proofs.YtceiafncpimihaaGreat
