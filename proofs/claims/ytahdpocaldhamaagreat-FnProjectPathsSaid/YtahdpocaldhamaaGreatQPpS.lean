/-
  The reference's ProjectPaths.
-/
import Derived.Test.YtahdpocaldhamaaGreatQPpM
import Derived.Test.YtahdpocaldhamaaGreatQOwnS
import Derived.Test.YtahdpocaldhamaaGreatQPrV
import Derived.Test.YtahdpocaldhamaaGreatGone
import Derived.Deep.QuietTactic
import Derived.BigQuiet
namespace Go.Proofs.YtahdpocaldhamaaGreat
set_option linter.unusedVariables false
set_option linter.unusedSimpArgs false
open Go.RowKit

theorem cell_one_new (w : World) (v : Value) (T : TypeId) : ∀ (j : Nat) (u : Value), [v][j]? = some u → (w.alloc (.cells #[v] T)).cell? ((⟨w.heap.size, 0, none⟩ : Addr).add j) = some u := by
  intro j u hu
  rw [add_none, cell_of_row _ _ _ _ _ _ (heap_alloc_new w _)]
  simpa using hu
/-- between two rounds of ProjectPaths: what is out and what is left make up the merged list -/
def PsI (w1 : World) (base : Nat) (P T : List ByteArray) (v i k : Value) (wr : World) : Prop := ∃ (x y : Nat) (ss : List ByteArray), x ≤ P.length ∧ y ≤ T.length ∧ i = .int .i64 x ∧ k = .int .i64 y ∧ ss ++ mg (P.drop x) (T.drop y) = mg P T ∧ ss.length = x + y ∧ OwnsS wr base v ss ∧ Below base w1 wr

set_option maxRecDepth 100000 in
set_option maxHeartbeats 600000 in
theorem pathsS_z (hR : RulesC) (a1 a2 : Option Addr) (n1 n2 c1 c2 : Nat) (fs : List Fl) (rs : List Ru) (w : World) (hf : FilesAt w w.heap.size a1 n1 fs) (hr : RuAt w 0 w.heap.size rs a2 n2) (hs : Fits fs) (hrf : RuFits rs) (hn1 : n1 ≤ maxLen) (hn2 : n2 ≤ maxLen) (hz : RuZ rs) :
    Calls Tryz.prog 13 #[.agg #[.slice a1 n1 c1, .slice a2 n2 c2]] w fun e w' => ∃ v, e = .returned v ∧ OwnsS w' w.heap.size v (pathsP fs rs) ∧ Below w.heap.size w w' := by
  obtain ⟨i0, hi, hz0, hz1, hz2⟩ := info_parts infoStr
  have hB0 := (Below.refl w.heap.size w).alloc (Nat.le_refl _) (.cells #[.slice a1 n1 c1, .slice a2 n2 c2] 26)
  have hP0 := BxP.new w (.slice a1 n1 c1) (.slice a2 n2 c2) 26
  go_enter Tryz.func13, Tryz.ntmps13
  go_wp2_with fail
  have hM0 := strs_made (w.alloc (.cells #[.slice a1 n1 c1, .slice a2 n2 c2] 26))
  have hB1 := hB0.alloc hB0.size (.cells #[] 9)
  have hP1 := hP0.alloc (.cells #[] 9)
  simp only [World.size_alloc] at hM0
  refine (projS_z hR a1 a2 n1 n2 c1 c2 fs rs _ ((hf.below hB1).more hB1.size) (hr.next hB1) hs hrf hn1 hn2 hz).mono ?_
  rintro e w1 ⟨rfl, hB2⟩
  have B2 := hB1.trans (hB2.mono hB1.size)
  have hown := strs_below hM0 hB2
  have hP2 := hP1.next hB2
  have hs1 := hB2.size
  simp only [World.size_alloc] at hs1
  obtain ⟨p0, p1, pf0, pf1, hpl⟩ := hP2.facts
  rcases Bool.eq_false_or_eq_true (projB fs rs) with hv | hv
  case inr =>
    rw [hv]
    go_wp2_with fail
    go_ret
    exact ⟨_, rfl, by rw [show pathsP fs rs = [] from by unfold pathsP; rw [hv]; rfl]; exact World.ownsRow.mono hown (Nat.le_succ _), B2⟩
  rw [hv]
  obtain ⟨hfl, hrl, _, _⟩ := proj_sizes hv
  have hfn := hf.1
  have hrn := hr.1
  have hPl : (fs.map (·.1)).length = n1 := by rw [List.length_map]; exact hfn
  have hTl : (rs.map (·.1)).length = n2 := by rw [List.length_map]; exact hrn
  have Hown := Lib.hid hown
  have Hv := Lib.hid hv
  clear hown hM0 hP0 hP1 hv
  go_wp2_with fail
  go_loopw [3, 4, 5] (fun v i k wr => PsI w1 (w.heap.size + 1) (fs.map (·.1)) (rs.map (·.1)) v i k wr) (fun _ i k _ => (n1 + n2) - ((intOf i).toNat + (intOf k).toNat))
  case atStart => exact ⟨0, 0, [], Nat.zero_le _, Nat.zero_le _, rfl, rfl, by simp, rfl, Hown.out, Below.refl _ _⟩
  case round =>
    obtain ⟨x, y, ss, hx, hy, rfl, rfl, hmg, hlen, hown, hB⟩ := hrel
    rw [hPl] at hx
    rw [hTl] at hy
    have hsr := hB.size
    have hP3 : BxP wr w.heap.size (.slice a1 n1 c1) (.slice a2 n2 c2) 26 := (hB.block w.heap.size (Nat.lt_succ_self _)).trans hP2
    obtain ⟨q0, q1, qf0, qf1, hql⟩ := hP3.facts
    have Hown := Lib.hid hown
    have Hmg := Lib.hid hmg
    have Bw := B2.trans (hB.mono (Nat.le_succ _))
    clear hown hmg p0 p1 pf0 pf1 hpl
    by_cases hyn : y = n2
    · by_cases hxn : x < n1
      · obtain ⟨b, off, p, t, rfl, hb, hg, hc1, hc2⟩ := (hf.below Bw).get hxn
        have hx0 : (0 : Int) ≤ (x : Int) := by omega
        have hx1 : (x : Int) < (n1 : Int) := by omega
        have hy1 : ¬ (y : Int) < (n2 : Int) := by omega
        have hy2 : (y : Int) = (n2 : Int) := by omega
        have Hst := Lib.hid (mg_left (P := fs.map (·.1)) (T := rs.map (·.1)) (i := x) (k := y) (x := p) (by rw [List.getElem?_map, hg]; rfl) (.inl (by omega)))
        clear hg
        go_wp2_with fail
        go_quiet (fail)
        have HownN := Lib.hid (strs_below Hown.out (below_drewN (Below.refl _ wr) nq))
        have hBN := below_drewN hB nq
        have BwN := below_drewN Bw nq
        have hsN : w.heap.size + 1 ≤ (wr.drewN nq).heap.size := by have := hBN.size; omega
        have hPN : BxP (wr.drewN nq) w.heap.size _ _ 26 := hP3
        have hcN : (wr.drewN nq).cell? ⟨b, off + x * 2, none⟩ = some (.string p) := hc1
        clear Hown hB Bw hsr hP3 q0 q1 qf0 qf1 hql hc1 hc2
        generalize wr.drewN nq = wr at HownN hBN BwN hsN hPN hcN ⊢
        obtain ⟨q0, q1, qf0, qf1, hql⟩ := hPN.facts
        go_wp2_with (at_builtin; refine wpList_append_own _ rfl _ _ 33 rfl (w.heap.size + 1) 9 i0 _ 1 16 underStrs hi hz0 hz1 hz2 rfl (by decide) _ _ _ rfl (World.ownsRow.alloc HownN.out _) ⟨wr.heap.size, 0, none⟩ 1 1 [.string p] rfl rfl (cell_one_new _ _ _) (by simp [Value.oneCell']) (by simp only [maxLen]; omega) (by omega) (by simp; omega) ?_; intro v2 w2 hown2 hgrow _)
        have hB3 := (hBN.alloc hsN _).grown hgrow (by simp; omega) (strs_at HownN.out)
        exact ⟨⟨x + 1, y, ss ++ [p], by omega, by omega, by go_num, by go_num, by rw [← Hmg.out, Hst.out]; simp, by simp; omega, OwnsS.grew hown2, hB3⟩, by simp [intOf]; omega⟩
      · have hx1 : ¬ (x : Int) < (n1 : Int) := by omega
        have hy1 : ¬ (y : Int) < (n2 : Int) := by omega
        have hall := Hmg.out
        rw [List.drop_eq_nil_of_le (by omega), List.drop_eq_nil_of_le (by omega), mg_nil, List.append_nil] at hall
        have Hres := Lib.hid (show pathsP fs rs = ss from by unfold pathsP; rw [if_pos Hv.out, ← hall])
        clear hall
        go_wp2_with fail
        go_ret
        exact ⟨_, rfl, by rw [Hres.out]; exact World.ownsRow.mono Hown.out (Nat.le_succ _), Bw⟩
    · have hyl : y < n2 := by omega
      obtain ⟨b', off', t', k', s', ks', a', n', c', rfl, _, hb', hg', hd0, _, _, _, _, _⟩ := (hr.below Bw).get hyl
      have hy0 : (0 : Int) ≤ (y : Int) := by omega
      have hy1 : (y : Int) < (n2 : Int) := by omega
      have hy2 : ¬ (y : Int) = (n2 : Int) := by omega
      have hbe : ((y : Int) == (n2 : Int)) = false := by simp; omega
      by_cases hxn : x < n1
      · obtain ⟨b, off, p, t, rfl, hb, hg, hc1, hc2⟩ := (hf.below Bw).get hxn
        have hx0 : (0 : Int) ≤ (x : Int) := by omega
        have hx1 : (x : Int) < (n1 : Int) := by omega
        cases hlt : sLess p t' with
        | true =>
          have hk1 : Op.bytesLess p.toList t'.toList = true := hlt
          have Hst := Lib.hid (mg_left (P := fs.map (·.1)) (T := rs.map (·.1)) (i := x) (k := y) (x := p) (by rw [List.getElem?_map, hg]; rfl) (.inr ⟨t', (by rw [List.getElem?_map, hg']; rfl), hlt⟩))
          clear hg hg' hlt
          go_wp2_with fail
          go_quiet (fail)
          have HownN := Lib.hid (strs_below Hown.out (below_drewN (Below.refl _ wr) nq))
          have hBN := below_drewN hB nq
          have BwN := below_drewN Bw nq
          have hsN : w.heap.size + 1 ≤ (wr.drewN nq).heap.size := by have := hBN.size; omega
          have hPN : BxP (wr.drewN nq) w.heap.size _ _ 26 := hP3
          have hcN : (wr.drewN nq).cell? ⟨b, off + x * 2, none⟩ = some (.string p) := hc1
          clear hd0 Hown hB Bw hsr hP3 q0 q1 qf0 qf1 hql hc1 hc2
          generalize wr.drewN nq = wr at HownN hBN BwN hsN hPN hcN ⊢
          obtain ⟨q0, q1, qf0, qf1, hql⟩ := hPN.facts
          go_wp2_with (at_builtin; refine wpList_append_own _ rfl _ _ 33 rfl (w.heap.size + 1) 9 i0 _ 1 16 underStrs hi hz0 hz1 hz2 rfl (by decide) _ _ _ rfl (World.ownsRow.alloc HownN.out _) ⟨wr.heap.size, 0, none⟩ 1 1 [.string p] rfl rfl (cell_one_new _ _ _) (by simp [Value.oneCell']) (by simp only [maxLen]; omega) (by omega) (by simp; omega) ?_; intro v2 w2 hown2 hgrow _)
          have hB3 := (hBN.alloc hsN _).grown hgrow (by simp; omega) (strs_at HownN.out)
          exact ⟨⟨x + 1, y, ss ++ [p], by omega, by omega, by go_num, by go_num, by rw [← Hmg.out, Hst.out]; simp, by simp; omega, OwnsS.grew hown2, hB3⟩, by simp [intOf]; omega⟩
        | false =>
          have hk1 : Op.bytesLess p.toList t'.toList = false := hlt
          have Hst := Lib.hid (mg_right (P := fs.map (·.1)) (T := rs.map (·.1)) (i := x) (k := y) (y := t') (by rw [List.getElem?_map, hg']; rfl) (.inr ⟨p, (by rw [List.getElem?_map, hg]; rfl), hlt⟩))
          clear hg hg' hlt
          go_wp2_with fail
          go_quiet (fail)
          have HownN := Lib.hid (strs_below Hown.out (below_drewN (Below.refl _ wr) nq))
          have hBN := below_drewN hB nq
          have BwN := below_drewN Bw nq
          have hsN : w.heap.size + 1 ≤ (wr.drewN nq).heap.size := by have := hBN.size; omega
          have hPN : BxP (wr.drewN nq) w.heap.size _ _ 26 := hP3
          have hcN : (wr.drewN nq).cell? ⟨b', off' + y * 4, none⟩ = some (.string t') := hd0
          clear hc1 hc2 Hown hB Bw hsr hP3 q0 q1 qf0 qf1 hql hd0
          generalize wr.drewN nq = wr at HownN hBN BwN hsN hPN hcN ⊢
          obtain ⟨q0, q1, qf0, qf1, hql⟩ := hPN.facts
          go_wp2_with (at_builtin; refine wpList_append_own _ rfl _ _ 33 rfl (w.heap.size + 1) 9 i0 _ 1 16 underStrs hi hz0 hz1 hz2 rfl (by decide) _ _ _ rfl (World.ownsRow.alloc HownN.out _) ⟨wr.heap.size, 0, none⟩ 1 1 [.string t'] rfl rfl (cell_one_new _ _ _) (by simp [Value.oneCell']) (by simp only [maxLen]; omega) (by omega) (by simp; omega) ?_; intro v2 w2 hown2 hgrow _)
          have hB3 := (hBN.alloc hsN _).grown hgrow (by simp; omega) (strs_at HownN.out)
          exact ⟨⟨x, y + 1, ss ++ [t'], by omega, by omega, by go_num, by go_num, by rw [← Hmg.out, Hst.out]; simp, by simp; omega, OwnsS.grew hown2, hB3⟩, by simp [intOf]; omega⟩
      · have hx1 : decide ((x : Int) < (n1 : Int)) = false := by simp; omega
        have hy3 : decide ((y : Int) = (n2 : Int)) = false := by simpa using hy2
        have Hst := Lib.hid (mg_right (P := fs.map (·.1)) (T := rs.map (·.1)) (i := x) (k := y) (y := t') (by rw [List.getElem?_map, hg']; rfl) (.inl (by omega)))
        clear hg'
        go_wp2_with fail
        go_quiet (fail)
        have HownN := Lib.hid (strs_below Hown.out (below_drewN (Below.refl _ wr) nq))
        have hBN := below_drewN hB nq
        have BwN := below_drewN Bw nq
        have hsN : w.heap.size + 1 ≤ (wr.drewN nq).heap.size := by have := hBN.size; omega
        have hPN : BxP (wr.drewN nq) w.heap.size _ _ 26 := hP3
        have hcN : (wr.drewN nq).cell? ⟨b', off' + y * 4, none⟩ = some (.string t') := hd0
        clear Hown hB Bw hsr hP3 q0 q1 qf0 qf1 hql hd0
        generalize wr.drewN nq = wr at HownN hBN BwN hsN hPN hcN ⊢
        obtain ⟨q0, q1, qf0, qf1, hql⟩ := hPN.facts
        go_wp2_with (at_builtin; refine wpList_append_own _ rfl _ _ 33 rfl (w.heap.size + 1) 9 i0 _ 1 16 underStrs hi hz0 hz1 hz2 rfl (by decide) _ _ _ rfl (World.ownsRow.alloc HownN.out _) ⟨wr.heap.size, 0, none⟩ 1 1 [.string t'] rfl rfl (cell_one_new _ _ _) (by simp [Value.oneCell']) (by simp only [maxLen]; omega) (by omega) (by simp; omega) ?_; intro v2 w2 hown2 hgrow _)
        have hB3 := (hBN.alloc hsN _).grown hgrow (by simp; omega) (strs_at HownN.out)
        exact ⟨⟨x, y + 1, ss ++ [t'], by omega, by omega, by go_num, by go_num, by rw [← Hmg.out, Hst.out]; simp, by simp; omega, OwnsS.grew hown2, hB3⟩, by simp [intOf]; omega⟩
theorem pathsS_of (hR : RulesC) (a1 a2 : Option Addr) (n1 n2 c1 c2 : Nat) (fs : List Fl) (rs : List Ru) (w : World) (hf : FilesAt w w.heap.size a1 n1 fs) (hr : RuAt w 0 w.heap.size rs a2 n2) (hs : Fits fs) (hrf : RuFits rs) (hn1 : n1 ≤ maxLen) (hn2 : n2 ≤ maxLen) (hz : rs.length + ruTot rs ≤ 1048576) :
    Calls Tryz.prog 13 #[.agg #[.slice a1 n1 c1, .slice a2 n2 c2]] w fun e w' => ∃ v, e = .returned v ∧ OwnsS w' w.heap.size v (pathsP fs rs) ∧ Below w.heap.size w w' :=
  pathsS_z hR a1 a2 n1 n2 c1 c2 fs rs w hf hr hs hrf hn1 hn2 (ruZ_of (by omega))
end Go.Proofs.YtahdpocaldhamaaGreat
