/-
  The edits of a project at hand: what the program and the reference answer, as projects at hand.
-/
import Derived.Test.YtceiafncpimihaaGreatQPjA
import Derived.Test.YtceiafncpimihaaGreatQPjL2
import Derived.Test.YtceiafncpimihaaGreatQEdZ
import Derived.Test.YtceiafncpimihaaGreatQFrI
import Derived.Test.YtceiafncpimihaaGreatQPjI
import Derived.Test.YtceiafncpimihaaGreatQPrS
namespace Go.Proofs.YtceiafncpimihaaGreat
set_option linter.unusedVariables false
set_option linter.unusedSimpArgs false
open Go.RowKit

/-- an edit's answer -/
def PjR (r : List Fl × List Ru × Bool) (w : World) (e : Ending) (w' : World) : Prop := ∃ a1 c1 a2 c2, e = .returned (.tuple #[.agg #[.slice a1 r.1.length c1, .slice a2 r.2.1.length c2], .bool r.2.2]) ∧ PjA w' r.1 r.2.1 a1 a2 ∧ r.2.1.length ≤ c2 ∧ (a1 = none → r.1.length = 0 ∧ c1 = 0) ∧ Below w.heap.size w w'
theorem ruP_of_Q {w : World} {base c g : Nat} {rs : List Ru} {a : Option Addr} {bs : List (Nat × Fo)} (h : CopQ w base rs a c bs g) : RuP w rs a rs.length := by
  obtain ⟨h1, h2, _⟩ := h
  refine ⟨rfl, fun hn => ?_⟩
  obtain ⟨b, off, ha, _, hb, hg⟩ := h1.2 hn
  obtain ⟨ha2, hr, hs⟩ := h2.2 hn
  rw [ha] at ha2
  injection ha2 with e
  injection e with e1 e2
  subst e1 e2
  refine ⟨b, 0, ha, hb, fun j t k s ks hj => ?_⟩
  obtain ⟨c0, c1, c2, a', n', c', c3, hl, hk⟩ := hg j t k s ks hj
  have hjl : j < rs.length := (List.getElem?_eq_some_iff.1 hj).1
  obtain ⟨a2, c4, hx, hy⟩ := hs j _ (List.getElem?_eq_getElem (by have := h2.1; omega))
  rw [Nat.zero_add] at c3
  rw [c3] at hx
  injection hx with hx
  injection hx with e1 e2 e3
  subst e1
  rw [e2] at hk
  exact ⟨c0, c1, c2, a', n', c', by rw [Nat.zero_add]; exact c3, hl, by rw [e2]; exact (hk.pl hy).rd⟩
theorem ruP_of_R {w : World} {base c : Nat} {rs : List Ru} {a : Option Addr} (h : OwnR w base (.slice a rs.length c) rs) : RuP w rs a rs.length ∧ rs.length ≤ c := by
  obtain ⟨xs, h1, h2⟩ := h
  rcases h1.2 with ⟨e, h0⟩ | ⟨g, cap, cur, e, hb, hg, hc, hm, hcs, _⟩
  · injection e with _ e2 e3
    exact ⟨⟨rfl, fun hn => absurd hn (by omega)⟩, by omega⟩
  · injection e with e1 _ e3
    subst e1 e3
    have hcell : ∀ j u, xs[j]? = some u → w.cell? ⟨g, j, none⟩ = some u := fun j u hu => by
      have := World.ownsRow.cells h1 (g := g) rfl j u hu
      rwa [add_none, Nat.zero_add] at this
    refine ⟨⟨rfl, fun hn => ⟨g, 0, rfl, blk_lt hg, fun j t k s ks hj => ?_⟩⟩, hc⟩
    obtain ⟨a', c', e0, e1, e2, e3, hl, hk⟩ := rowP_get h2 hj
    rw [Nat.zero_add]
    exact ⟨hcell _ _ e0, hcell _ _ e1, hcell _ _ e2, a', _, c', hcell _ _ e3, hl, hk.rd⟩
theorem pjR_P {r : List Fl × List Ru × Bool} {w w' : World} {e : Ending} (h : EdR r w e w') : PjR r w e w' := by
  obtain ⟨a1, c1, a, c, bs, g, rfl, h1, h2, h3, hB⟩ := h
  obtain ⟨a1', c1', e, hf, hn⟩ := ownsF_none h1
  injection e with e1 _ e3
  subst e1 e3
  exact ⟨a1, c1, a, c, rfl, ⟨hf, h3.1.more (Nat.zero_le _) (Nat.le_refl _), ruP_of_Q h3⟩, h3.2.2.2.2.2, hn, hB⟩
theorem pjR_S {r : List Fl × List Ru × Bool} {w w' : World} {e : Ending} (h : EdS r w e w') : PjR r w e w' := by
  obtain ⟨a1, c1, a, c, rfl, h1, h3, hB⟩ := h
  obtain ⟨a1', c1', e, hf, hn⟩ := ownsF_none h1
  injection e with e1 _ e3
  subst e1 e3
  obtain ⟨a', c', e, _, _, hr⟩ := h3.form
  injection e with e1 _ e3
  subst e1 e3
  obtain ⟨hp, hc⟩ := ruP_of_R h3
  exact ⟨a1, c1, a, c, rfl, ⟨hf, hr.more (Nat.zero_le _) (Nat.le_refl _), hp⟩, hc, hn, hB⟩
theorem PjZ.six {fs : List Fl} {rs : List Ru} (h : PjZ fs rs) : RuZ6 rs := ⟨by have := h.n2; omega, h.z.2⟩
theorem PjZ.l1 {fs : List Fl} {rs : List Ru} (h : PjZ fs rs) : fs.length ≤ 1048576 := by have := h.n1; omega
theorem rulesC : RulesC := fun rs a n c w hr hrf hz hn => rulesS_any rs a n c w hr hrf hz hn
theorem node_text {k : Int} {s : ByteArray} {n : Nat} (h : nodeB k s n = true) : s.size ≤ 60 := by
  unfold nodeB plainB at h
  simp only [Bool.and_eq_true, textB_iff] at h
  exact h.1.2.2.1
theorem good_fits : ∀ {f : Fo}, good f = true → f.size ≤ 100000 → f.Fits
  | .nil, _, _ => trivial
  | .node k s ks r, h, hz => by
    simp only [good, Bool.and_eq_true] at h
    have h1 := node_text h.1.1
    have h2 := Fo.len_size ks
    simp only [Fo.size] at hz
    exact ⟨by unfold maxLen; omega, by unfold maxLen; omega, good_fits h.1.2 (by omega), good_fits h.2 (by omega)⟩
/-- a valid project is small -/
theorem pjZ_valid {fs : List Fl} {rs : List Ru} (h : projB fs rs = true) : PjZ fs rs := by
  obtain ⟨h1, h2, h3, h4⟩ := proj_sizes h
  have hok := proj_ok h
  have hr : ∀ r ∈ rs, r.1.size ≤ 8 ∧ r.2.2.1.size ≤ 60 ∧ r.2.2.2.size ≤ 1000 ∧ r.2.2.2.Fits ∧ r.2.2.2.len ≤ 1000 := fun r hr => by
    obtain ⟨_, ha, hb⟩ := h4 r hr
    have hl := Fo.size_len r.2.2.2
    obtain ⟨g1, g2, g3⟩ := valid_good hb
    exact ⟨ha, node_text g1, by omega, good_fits g2 (by omega), by omega⟩
  refine ⟨fun f hf => ?_, fun r hr' => ?_, ⟨by omega, fun r hr' => by have := (hr r hr').2.2.1; omega⟩, by omega, by omega, fun r hr' => ?_⟩
  · obtain ⟨a, b⟩ := hok.1 f hf
    have := ((pathB_iff _).1 a).2.1
    have := ((textB_iff _).1 b).1
    unfold maxLen
    omega
  · obtain ⟨a, b, c, d, e⟩ := hr r hr'
    unfold maxLen
    exact ⟨by omega, by omega, by omega, d⟩
  · obtain ⟨a, b, c, d, e⟩ := hr r hr'
    exact ⟨by omega, d, by omega, by omega⟩
theorem pjZ_nil : PjZ [] [] where
  fit := by intro f hf; cases hf
  rfit := by intro r hr; cases hr
  z := ⟨by simp, by intro r hr; cases hr⟩
  n1 := by simp
  n2 := by simp
  sm := by intro r hr; cases hr
/-- an edit's answer, its parts by name -/
def PjO (fs : List Fl) (rs : List Ru) (ok : Bool) (w : World) (e : Ending) (w' : World) : Prop := ∃ a1 c1 a2 c2, e = .returned (.tuple #[.agg #[.slice a1 fs.length c1, .slice a2 rs.length c2], .bool ok]) ∧ PjA w' fs rs a1 a2 ∧ rs.length ≤ c2 ∧ (a1 = none → fs.length = 0 ∧ c1 = 0) ∧ Below w.heap.size w w'
theorem pjO_P {r : List Fl × List Ru × Bool} {fs : List Fl} {rs : List Ru} {ok : Bool} {w w' : World} {e : Ending} (hr : r = (fs, rs, ok)) (h : EdR r w e w') : PjO fs rs ok w e w' := by
  subst hr
  exact pjR_P h
theorem pjO_S {r : List Fl × List Ru × Bool} {fs : List Fl} {rs : List Ru} {ok : Bool} {w w' : World} {e : Ending} (hr : r = (fs, rs, ok)) (h : EdS r w e w') : PjO fs rs ok w e w' := by
  subst hr
  exact pjR_S h
section
variable {fs fs' : List Fl} {rs rs' : List Ru} {ok : Bool}
theorem setSrc_z {f : Fl} (h : setSrcR f fs rs = (fs', rs', ok)) : PjZ fs' rs' := by
  unfold setSrcR at h
  split at h
  · rename_i h2
    cases h
    exact pjZ_valid h2.2
  · cases h
    exact pjZ_nil
theorem delSrc_z {x : ByteArray} (h : delSrcR x fs rs = (fs', rs', ok)) : PjZ fs' rs' := by
  unfold delSrcR at h
  split at h
  · rename_i h2
    cases h
    exact pjZ_valid h2.2.2
  · cases h
    exact pjZ_nil
theorem setRule_z {r : Ru} (h : setRuleR r fs rs = (fs', rs', ok)) : PjZ fs' rs' := by
  unfold setRuleR at h
  split at h
  · rename_i h2
    cases h
    exact pjZ_valid h2.2
  · cases h
    exact pjZ_nil
theorem delRule_z {x : ByteArray} (h : delRuleR x fs rs = (fs', rs', ok)) : PjZ fs' rs' := by
  unfold delRuleR at h
  split at h
  · rename_i h2
    cases h
    exact pjZ_valid h2.2.2
  · cases h
    exact pjZ_nil
end
section
variable {w : World} {fs fs' : List Fl} {rs rs' : List Ru} {ok : Bool} {a1 a2 : Option Addr} {c1 c2 : Nat}
theorem setSrcI_pj {p t : ByteArray} (hr : setSrcR (p, t) fs rs = (fs', rs', ok)) (P : PjA w fs rs a1 a2) (Z : PjZ fs rs) (hc : rs.length ≤ c2) (hp : p.size ≤ maxLen) (ht : t.size ≤ maxLen) :
    Calls Tryz.prog 9 #[.agg #[.slice a1 fs.length c1, .slice a2 rs.length c2], .agg #[.string p, .string t]] w (PjO fs' rs' ok w) :=
  (setSourceI_z a1 a2 _ _ c1 c2 fs rs p t w P.f P.r Z.fit Z.rfit Z.l1 Z.m2 hc Z.z hp ht).mono fun _ _ h => pjO_P hr h
theorem setSrcS_pj {p t : ByteArray} (hr : setSrcR (p, t) fs rs = (fs', rs', ok)) (P : PjA w fs rs a1 a2) (Z : PjZ fs rs) (hp : p.size ≤ maxLen) (ht : t.size ≤ maxLen) :
    Calls Tryz.prog 10 #[.agg #[.slice a1 fs.length c1, .slice a2 rs.length c2], .agg #[.string p, .string t]] w (PjO fs' rs' ok w) :=
  (setSrcS_z rulesC a1 a2 _ _ c1 c2 fs rs p t w P.f Z.l1 P.r Z.fit Z.rfit Z.six hp ht).mono fun _ _ h => pjO_S hr h
theorem delSrcI_pj {x : ByteArray} (hr : delSrcR x fs rs = (fs', rs', ok)) (P : PjA w fs rs a1 a2) (Z : PjZ fs rs) (hc : rs.length ≤ c2) (hx : x.size ≤ maxLen) :
    Calls Tryz.prog 15 #[.agg #[.slice a1 fs.length c1, .slice a2 rs.length c2], .string x] w (PjO fs' rs' ok w) :=
  (removeSourceI_z a1 a2 _ _ c1 c2 fs rs x w P.f P.r Z.fit Z.rfit Z.l1 Z.m2 hc Z.z hx).mono fun _ _ h => pjO_P hr h
theorem delSrcS_pj {x : ByteArray} (hr : delSrcR x fs rs = (fs', rs', ok)) (P : PjA w fs rs a1 a2) (Z : PjZ fs rs) (hx : x.size ≤ maxLen) :
    Calls Tryz.prog 16 #[.agg #[.slice a1 fs.length c1, .slice a2 rs.length c2], .string x] w (PjO fs' rs' ok w) :=
  (delSrcS_z rulesC a1 a2 _ _ c1 c2 fs rs x w P.f Z.l1 P.r Z.fit Z.rfit Z.six hx).mono fun _ _ h => pjO_S hr h
theorem delRuleI_pj {x : ByteArray} (hr : delRuleR x fs rs = (fs', rs', ok)) (P : PjA w fs rs a1 a2) (Z : PjZ fs rs) (hc : rs.length ≤ c2) (hx : x.size ≤ maxLen) :
    Calls Tryz.prog 21 #[.agg #[.slice a1 fs.length c1, .slice a2 rs.length c2], .string x] w (PjO fs' rs' ok w) :=
  (removeRuleI_z a1 a2 _ _ c1 c2 fs rs x w P.f P.r Z.fit Z.rfit Z.l1 Z.m2 hc Z.six hx).mono fun _ _ h => pjO_P hr h
theorem delRuleS_pj {x : ByteArray} (hr : delRuleR x fs rs = (fs', rs', ok)) (P : PjA w fs rs a1 a2) (Z : PjZ fs rs) (hn : a1 = none → fs.length = 0 ∧ c1 = 0) (hx : x.size ≤ maxLen) :
    Calls Tryz.prog 24 #[.agg #[.slice a1 fs.length c1, .slice a2 rs.length c2], .string x] w (PjO fs' rs' ok w) :=
  (delRuleS_z rulesC a1 a2 _ _ c1 c2 fs rs x w P.f hn Z.l1 P.r Z.fit Z.rfit Z.six hx).mono fun _ _ h => pjO_S hr h
theorem setRuleI_pj {t : ByteArray} {k : Int} {s : ByteArray} {ks : Fo} (hr : setRuleR (t, k, s, ks) fs rs = (fs', rs', ok)) (P : PjA w fs rs a1 a2) (Z : PjZ fs rs) (hc : rs.length ≤ c2) {a : Option Addr} {c : Nat} (hk : KA w 0 w.heap.size ks a ks.len) (hcc : ks.len ≤ c) (hf : RuFit (t, k, s, ks)) (hz : ks.size ≤ 1048576) :
    Calls Tryz.prog 18 #[.agg #[.slice a1 fs.length c1, .slice a2 rs.length c2], .agg #[.string t, .int .i64 k, .string s, .slice a ks.len c]] w (PjO fs' rs' ok w) :=
  (setRuleI_z a1 a2 _ _ c1 c2 fs rs t k s ks a c w P.f P.r hk hcc Z.fit Z.rfit hf Z.l1 Z.m2 hc Z.six hz).mono fun _ _ h => pjO_P hr h
theorem setRuleS_pj {t : ByteArray} {k : Int} {s : ByteArray} {ks : Fo} (hr : setRuleR (t, k, s, ks) fs rs = (fs', rs', ok)) (P : PjA w fs rs a1 a2) (Z : PjZ fs rs) (hn : a1 = none → fs.length = 0 ∧ c1 = 0) {a : Option Addr} {c : Nat} (hk : KA w 0 w.heap.size ks a ks.len) (hcc : ks.len ≤ c) (hf : RuFit (t, k, s, ks)) (hz : ks.size ≤ 1048576) :
    Calls Tryz.prog 19 #[.agg #[.slice a1 fs.length c1, .slice a2 rs.length c2], .agg #[.string t, .int .i64 k, .string s, .slice a ks.len c]] w (PjO fs' rs' ok w) :=
  (setRuleS_z rulesC a1 a2 _ _ c1 c2 fs rs t k s ks a c w P.f hn Z.l1 P.r hk hcc Z.fit Z.rfit hf Z.six hz).mono fun _ _ h => pjO_S hr h
/-- FindRule -/
def FrO (k : Int) (s : ByteArray) (ks : Fo) (ok : Bool) (w : World) (e : Ending) (w' : World) : Prop := ∃ a c, e = .returned (.tuple #[.agg #[.int .i64 k, .string s, .slice a ks.len c], .bool ok]) ∧ ks.len ≤ c ∧ KP w' 0 w'.heap.size ks a ks.len ∧ Below w.heap.size w w'
theorem findRI_pj {x : ByteArray} {k : Int} {s : ByteArray} {ks : Fo} (hr : findP fs rs x = (k, s, ks, ok)) (P : PjA w fs rs a1 a2) (Z : PjZ fs rs) (hx : x.size ≤ maxLen) :
    Calls Tryz.prog 20 #[.agg #[.slice a1 fs.length c1, .slice a2 rs.length c2], .string x] w (FrO k s ks ok w) := by
  have h := findRI_any a1 a2 _ _ c1 c2 fs rs x w P.f P.r Z.fit Z.rfit Z.m1 Z.m2 hx
  rw [hr] at h
  refine h.mono ?_
  rintro e w' ⟨a, c, bk, g, rfl, hcx, hB⟩
  exact ⟨a, c, rfl, hcx.1, (hcx.2.2.1.pl hcx.2.2.2.1).more (Nat.zero_le _) (Nat.le_refl _), hB⟩
end
/-- the same project, in two places -/
theorem same_pj {w : World} {fs : List Fl} {rs : List Ru} {a1 a2 b1 b2 : Option Addr} (P : PjA w fs rs a1 a2) (Q : PjA w fs rs b1 b2) (Z : PjZ fs rs) (c1 c2 d1 d2 : Nat) :
    Calls Tryz.prog 11 #[.agg #[.slice a1 fs.length c1, .slice a2 rs.length c2], .agg #[.slice b1 fs.length d1, .slice b2 rs.length d2]] w fun e w' => e = .returned (.bool true) ∧ Below w.heap.size w w' :=
  pjSameI_any true fs fs rs rs (by simp) _ _ _ _ _ _ _ _ _ _ _ _ w P.f P.p Q.f Q.p Z.rfit Z.rfit Z.z.2 Z.m1 Z.m1 Z.m2 Z.m2
end Go.Proofs.YtceiafncpimihaaGreat
