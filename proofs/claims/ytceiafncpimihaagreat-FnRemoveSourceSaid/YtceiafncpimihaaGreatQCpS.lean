/-
  The reference's l3Copy and l3Checked.
-/
import Derived.Test.YtceiafncpimihaaGreatGone
import Derived.Test.YtceiafncpimihaaGreatGtwo
import Derived.Test.YtceiafncpimihaaGreatQPrV
namespace Go.Proofs.YtceiafncpimihaaGreat
set_option linter.unusedVariables false
set_option linter.unusedSimpArgs false
open Go.RowKit

theorem bxP_grown {w w' : World} {g : Nat} {u v : Value} {T : TypeId} {r : Option Nat} (h : BxP w g u v T) (hg : w.grownBy w' r) (hne : r ≠ some g) : BxP w' g u v T := (hg.block g (blk_lt h) (fun e => hne e.symm)).trans h
theorem cs_six {wr : World} {g b i : Nat} {v1 v2 v3 : Value} {t3 s3 : ByteArray} {k3 : Int} {T : TypeId} (hp : BxP wr g v1 v2 T) (h0 : wr.cell? ⟨b, i, none⟩ = some (.string t3)) (h1 : wr.cell? ⟨b, i + 1, none⟩ = some (.int .i64 k3)) (h2 : wr.cell? ⟨b, i + 2, none⟩ = some (.string s3)) (h3 : wr.cell? ⟨b, i + 3, none⟩ = some v3) :
    wr.cell? ⟨g, 0, none⟩ = some v1 ∧ wr.cell? ⟨g, 1, none⟩ = some v2 ∧ wr.cell? ⟨b, i, none⟩ = some (.string t3) ∧ wr.cell? ⟨b, i + 1, none⟩ = some (.int .i64 k3) ∧ wr.cell? ⟨b, i + 2, none⟩ = some (.string s3) ∧ wr.cell? ⟨b, i + 3, none⟩ = some v3 := ⟨hp.facts.1, hp.facts.2.1, h0, h1, h2, h3⟩
theorem cs_keep {w w' : World} {g b i : Nat} {x0 x1 x2 x3 x4 x5 : Option Value} (h : w.cell? ⟨g, 0, none⟩ = x0 ∧ w.cell? ⟨g, 1, none⟩ = x1 ∧ w.cell? ⟨b, i, none⟩ = x2 ∧ w.cell? ⟨b, i + 1, none⟩ = x3 ∧ w.cell? ⟨b, i + 2, none⟩ = x4 ∧ w.cell? ⟨b, i + 3, none⟩ = x5) (hk : ∀ p : Addr, p.block = g ∨ p.block = b → w'.cell? p = w.cell? p) :
    w'.cell? ⟨g, 0, none⟩ = x0 ∧ w'.cell? ⟨g, 1, none⟩ = x1 ∧ w'.cell? ⟨b, i, none⟩ = x2 ∧ w'.cell? ⟨b, i + 1, none⟩ = x3 ∧ w'.cell? ⟨b, i + 2, none⟩ = x4 ∧ w'.cell? ⟨b, i + 3, none⟩ = x5 :=
  ⟨(hk _ (.inl rfl)).trans h.1, (hk _ (.inl rfl)).trans h.2.1, (hk _ (.inr rfl)).trans h.2.2.1, (hk _ (.inr rfl)).trans h.2.2.2.1, (hk _ (.inr rfl)).trans h.2.2.2.2.1, (hk _ (.inr rfl)).trans h.2.2.2.2.2⟩
/-- what l3Copy leaves -/
def CoS (fs : List Fl) (rs : List Ru) (w : World) (e : Ending) (w' : World) : Prop := ∃ v1 v2, e = .returned (.agg #[v1, v2]) ∧ OwnsF w' w.heap.size v1 fs ∧ OwnR w' w.heap.size v2 rs ∧ Below w.heap.size w w'
/-- .. the rules' memory behind that of the list of files -/
def CoS2 (fs : List Fl) (rs : List Ru) (w : World) (e : Ending) (w' : World) : Prop := ∃ v1 v2 b2, e = .returned (.agg #[v1, v2]) ∧ OwnsF w' w.heap.size v1 fs ∧ OwnR w' b2 v2 rs ∧ w.heap.size ≤ b2 ∧ b2 ≤ w'.heap.size ∧ (∀ g, v1.ownBlock = some g → g < b2) ∧ Below w.heap.size w w'
theorem CoS2.weak {fs : List Fl} {rs : List Ru} {w w' : World} {e : Ending} (h : CoS2 fs rs w e w') : CoS fs rs w e w' := let ⟨v1, v2, b2, h1, h2, h3, h4, _, _, h5⟩ := h; ⟨v1, v2, h1, h2, h3.mono h4, h5⟩
/-- between two rounds of l3Copy -/
def CsI (n0 g3 : Nat) (w : World) (fs : List Fl) (rs : List Ru) (a1 a2 : Option Addr) (n1 n2 c1 c2 : Nat) (v1 : Value) (i : Value) (wr : World) : Prop :=
  ∃ (j : Nat) (v : Value), j ≤ n2 ∧ i = .int .i64 j ∧ OwnR wr (g3 + 1) v (rs.take j) ∧ OwnsF wr n0 v1 fs ∧ BxP wr w.heap.size (.slice a1 n1 c1) (.slice a2 n2 c2) 26 ∧ BxP wr (w.heap.size + 1) (.slice none 0 0) (.slice none 0 0) 26 ∧ BxP wr g3 v1 v 26 ∧ Below w.heap.size w wr

set_option maxRecDepth 100000 in
set_option maxHeartbeats 4000000 in
theorem l3Copy_z (a1 a2 : Option Addr) (n1 n2 c1 c2 : Nat) (fs : List Fl) (rs : List Ru) (w : World) (hf : FilesAt w w.heap.size a1 n1 fs) (hnil : a1 = none → n1 = 0 ∧ c1 = 0) (hn1 : n1 ≤ 1048576) (hr : RuAt w 0 w.heap.size rs a2 n2) (hN : RuZ rs) :
    Calls Tryz.prog 57 #[.agg #[.slice a1 n1 c1, .slice a2 n2 c2]] w (CoS2 fs rs w) := by
  have hB0 := (((Below.refl w.heap.size w).alloc (Nat.le_refl _) (.cells #[.slice a1 n1 c1, .slice a2 n2 c2] 26)).alloc (by simp) (.cells #[.slice none 0 0, .slice none 0 0] 26)).alloc (by simp; omega) (.cells #[] 28)
  have hP0 := ((BxP.new w (.slice a1 n1 c1) (.slice a2 n2 c2) 26).alloc (.cells #[.slice none 0 0, .slice none 0 0] 26)).alloc (.cells #[] 28)
  have hE0 := (BxP.new (w.alloc (.cells #[.slice a1 n1 c1, .slice a2 n2 c2] 26)) (.slice none 0 0) (.slice none 0 0) 26).alloc (.cells #[] 28)
  have hM0 := fmade_zero ((w.alloc (.cells #[.slice a1 n1 c1, .slice a2 n2 c2] 26)).alloc (.cells #[.slice none 0 0, .slice none 0 0] 26))
  simp only [World.size_alloc] at hE0 hM0
  have hf0 := hf.below hB0
  have hlen := hr.1
  have hNl := hN.1
  have Hall := Lib.hid (And.intro hP0 (And.intro hE0 (And.intro hM0 hf0)))
  clear hP0 hE0 hM0 hf0 hf
  go_enter Tryz.func57, Tryz.ntmps57
  go_wp2_with (at_builtin; refine wpList_append_files rfl _ _ rfl (w.heap.size + 1 + 1) (.slice (some ⟨w.heap.size + 1 + 1, 0, none⟩) 0 0) [] fs rfl Hall.out.2.2.1 a1 n1 c1 w.heap.size rfl hnil Hall.out.2.2.2 (by simp; omega) (by simp) ?_; intro v1 w1 hown1 hgr1; rw [List.nil_append] at hown1; obtain ⟨av, cv, rfl, hfv⟩ := hown1.form)
  have hs1 := hgr1.size
  simp only [World.size_alloc] at hs1
  clear hfv
  have hP1 : BxP w1 w.heap.size (.slice a1 n1 c1) (.slice a2 n2 c2) 26 := (hgr1.block _ (by simp; omega) (by simp [Value.ownBlock]; omega)).trans Hall.out.1
  have hE1 : BxP w1 (w.heap.size + 1) (.slice none 0 0) (.slice none 0 0) 26 := (hgr1.block _ (by simp) (by simp [Value.ownBlock])).trans Hall.out.2.1
  have hB1 : Below w.heap.size w w1 := hB0.grown hgr1 hB0.size (fun g e => by simp [Value.ownBlock] at e; omega)
  have Hst := Lib.hid (And.intro ((OwnR.nil (w1.alloc (.cells #[.slice av fs.length cv, .slice none 0 0] 26)) (w1.heap.size + 1))) (And.intro (ownsF_alloc hown1 (.cells #[.slice av fs.length cv, .slice none 0 0] 26)) (And.intro (hP1.alloc (.cells #[.slice av fs.length cv, .slice none 0 0] 26)) (And.intro (hE1.alloc (.cells #[.slice av fs.length cv, .slice none 0 0] 26)) (And.intro (BxP.new w1 (.slice av fs.length cv) (.slice none 0 0) 26) (hB1.alloc hB1.size (.cells #[.slice av fs.length cv, .slice none 0 0] 26)))))))
  have Hav := Lib.hid (show ∀ g, (Value.slice av fs.length cv).ownBlock = some g → g < w1.heap.size from fun g hg => (OwnsF.lt hown1 g hg).2)
  clear hP1 hE1 hB1 hgr1 hown1 Hall hB0
  go_wp2_with fail
  go_loopw [4] (fun i wr => CsI (w.heap.size + 1 + 1) w1.heap.size w fs rs a1 a2 n1 n2 c1 c2 (.slice av fs.length cv) i wr) (fun i _ => n2 - (intOf i).toNat)
  case atStart => exact ⟨0, _, Nat.zero_le _, rfl, by simpa using Hst.out.1, Hst.out.2.1, Hst.out.2.2.1, Hst.out.2.2.2.1, Hst.out.2.2.2.2.1, Hst.out.2.2.2.2.2⟩
  case round =>
    obtain ⟨j, v, hj, rfl, hown, hfo, hpx, hgx, hex, hB⟩ := hrel
    obtain ⟨p0, p1, pf0, pf1, hpl⟩ := hpx.facts
    obtain ⟨e0, e1, ef0, ef1, hel⟩ := hex.facts
    have htl : (rs.take j).length = j := by simp; omega
    by_cases hlt : j < n2
    · obtain ⟨b, off, t3, k3, s3, ks3, a3, n3, c3, rfl, _, hb3, hg3, hc0, hc1, hc2, hc3, hcap3, hk3⟩ := (hr.below hB).get hlt
      have hjj : (j : Int) < (n2 : Int) := by omega
      have hj0 : (0 : Int) ≤ (j : Int) := by omega
      have hblt : b < wr.heap.size := by have := hB.size; omega
      have hkz : ks3.size ≤ 1048576 := hN.2 _ (List.mem_of_getElem? hg3)
      have hn3 := hk3.1
      have Hk3 := Lib.hid (show KA wr.drew 0 wr.drew.heap.size ks3 a3 n3 from hk3.keep (Nat.le_refl _) hB.size fun p _ _ => rfl)
      have Hc := Lib.hid (copy_all ks3.size (by omega) k3 s3 ks3 (Nat.le_refl _) a3 n3 c3 wr.drew Hk3.out hcap3)
      have Hst := Lib.hid (show rs.take (j + 1) = rs.take j ++ [(t3, k3, s3, ks3)] from by rw [List.take_add_one, hg3]; simp)
      have Htl := Lib.hid htl
      subst hn3
      clear hk3 hg3 htl
      go_wp2_with fail
      have HC0 := Lib.hid (cs_six hpx hc0 hc1 hc2 hc3)
      clear hc0 hc1 hc2 hc3 p0 p1 pf0 pf1
      --REGION
      refine wp_region_held_drew (S := (fun w' => w'.cell? ⟨w.heap.size, 0, none⟩ = some (.slice a1 n1 c1) ∧ w'.cell? ⟨w.heap.size, 1, none⟩ = some (.slice (some ⟨b, off, none⟩) n2 c2) ∧ w'.cell? ⟨b, off + j * 4, none⟩ = some (.string t3) ∧ w'.cell? ⟨b, off + j * 4 + 1, none⟩ = some (.int .i64 k3) ∧ w'.cell? ⟨b, off + j * 4 + 2, none⟩ = some (.string s3) ∧ w'.cell? ⟨b, off + j * 4 + 3, none⟩ = some (.slice a3 ks3.len c3))) (by kernel_rfl) HC0.out (fun hHeld => ?_)
      refine wpAnyH_take (i := 0) (oi := { dst := some 17, op := Op.fieldAddr 26 (Operand.tmp 3) 1, type := 0, pos := "l3_project.go:65", after := #[], guard := none }) (v := ?va0) rfl (by kernel_rfl) (by kernel_rfl) (by kernel_rfl) (fun _ _ _ h => h) (Or.inl ⟨by rfl, ?hya0⟩) (by assumption) ?_
      case hya0 =>
        intro W hSW
        try dsimp only at hSW
        go_simp
        try with_reducible rfl
      try simp only [Act.put, List.setIfInBounds_toArray, List.set_cons_zero, List.set_cons_succ]
      refine wpAnyH_take (i := 2) (oi := { dst := some 19, op := Op.fieldAddr 26 (Operand.tmp 1) 1, type := 0, pos := "l3_project.go:65", after := #[], guard := none }) (v := ?va2) rfl (by kernel_rfl) (by kernel_rfl) (by kernel_rfl) (fun _ _ _ h => h) (Or.inl ⟨by rfl, ?hya2⟩) (by assumption) ?_
      case hya2 =>
        intro W hSW
        try dsimp only at hSW
        go_simp
        try with_reducible rfl
      try simp only [Act.put, List.setIfInBounds_toArray, List.set_cons_zero, List.set_cons_succ]
      refine wpAnyH_take (i := 3) (oi := { dst := some 20, op := Op.load 24 (Operand.tmp 19), type := 24, pos := "l3_project.go:65", after := #[{ on := 2, ground := Ground.data }], guard := none }) (v := ?va3) rfl (by kernel_rfl) (by kernel_rfl) (by kernel_rfl) (fun _ _ _ h => h) (Or.inl ⟨by rfl, ?hya3⟩) (by assumption) ?_
      case hya3 =>
        intro W hSW
        try dsimp only at hSW
        go_simp
        try with_reducible rfl
      try simp only [Act.put, List.setIfInBounds_toArray, List.set_cons_zero, List.set_cons_succ]
      refine wpAnyH_take (i := 4) (oi := { dst := some 21, op := Op.move (Operand.tmp 4), type := 3, pos := "l3_project.go:65", after := #[], guard := none }) (v := ?va4) rfl (by kernel_rfl) (by kernel_rfl) (by kernel_rfl) (fun _ _ _ h => h) (Or.inl ⟨by rfl, ?hya4⟩) (by assumption) ?_
      case hya4 =>
        intro W hSW
        try dsimp only at hSW
        go_simp
        try with_reducible rfl
      try simp only [Act.put, List.setIfInBounds_toArray, List.set_cons_zero, List.set_cons_succ]
      refine wpAnyH_take (i := 5) (oi := { dst := some 22, op := Op.indexAddr 24 (Operand.tmp 20) (Operand.tmp 21), type := 0, pos := "l3_project.go:65", after := #[{ on := 3, ground := Ground.data }, { on := 4, ground := Ground.data }], guard := none }) (v := ?va5) rfl (by kernel_rfl) (by kernel_rfl) (by kernel_rfl) (fun _ _ _ h => h) (Or.inl ⟨by rfl, ?hya5⟩) (by assumption) ?_
      case hya5 =>
        intro W hSW
        try dsimp only at hSW
        go_simp
        try with_reducible rfl
      try simp only [Act.put, List.setIfInBounds_toArray, List.set_cons_zero, List.set_cons_succ]
      refine wpAnyH_take (i := 6) (oi := { dst := some 23, op := Op.fieldAddr 45 (Operand.tmp 22) 0, type := 0, pos := "l3_project.go:65", after := #[{ on := 5, ground := Ground.data }], guard := none }) (v := ?va6) rfl (by kernel_rfl) (by kernel_rfl) (by kernel_rfl) (fun _ _ _ h => h) (Or.inl ⟨by rfl, ?hya6⟩) (by assumption) ?_
      case hya6 =>
        intro W hSW
        try dsimp only at hSW
        go_simp
        try with_reducible rfl
      try simp only [Act.put, List.setIfInBounds_toArray, List.set_cons_zero, List.set_cons_succ]
      refine wpAnyH_take (i := 7) (oi := { dst := some 24, op := Op.load 9 (Operand.tmp 23), type := 9, pos := "l3_project.go:65", after := #[{ on := 6, ground := Ground.data }], guard := none }) (v := ?va7) rfl (by kernel_rfl) (by kernel_rfl) (by kernel_rfl) (fun _ _ _ h => h) (Or.inl ⟨by rfl, ?hya7⟩) (by assumption) ?_
      case hya7 =>
        intro W hSW
        try dsimp only at hSW
        go_simp
        try with_reducible rfl
      try simp only [Act.put, List.setIfInBounds_toArray, List.set_cons_zero, List.set_cons_succ]
      refine wpAnyH_take (i := 8) (oi := { dst := some 25, op := Op.fieldAddr 26 (Operand.tmp 1) 1, type := 0, pos := "l3_project.go:65", after := #[], guard := none }) (v := ?va8) rfl (by kernel_rfl) (by kernel_rfl) (by kernel_rfl) (fun _ _ _ h => h) (Or.inl ⟨by rfl, ?hya8⟩) (by assumption) ?_
      case hya8 =>
        intro W hSW
        try dsimp only at hSW
        go_simp
        try with_reducible rfl
      try simp only [Act.put, List.setIfInBounds_toArray, List.set_cons_zero, List.set_cons_succ]
      refine wpAnyH_take (i := 9) (oi := { dst := some 26, op := Op.load 24 (Operand.tmp 25), type := 24, pos := "l3_project.go:65", after := #[{ on := 8, ground := Ground.data }], guard := none }) (v := ?va9) rfl (by kernel_rfl) (by kernel_rfl) (by kernel_rfl) (fun _ _ _ h => h) (Or.inl ⟨by rfl, ?hya9⟩) (by assumption) ?_
      case hya9 =>
        intro W hSW
        try dsimp only at hSW
        go_simp
        try with_reducible rfl
      try simp only [Act.put, List.setIfInBounds_toArray, List.set_cons_zero, List.set_cons_succ]
      refine wpAnyH_take (i := 10) (oi := { dst := some 27, op := Op.move (Operand.tmp 4), type := 3, pos := "l3_project.go:65", after := #[], guard := none }) (v := ?va10) rfl (by kernel_rfl) (by kernel_rfl) (by kernel_rfl) (fun _ _ _ h => h) (Or.inl ⟨by rfl, ?hya10⟩) (by assumption) ?_
      case hya10 =>
        intro W hSW
        try dsimp only at hSW
        go_simp
        try with_reducible rfl
      try simp only [Act.put, List.setIfInBounds_toArray, List.set_cons_zero, List.set_cons_succ]
      refine wpAnyH_take (i := 11) (oi := { dst := some 28, op := Op.indexAddr 24 (Operand.tmp 26) (Operand.tmp 27), type := 0, pos := "l3_project.go:65", after := #[{ on := 9, ground := Ground.data }, { on := 10, ground := Ground.data }], guard := none }) (v := ?va11) rfl (by kernel_rfl) (by kernel_rfl) (by kernel_rfl) (fun _ _ _ h => h) (Or.inl ⟨by rfl, ?hya11⟩) (by assumption) ?_
      case hya11 =>
        intro W hSW
        try dsimp only at hSW
        go_simp
        try with_reducible rfl
      try simp only [Act.put, List.setIfInBounds_toArray, List.set_cons_zero, List.set_cons_succ]
      refine wpAnyH_take (i := 12) (oi := { dst := some 29, op := Op.fieldAddr 45 (Operand.tmp 28) 1, type := 0, pos := "l3_project.go:65", after := #[{ on := 11, ground := Ground.data }], guard := none }) (v := ?va12) rfl (by kernel_rfl) (by kernel_rfl) (by kernel_rfl) (fun _ _ _ h => h) (Or.inl ⟨by rfl, ?hya12⟩) (by assumption) ?_
      case hya12 =>
        intro W hSW
        try dsimp only at hSW
        go_simp
        try with_reducible rfl
      try simp only [Act.put, List.setIfInBounds_toArray, List.set_cons_zero, List.set_cons_succ]
      refine wpAnyH_take (i := 13) (oi := { dst := some 30, op := Op.load 43 (Operand.tmp 29), type := 43, pos := "l3_project.go:65", after := #[{ on := 12, ground := Ground.data }], guard := none }) (v := ?va13) rfl (by kernel_rfl) (by kernel_rfl) (by kernel_rfl) (fun _ _ _ h => h) (Or.inl ⟨by rfl, ?hya13⟩) (by assumption) ?_
      case hya13 =>
        intro W hSW
        try dsimp only at hSW
        go_simp
        try with_reducible rfl
      try simp only [Act.put, List.setIfInBounds_toArray, List.set_cons_zero, List.set_cons_succ]
      refine wpAnyH_ready (rs := [1, 14]) (by kernel_rfl) (by simp) ?_
      refine AllReadyH.cons (o := { dst := some 18, op := Op.load 24 (Operand.tmp 17), type := 24, pos := "l3_project.go:65", after := #[{ on := 0, ground := Ground.data }], guard := none }) rfl (fun K hK => ?_) (AllReadyH.cons (o := { dst := some 31, op := Op.call { callee := Callee.value (Operand.func 72), args := #[Operand.tmp 30], argTypes := #[43] }, type := 43, pos := "l3_project.go:65", after := #[{ on := 13, ground := Ground.data }], guard := none }) rfl (fun K hK => ?_) AllReadyH.nil)
      · go_simp
        clear hHeld
        try dsimp only
        refine hK.out _ _ HC0.out (fun hHeld => ?_)
        clear hK K
        try simp only [Act.put, List.setIfInBounds_toArray, List.set_cons_zero, List.set_cons_succ]
        refine wpAnyH_ready (rs := [14]) (by kernel_rfl) (by simp) ?_
        refine AllReadyH.cons (o := { dst := some 31, op := Op.call { callee := Callee.value (Operand.func 72), args := #[Operand.tmp 30], argTypes := #[43] }, type := 43, pos := "l3_project.go:65", after := #[{ on := 13, ground := Ground.data }], guard := none }) rfl (fun K hK => ?_) AllReadyH.nil
        go_simp
        refine Calls.mono Hc.out ?_
        rintro e w4 ⟨v4, rfl, hown4, hB4⟩
        obtain ⟨a4, d4, rfl, hd4, hm4, hk4⟩ := hown4.form
        have hB4' : Below wr.heap.size wr w4 := ((Below.refl wr.heap.size wr).drew).trans hB4
        have hown5 := hown.below hB4'
        have hex5 := hex.next hB4'
        obtain ⟨y0, y1, yf0, yf1, hl5⟩ := hex5.facts
        have HC1 := Lib.hid (cs_keep HC0.out fun p hp => hB4'.cell (show p.block < wr.heap.size by omega))
        clear hHeld
        try dsimp only
        refine hK.out _ _ HC1.out (fun hHeld => ?_)
        clear hK K
        try simp only [Act.put, List.setIfInBounds_toArray, List.set_cons_zero, List.set_cons_succ]
        refine wpAnyH_take (i := 15) (oi := { dst := some 32, op := Op.build 45 #[(0, Operand.tmp 24), (1, Operand.tmp 31)], type := 45, pos := "l3_project.go:65", after := #[{ on := 7, ground := Ground.data }, { on := 14, ground := Ground.data }], guard := none }) (v := ?vb15) rfl (by kernel_rfl) (by kernel_rfl) (by kernel_rfl) (fun _ _ _ h => h) (Or.inl ⟨by rfl, ?hyb15⟩) (by assumption) ?_
        case hyb15 =>
          intro W hSW
          try dsimp only at hSW
          go_simp
          try with_reducible rfl
        try simp only [Act.put, List.setIfInBounds_toArray, List.set_cons_zero, List.set_cons_succ]
        refine wpAnyH_ready (rs := [16]) (by kernel_rfl) (by simp) ?_
        refine AllReadyH.cons (o := { dst := some 33, op := Op.buildSlice 24 1 #[(0, Operand.tmp 32)], type := 24, pos := "l3_project.go:65", after := #[{ on := 15, ground := Ground.data }], guard := none }) rfl (fun K hK => ?_) AllReadyH.nil
        go_simp
        clear hHeld
        try dsimp only
        refine hK.out _ _ (cs_keep HC1.out fun p hp => World.cell?_alloc_lt w4 _ p (by have := hB4'.size; omega)) (fun hHeld => ?_)
        clear hK K
        try simp only [Act.put, List.setIfInBounds_toArray, List.set_cons_zero, List.set_cons_succ]
        refine wpAnyH_ready (rs := [17]) (by kernel_rfl) (by simp) ?_
        refine AllReadyH.cons (o := { dst := some 34, op := Op.call { callee := Callee.builtin Builtin.append, args := #[Operand.tmp 18, Operand.tmp 33], argTypes := #[24, 24] }, type := 24, pos := "l3_project.go:65", after := #[{ on := 1, ground := Ground.data }, { on := 16, ground := Ground.data }, { on := 14, ground := Ground.chain }], guard := none }) rfl (fun K hK => ?_) AllReadyH.nil
        refine step_append_ru rfl _ _ (by rfl) (w1.heap.size + 1) v (rs.take j) (by rfl) (hown5.alloc _) w4.heap.size 1 (by rfl) t3 k3 s3 ks3 a4 d4 _ _ (heap_alloc_new w4 _) hd4 (hk4.alloc (Nat.le_refl _) _) (by show _ ≤ wr.heap.size; omega) (by simp) (fun g hg => .inl (hown.lt g hg).2) (by have := Htl.out; omega) (by simp; omega) ?_
        intro g cap w6 hown6 hgrow6 hlt6 hbg6
        have hex6 : BxP w6 w1.heap.size (.slice av fs.length cv) v 26 := (hgrow6.block _ (by simp; omega) (fun e => by have := (hown.lt _ e.symm).1; omega)).trans (hex5.alloc (.cells #[.string t3, .int .i64 k3, .string s3, .slice a4 ks3.len d4] 45))
        have HC2 := Lib.hid (cs_keep (w' := w6) HC1.out fun p hp => (World.cell?_of_block (hgrow6.block p.block (by simp; omega) (fun e => by have := (hown.lt _ e.symm).1; omega))).trans (World.cell?_alloc_lt w4 _ p (by omega)))
        obtain ⟨x0, x1, xf0, xf1, hl6⟩ := hex6.facts
        clear hHeld
        try dsimp only
        refine hK.out _ _ HC2.out (fun hHeld => ?_)
        clear hK K
        try simp only [Act.put, List.setIfInBounds_toArray, List.set_cons_zero, List.set_cons_succ]
        refine wpAnyH_take (i := 18) (oi := { dst := some 35, op := Op.fieldAddr 26 (Operand.tmp 3) 1, type := 0, pos := "l3_project.go:65", after := #[{ on := 0, ground := Ground.phase }, { on := 1, ground := Ground.phase }, { on := 2, ground := Ground.phase }, { on := 3, ground := Ground.phase }, { on := 4, ground := Ground.phase }, { on := 5, ground := Ground.phase }, { on := 6, ground := Ground.phase }, { on := 7, ground := Ground.phase }, { on := 8, ground := Ground.phase }, { on := 9, ground := Ground.phase }, { on := 10, ground := Ground.phase }, { on := 11, ground := Ground.phase }, { on := 12, ground := Ground.phase }, { on := 13, ground := Ground.phase }, { on := 14, ground := Ground.phase }, { on := 15, ground := Ground.phase }, { on := 16, ground := Ground.phase }, { on := 17, ground := Ground.phase }], guard := none }) (v := ?vb18) rfl (by kernel_rfl) (by kernel_rfl) (by kernel_rfl) (fun _ _ _ h => h) (Or.inl ⟨by rfl, ?hyb18⟩) (by assumption) ?_
        case hyb18 =>
          intro W hSW
          try dsimp only at hSW
          go_simp
          try with_reducible rfl
        try simp only [Act.put, List.setIfInBounds_toArray, List.set_cons_zero, List.set_cons_succ]
        refine wpAnyH_ready (rs := [19]) (by kernel_rfl) (by simp) ?_
        refine AllReadyH.cons (o := { dst := none, op := Op.store 24 (Operand.tmp 35) (Operand.tmp 34), type := 0, pos := "l3_project.go:65", after := #[{ on := 18, ground := Ground.data }, { on := 17, ground := Ground.data }, { on := 17, ground := Ground.chain }, { on := 0, ground := Ground.phase }, { on := 1, ground := Ground.phase }, { on := 2, ground := Ground.phase }, { on := 3, ground := Ground.phase }, { on := 4, ground := Ground.phase }, { on := 5, ground := Ground.phase }, { on := 6, ground := Ground.phase }, { on := 7, ground := Ground.phase }, { on := 8, ground := Ground.phase }, { on := 9, ground := Ground.phase }, { on := 10, ground := Ground.phase }, { on := 11, ground := Ground.phase }, { on := 12, ground := Ground.phase }, { on := 13, ground := Ground.phase }, { on := 14, ground := Ground.phase }, { on := 15, ground := Ground.phase }, { on := 16, ground := Ground.phase }, { on := 17, ground := Ground.phase }], guard := none }) rfl (fun K hK => ?_) AllReadyH.nil
        go_simp
        clear hHeld
        try dsimp only
        refine hK.out _ _ (cs_keep HC2.out fun p hp => World.cell?_of_block (Below.heap_setCell w6 _ _ p.block (by show p.block ≠ w1.heap.size; omega))) (fun hHeld => ?_)
        clear hK K
        try simp only [Act.put, List.setIfInBounds_toArray, List.set_cons_zero, List.set_cons_succ]
        refine wpAnyH_done (by kernel_rfl) ?_ _
        go_wp2_with fail
        have hlo := hown.lt
        have hav := Hav.out
        have hne : ∀ g', v.ownBlock ≠ some g' ∨ w1.heap.size < g' := fun g' => by
          by_cases e : v.ownBlock = some g'
          · exact .inr (by have := (hlo g' e).1; omega)
          · exact .inl e
        rw [Htl.out, ← Hst.out] at hown6
        have hf6 := ownsF_ne (ownsF_alloc (own_raise hfo hB4') (.cells #[.string t3, .int .i64 k3, .string s3, .slice a4 ks3.len d4] 45)) hgrow6 (fun g hg e => by have := hav g hg; exact (hne g).elim (fun h => h e) (fun h => by omega))
        have hf7 := ownsF_ne hf6 (grown_set (p := ⟨w1.heap.size, 1, none⟩) (World.grownBy.refl w6 _) (.inl rfl) (.slice (some ⟨g, 0, none⟩) (j + 1) cap)) (fun g' hg' e => absurd (hav g' hg') (by injection e with e; have e' : w1.heap.size = g' := e; omega))
        have hp6 := bxP_grown ((hpx.next hB4').alloc (.cells #[.string t3, .int .i64 k3, .string s3, .slice a4 ks3.len d4] 45)) hgrow6 (fun e => by exact (hne w.heap.size).elim (fun h => h e) (fun h => by omega))
        have hg6 := bxP_grown ((hgx.next hB4').alloc (.cells #[.string t3, .int .i64 k3, .string s3, .slice a4 ks3.len d4] 45)) hgrow6 (fun e => by exact (hne (w.heap.size + 1)).elim (fun h => h e) (fun h => by omega))
        exact ⟨⟨j + 1, _, by omega, by go_num, hown6.setCell (Nat.lt_succ_self _) 1 _, hf7, hp6.other (by omega) 1 _, hg6.other (by omega) 1 _, hex6.set1 _, (((hB.trans (hB4'.mono hB.size)).alloc (by omega) _).grown hgrow6 (by simp; omega) (fun g' e => by have := (hlo _ e).1; omega)).setCell (by show w.heap.size ≤ w1.heap.size; omega) _⟩, by simp [intOf]; omega⟩
      · go_simp
        refine Calls.mono Hc.out ?_
        rintro e w4 ⟨v4, rfl, hown4, hB4⟩
        obtain ⟨a4, d4, rfl, hd4, hm4, hk4⟩ := hown4.form
        have hB4' : Below wr.heap.size wr w4 := ((Below.refl wr.heap.size wr).drew).trans hB4
        have hown5 := hown.below hB4'
        have hex5 := hex.next hB4'
        obtain ⟨y0, y1, yf0, yf1, hl5⟩ := hex5.facts
        have HC1 := Lib.hid (cs_keep HC0.out fun p hp => hB4'.cell (show p.block < wr.heap.size by omega))
        clear hHeld
        try dsimp only
        refine hK.out _ _ HC1.out (fun hHeld => ?_)
        clear hK K
        try simp only [Act.put, List.setIfInBounds_toArray, List.set_cons_zero, List.set_cons_succ]
        refine wpAnyH_take (i := 15) (oi := { dst := some 32, op := Op.build 45 #[(0, Operand.tmp 24), (1, Operand.tmp 31)], type := 45, pos := "l3_project.go:65", after := #[{ on := 7, ground := Ground.data }, { on := 14, ground := Ground.data }], guard := none }) (v := ?ve15) rfl (by kernel_rfl) (by kernel_rfl) (by kernel_rfl) (fun _ _ _ h => h) (Or.inl ⟨by rfl, ?hye15⟩) (by assumption) ?_
        case hye15 =>
          intro W hSW
          try dsimp only at hSW
          go_simp
          try with_reducible rfl
        try simp only [Act.put, List.setIfInBounds_toArray, List.set_cons_zero, List.set_cons_succ]
        refine wpAnyH_ready (rs := [1, 16]) (by kernel_rfl) (by simp) ?_
        refine AllReadyH.cons (o := { dst := some 18, op := Op.load 24 (Operand.tmp 17), type := 24, pos := "l3_project.go:65", after := #[{ on := 0, ground := Ground.data }], guard := none }) rfl (fun K hK => ?_) (AllReadyH.cons (o := { dst := some 33, op := Op.buildSlice 24 1 #[(0, Operand.tmp 32)], type := 24, pos := "l3_project.go:65", after := #[{ on := 15, ground := Ground.data }], guard := none }) rfl (fun K hK => ?_) AllReadyH.nil)
        · go_simp
          clear hHeld
          try dsimp only
          refine hK.out _ _ HC1.out (fun hHeld => ?_)
          clear hK K
          try simp only [Act.put, List.setIfInBounds_toArray, List.set_cons_zero, List.set_cons_succ]
          refine wpAnyH_ready (rs := [16]) (by kernel_rfl) (by simp) ?_
          refine AllReadyH.cons (o := { dst := some 33, op := Op.buildSlice 24 1 #[(0, Operand.tmp 32)], type := 24, pos := "l3_project.go:65", after := #[{ on := 15, ground := Ground.data }], guard := none }) rfl (fun K hK => ?_) AllReadyH.nil
          go_simp
          clear hHeld
          try dsimp only
          refine hK.out _ _ (cs_keep HC1.out fun p hp => World.cell?_alloc_lt w4 _ p (by have := hB4'.size; omega)) (fun hHeld => ?_)
          clear hK K
          try simp only [Act.put, List.setIfInBounds_toArray, List.set_cons_zero, List.set_cons_succ]
          refine wpAnyH_ready (rs := [17]) (by kernel_rfl) (by simp) ?_
          refine AllReadyH.cons (o := { dst := some 34, op := Op.call { callee := Callee.builtin Builtin.append, args := #[Operand.tmp 18, Operand.tmp 33], argTypes := #[24, 24] }, type := 24, pos := "l3_project.go:65", after := #[{ on := 1, ground := Ground.data }, { on := 16, ground := Ground.data }, { on := 14, ground := Ground.chain }], guard := none }) rfl (fun K hK => ?_) AllReadyH.nil
          refine step_append_ru rfl _ _ (by rfl) (w1.heap.size + 1) v (rs.take j) (by rfl) (hown5.alloc _) w4.heap.size 1 (by rfl) t3 k3 s3 ks3 a4 d4 _ _ (heap_alloc_new w4 _) hd4 (hk4.alloc (Nat.le_refl _) _) (by show _ ≤ wr.heap.size; omega) (by simp) (fun g hg => .inl (hown.lt g hg).2) (by have := Htl.out; omega) (by simp; omega) ?_
          intro g cap w6 hown6 hgrow6 hlt6 hbg6
          have hex6 : BxP w6 w1.heap.size (.slice av fs.length cv) v 26 := (hgrow6.block _ (by simp; omega) (fun e => by have := (hown.lt _ e.symm).1; omega)).trans (hex5.alloc (.cells #[.string t3, .int .i64 k3, .string s3, .slice a4 ks3.len d4] 45))
          have HC2 := Lib.hid (cs_keep (w' := w6) HC1.out fun p hp => (World.cell?_of_block (hgrow6.block p.block (by simp; omega) (fun e => by have := (hown.lt _ e.symm).1; omega))).trans (World.cell?_alloc_lt w4 _ p (by omega)))
          obtain ⟨x0, x1, xf0, xf1, hl6⟩ := hex6.facts
          clear hHeld
          try dsimp only
          refine hK.out _ _ HC2.out (fun hHeld => ?_)
          clear hK K
          try simp only [Act.put, List.setIfInBounds_toArray, List.set_cons_zero, List.set_cons_succ]
          refine wpAnyH_take (i := 18) (oi := { dst := some 35, op := Op.fieldAddr 26 (Operand.tmp 3) 1, type := 0, pos := "l3_project.go:65", after := #[{ on := 0, ground := Ground.phase }, { on := 1, ground := Ground.phase }, { on := 2, ground := Ground.phase }, { on := 3, ground := Ground.phase }, { on := 4, ground := Ground.phase }, { on := 5, ground := Ground.phase }, { on := 6, ground := Ground.phase }, { on := 7, ground := Ground.phase }, { on := 8, ground := Ground.phase }, { on := 9, ground := Ground.phase }, { on := 10, ground := Ground.phase }, { on := 11, ground := Ground.phase }, { on := 12, ground := Ground.phase }, { on := 13, ground := Ground.phase }, { on := 14, ground := Ground.phase }, { on := 15, ground := Ground.phase }, { on := 16, ground := Ground.phase }, { on := 17, ground := Ground.phase }], guard := none }) (v := ?vc18) rfl (by kernel_rfl) (by kernel_rfl) (by kernel_rfl) (fun _ _ _ h => h) (Or.inl ⟨by rfl, ?hyc18⟩) (by assumption) ?_
          case hyc18 =>
            intro W hSW
            try dsimp only at hSW
            go_simp
            try with_reducible rfl
          try simp only [Act.put, List.setIfInBounds_toArray, List.set_cons_zero, List.set_cons_succ]
          refine wpAnyH_ready (rs := [19]) (by kernel_rfl) (by simp) ?_
          refine AllReadyH.cons (o := { dst := none, op := Op.store 24 (Operand.tmp 35) (Operand.tmp 34), type := 0, pos := "l3_project.go:65", after := #[{ on := 18, ground := Ground.data }, { on := 17, ground := Ground.data }, { on := 17, ground := Ground.chain }, { on := 0, ground := Ground.phase }, { on := 1, ground := Ground.phase }, { on := 2, ground := Ground.phase }, { on := 3, ground := Ground.phase }, { on := 4, ground := Ground.phase }, { on := 5, ground := Ground.phase }, { on := 6, ground := Ground.phase }, { on := 7, ground := Ground.phase }, { on := 8, ground := Ground.phase }, { on := 9, ground := Ground.phase }, { on := 10, ground := Ground.phase }, { on := 11, ground := Ground.phase }, { on := 12, ground := Ground.phase }, { on := 13, ground := Ground.phase }, { on := 14, ground := Ground.phase }, { on := 15, ground := Ground.phase }, { on := 16, ground := Ground.phase }, { on := 17, ground := Ground.phase }], guard := none }) rfl (fun K hK => ?_) AllReadyH.nil
          go_simp
          clear hHeld
          try dsimp only
          refine hK.out _ _ (cs_keep HC2.out fun p hp => World.cell?_of_block (Below.heap_setCell w6 _ _ p.block (by show p.block ≠ w1.heap.size; omega))) (fun hHeld => ?_)
          clear hK K
          try simp only [Act.put, List.setIfInBounds_toArray, List.set_cons_zero, List.set_cons_succ]
          refine wpAnyH_done (by kernel_rfl) ?_ _
          go_wp2_with fail
          have hlo := hown.lt
          have hav := Hav.out
          have hne : ∀ g', v.ownBlock ≠ some g' ∨ w1.heap.size < g' := fun g' => by
            by_cases e : v.ownBlock = some g'
            · exact .inr (by have := (hlo g' e).1; omega)
            · exact .inl e
          rw [Htl.out, ← Hst.out] at hown6
          have hf6 := ownsF_ne (ownsF_alloc (own_raise hfo hB4') (.cells #[.string t3, .int .i64 k3, .string s3, .slice a4 ks3.len d4] 45)) hgrow6 (fun g hg e => by have := hav g hg; exact (hne g).elim (fun h => h e) (fun h => by omega))
          have hf7 := ownsF_ne hf6 (grown_set (p := ⟨w1.heap.size, 1, none⟩) (World.grownBy.refl w6 _) (.inl rfl) (.slice (some ⟨g, 0, none⟩) (j + 1) cap)) (fun g' hg' e => absurd (hav g' hg') (by injection e with e; have e' : w1.heap.size = g' := e; omega))
          have hp6 := bxP_grown ((hpx.next hB4').alloc (.cells #[.string t3, .int .i64 k3, .string s3, .slice a4 ks3.len d4] 45)) hgrow6 (fun e => by exact (hne w.heap.size).elim (fun h => h e) (fun h => by omega))
          have hg6 := bxP_grown ((hgx.next hB4').alloc (.cells #[.string t3, .int .i64 k3, .string s3, .slice a4 ks3.len d4] 45)) hgrow6 (fun e => by exact (hne (w.heap.size + 1)).elim (fun h => h e) (fun h => by omega))
          exact ⟨⟨j + 1, _, by omega, by go_num, hown6.setCell (Nat.lt_succ_self _) 1 _, hf7, hp6.other (by omega) 1 _, hg6.other (by omega) 1 _, hex6.set1 _, (((hB.trans (hB4'.mono hB.size)).alloc (by omega) _).grown hgrow6 (by simp; omega) (fun g' e => by have := (hlo _ e).1; omega)).setCell (by show w.heap.size ≤ w1.heap.size; omega) _⟩, by simp [intOf]; omega⟩
        · go_simp
          clear hHeld
          try dsimp only
          refine hK.out _ _ (cs_keep HC1.out fun p hp => World.cell?_alloc_lt w4 _ p (by have := hB4'.size; omega)) (fun hHeld => ?_)
          clear hK K
          try simp only [Act.put, List.setIfInBounds_toArray, List.set_cons_zero, List.set_cons_succ]
          refine wpAnyH_ready (rs := [1]) (by kernel_rfl) (by simp) ?_
          refine AllReadyH.cons (o := { dst := some 18, op := Op.load 24 (Operand.tmp 17), type := 24, pos := "l3_project.go:65", after := #[{ on := 0, ground := Ground.data }], guard := none }) rfl (fun K hK => ?_) AllReadyH.nil
          go_simp
          clear hHeld
          try dsimp only
          refine hK.out _ _ (cs_keep HC1.out fun p hp => World.cell?_alloc_lt w4 _ p (by have := hB4'.size; omega)) (fun hHeld => ?_)
          clear hK K
          try simp only [Act.put, List.setIfInBounds_toArray, List.set_cons_zero, List.set_cons_succ]
          refine wpAnyH_ready (rs := [17]) (by kernel_rfl) (by simp) ?_
          refine AllReadyH.cons (o := { dst := some 34, op := Op.call { callee := Callee.builtin Builtin.append, args := #[Operand.tmp 18, Operand.tmp 33], argTypes := #[24, 24] }, type := 24, pos := "l3_project.go:65", after := #[{ on := 1, ground := Ground.data }, { on := 16, ground := Ground.data }, { on := 14, ground := Ground.chain }], guard := none }) rfl (fun K hK => ?_) AllReadyH.nil
          refine step_append_ru rfl _ _ (by rfl) (w1.heap.size + 1) v (rs.take j) (by rfl) (hown5.alloc _) w4.heap.size 1 (by rfl) t3 k3 s3 ks3 a4 d4 _ _ (heap_alloc_new w4 _) hd4 (hk4.alloc (Nat.le_refl _) _) (by show _ ≤ wr.heap.size; omega) (by simp) (fun g hg => .inl (hown.lt g hg).2) (by have := Htl.out; omega) (by simp; omega) ?_
          intro g cap w6 hown6 hgrow6 hlt6 hbg6
          have hex6 : BxP w6 w1.heap.size (.slice av fs.length cv) v 26 := (hgrow6.block _ (by simp; omega) (fun e => by have := (hown.lt _ e.symm).1; omega)).trans (hex5.alloc (.cells #[.string t3, .int .i64 k3, .string s3, .slice a4 ks3.len d4] 45))
          have HC2 := Lib.hid (cs_keep (w' := w6) HC1.out fun p hp => (World.cell?_of_block (hgrow6.block p.block (by simp; omega) (fun e => by have := (hown.lt _ e.symm).1; omega))).trans (World.cell?_alloc_lt w4 _ p (by omega)))
          obtain ⟨x0, x1, xf0, xf1, hl6⟩ := hex6.facts
          clear hHeld
          try dsimp only
          refine hK.out _ _ HC2.out (fun hHeld => ?_)
          clear hK K
          try simp only [Act.put, List.setIfInBounds_toArray, List.set_cons_zero, List.set_cons_succ]
          refine wpAnyH_take (i := 18) (oi := { dst := some 35, op := Op.fieldAddr 26 (Operand.tmp 3) 1, type := 0, pos := "l3_project.go:65", after := #[{ on := 0, ground := Ground.phase }, { on := 1, ground := Ground.phase }, { on := 2, ground := Ground.phase }, { on := 3, ground := Ground.phase }, { on := 4, ground := Ground.phase }, { on := 5, ground := Ground.phase }, { on := 6, ground := Ground.phase }, { on := 7, ground := Ground.phase }, { on := 8, ground := Ground.phase }, { on := 9, ground := Ground.phase }, { on := 10, ground := Ground.phase }, { on := 11, ground := Ground.phase }, { on := 12, ground := Ground.phase }, { on := 13, ground := Ground.phase }, { on := 14, ground := Ground.phase }, { on := 15, ground := Ground.phase }, { on := 16, ground := Ground.phase }, { on := 17, ground := Ground.phase }], guard := none }) (v := ?vd18) rfl (by kernel_rfl) (by kernel_rfl) (by kernel_rfl) (fun _ _ _ h => h) (Or.inl ⟨by rfl, ?hyd18⟩) (by assumption) ?_
          case hyd18 =>
            intro W hSW
            try dsimp only at hSW
            go_simp
            try with_reducible rfl
          try simp only [Act.put, List.setIfInBounds_toArray, List.set_cons_zero, List.set_cons_succ]
          refine wpAnyH_ready (rs := [19]) (by kernel_rfl) (by simp) ?_
          refine AllReadyH.cons (o := { dst := none, op := Op.store 24 (Operand.tmp 35) (Operand.tmp 34), type := 0, pos := "l3_project.go:65", after := #[{ on := 18, ground := Ground.data }, { on := 17, ground := Ground.data }, { on := 17, ground := Ground.chain }, { on := 0, ground := Ground.phase }, { on := 1, ground := Ground.phase }, { on := 2, ground := Ground.phase }, { on := 3, ground := Ground.phase }, { on := 4, ground := Ground.phase }, { on := 5, ground := Ground.phase }, { on := 6, ground := Ground.phase }, { on := 7, ground := Ground.phase }, { on := 8, ground := Ground.phase }, { on := 9, ground := Ground.phase }, { on := 10, ground := Ground.phase }, { on := 11, ground := Ground.phase }, { on := 12, ground := Ground.phase }, { on := 13, ground := Ground.phase }, { on := 14, ground := Ground.phase }, { on := 15, ground := Ground.phase }, { on := 16, ground := Ground.phase }, { on := 17, ground := Ground.phase }], guard := none }) rfl (fun K hK => ?_) AllReadyH.nil
          go_simp
          clear hHeld
          try dsimp only
          refine hK.out _ _ (cs_keep HC2.out fun p hp => World.cell?_of_block (Below.heap_setCell w6 _ _ p.block (by show p.block ≠ w1.heap.size; omega))) (fun hHeld => ?_)
          clear hK K
          try simp only [Act.put, List.setIfInBounds_toArray, List.set_cons_zero, List.set_cons_succ]
          refine wpAnyH_done (by kernel_rfl) ?_ _
          go_wp2_with fail
          have hlo := hown.lt
          have hav := Hav.out
          have hne : ∀ g', v.ownBlock ≠ some g' ∨ w1.heap.size < g' := fun g' => by
            by_cases e : v.ownBlock = some g'
            · exact .inr (by have := (hlo g' e).1; omega)
            · exact .inl e
          rw [Htl.out, ← Hst.out] at hown6
          have hf6 := ownsF_ne (ownsF_alloc (own_raise hfo hB4') (.cells #[.string t3, .int .i64 k3, .string s3, .slice a4 ks3.len d4] 45)) hgrow6 (fun g hg e => by have := hav g hg; exact (hne g).elim (fun h => h e) (fun h => by omega))
          have hf7 := ownsF_ne hf6 (grown_set (p := ⟨w1.heap.size, 1, none⟩) (World.grownBy.refl w6 _) (.inl rfl) (.slice (some ⟨g, 0, none⟩) (j + 1) cap)) (fun g' hg' e => absurd (hav g' hg') (by injection e with e; have e' : w1.heap.size = g' := e; omega))
          have hp6 := bxP_grown ((hpx.next hB4').alloc (.cells #[.string t3, .int .i64 k3, .string s3, .slice a4 ks3.len d4] 45)) hgrow6 (fun e => by exact (hne w.heap.size).elim (fun h => h e) (fun h => by omega))
          have hg6 := bxP_grown ((hgx.next hB4').alloc (.cells #[.string t3, .int .i64 k3, .string s3, .slice a4 ks3.len d4] 45)) hgrow6 (fun e => by exact (hne (w.heap.size + 1)).elim (fun h => h e) (fun h => by omega))
          exact ⟨⟨j + 1, _, by omega, by go_num, hown6.setCell (Nat.lt_succ_self _) 1 _, hf7, hp6.other (by omega) 1 _, hg6.other (by omega) 1 _, hex6.set1 _, (((hB.trans (hB4'.mono hB.size)).alloc (by omega) _).grown hgrow6 (by simp; omega) (fun g' e => by have := (hlo _ e).1; omega)).setCell (by show w.heap.size ≤ w1.heap.size; omega) _⟩, by simp [intOf]; omega⟩
      --ENDREGION
    · subst hlen
      have hall : rs.take j = rs := List.take_of_length_le (by omega)
      rw [hall] at hown
      obtain ⟨z0, z1, zf0, zf1, zl⟩ := hgx.facts
      obtain ⟨a4, d4, rfl, hd4, hm4, hr4⟩ := hown.form
      have hjj : ¬ (j : Int) < (rs.length : Int) := by omega
      have hE6 := Lib.hid ((hgx.set0 (.slice av fs.length cv)).set1 (.slice a4 rs.length d4))
      have HF := Lib.hid (And.intro (World.ownsRow.mono (OwnsF.set (OwnsF.set hfo (Nat.lt_succ_self _) 0 (.slice av fs.length cv)) (Nat.lt_succ_self _) 1 (.slice a4 rs.length d4)) (show w.heap.size ≤ w.heap.size + 1 + 1 by omega)) (And.intro ((hown.setCell (g := w.heap.size + 1) (by omega) 0 (.slice av fs.length cv)).setCell (g := w.heap.size + 1) (by omega) 1 (.slice a4 rs.length d4)) ((hB.setCell (p := ⟨w.heap.size + 1, 0, none⟩) (Nat.le_succ _) (.slice av fs.length cv)).setCell (p := ⟨w.heap.size + 1, 1, none⟩) (Nat.le_succ _) (.slice a4 rs.length d4))))
      clear hfo hown hr4 hall htl hgx hpx hB
      go_wp2_with fail
      have hel' := hel
      clear z0 z1 zf0 zf1 zl e0 e1 ef0 ef1 hel
      obtain ⟨z0, z1, zf0, zf1, zl⟩ := hE6.out.facts
      refine bodyPost_ret (v := .agg #[.slice av fs.length cv, .slice a4 rs.length d4]) (by simp [results, Tryz.results57, go_sem, *]) rfl ?_
      exact ⟨_, _, _, rfl, HF.out.1, HF.out.2.1, by omega, by simp [World.setCell]; omega, fun g hg => by have := Hav.out g hg; omega, HF.out.2.2⟩
theorem l3Copy_any (a1 a2 : Option Addr) (n1 n2 c1 c2 : Nat) (fs : List Fl) (rs : List Ru) (w : World) (hf : FilesAt w w.heap.size a1 n1 fs) (hnil : a1 = none → n1 = 0 ∧ c1 = 0) (hn1 : n1 ≤ 1048576) (hr : RuAt w 0 w.heap.size rs a2 n2) (hN : rs.length + ruTot rs ≤ 1048577) :
    Calls Tryz.prog 57 #[.agg #[.slice a1 n1 c1, .slice a2 n2 c2]] w (CoS fs rs w) :=
  (l3Copy_z a1 a2 n1 n2 c1 c2 fs rs w hf hnil hn1 hr (ruZ_of hN)).mono fun _ _ h => h.weak
end Go.Proofs.YtceiafncpimihaaGreat
