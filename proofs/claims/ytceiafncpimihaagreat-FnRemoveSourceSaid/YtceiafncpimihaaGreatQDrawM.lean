/-
  l3Mutate: what it draws.
-/
import Derived.Test.YtceiafncpimihaaGreatQDrawR
import Derived.Test.YtceiafncpimihaaGreatGone
import Derived.Test.YtceiafncpimihaaGreatQCpS
import Derived.Test.YtceiafncpimihaaGreatGtwo
namespace Go.Proofs.YtceiafncpimihaaGreat
set_option linter.unusedVariables false
set_option linter.unusedSimpArgs false
open Go.RowKit

/-- the places of the trees that l3Copy made, held at one world -/
def KM (w3 : World) (base : Nat) (og : Option Nat) (ks : Fo) (a : Option Addr) : Prop := ∃ L1 B1, KP w3 L1 B1 ks a ks.len ∧ base ≤ L1 ∧ B1 ≤ w3.heap.size ∧ ∀ g, og = some g → g < L1 ∨ B1 ≤ g
/-- .. lie as they did where only that row, the reader and what is new have turned -/
theorem km_end {w3 V : World} {base : Nat} {og : Option Nat} {v : Value} {rs : List Ru} (h : OwnG (KM w3 base og) V base v rs) (hs : w3.heap.size ≤ V.heap.size) (hk : ∀ g, base ≤ g → g < w3.heap.size → og ≠ some g → V.heap[g]? = w3.heap[g]?) : RuO V base v rs :=
  h.imp fun ks a ⟨L1, B1, q1, q2, q3, q4⟩ => q1.keep q2 (by omega) fun g h1 h2 => hk g (by omega) (by omega) (fun e => by have := q4 g e; omega)

theorem strs4 {W : World} {g : Nat} {T : TypeId} (h : W.heap[g]? = some (.cells #[.string ⟨#[]⟩, .string ⟨#[90]⟩, .string ⟨#[122, 122]⟩, .string ⟨#[97]⟩] T (0, 0))) : StrsAt W (fun s => s.size ≤ 10) g 4 := StrsAt.of_block (Q := fun s => s.size ≤ 10) h (by simp; decide)
set_option maxRecDepth 100000 in
set_option maxHeartbeats 4000000 in
theorem pmut_any {n c p B R : Nat} {a : Option Addr} {w : World} (h : Rd w B R a n c p) (hp : p ≤ 850000000) (a1 a2 : Option Addr) (c1 c2 : Nat) (fs : List Fl) (rs : List Ru) (m z : Nat) (hf : FilesAt w w.heap.size a1 fs.length fs) (hnil : a1 = none → fs.length = 0 ∧ c1 = 0) (hr : RuAt w 0 w.heap.size rs a2 rs.length)
    (hsh : Short 10 fs) (hsm : RuSm z rs) (hl1 : fs.length ≤ m) (hl2 : rs.length ≤ m) (hm : m ≤ 1000) (hz : z ≤ 9000) :
    Calls Tryz.prog 26 #[.pointer (some ⟨R, 0, none⟩), .agg #[.slice a1 fs.length c1, .slice a2 rs.length c2]] w (ProjPost w B R a n c p 10 (m + 1) (z + 3)) := by
  have hR := h.lt
  have B0 := ((Below.refl w.heap.size w).alloc (Nat.le_refl _) (.cells #[.slice a1 fs.length c1, .slice a2 rs.length c2] 26)).alloc (by simp) (.cells #[.slice none 0 0, .slice none 0 0] 26)
  have h0 := ((Step.refl h).alloc (.cells #[.slice a1 fs.length c1, .slice a2 rs.length c2] 26)).alloc (.cells #[.slice none 0 0, .slice none 0 0] 26)
  have hP0 := (BxP.new w (.slice a1 fs.length c1) (.slice a2 rs.length c2) 26).alloc (.cells #[.slice none 0 0, .slice none 0 0] 26)
  have hr0 := BxP.new (w.alloc (.cells #[.slice a1 fs.length c1, .slice a2 rs.length c2] 26)) (.slice none 0 0) (.slice none 0 0) 26
  rw [World.size_alloc] at hr0
  have Hc := Lib.hid (l3Copy_z a1 a2 _ _ c1 c2 fs rs _ ((hf.below B0).more B0.size) hnil (by omega) (hr.next B0) ⟨by omega, fun x hx => by have := (hsm x hx).2.2.2; omega⟩)
  clear hf hr
  go_enter Tryz.func26, Tryz.ntmps26
  go_wp2_with fail
  refine Hc.out.mono ?_
  rintro e w3 ⟨v1, v2, b2, rfl, ho1, ho2, hb2, hb2', hv1, hB3⟩
  have hs3 := hB3.size
  simp only [World.size_alloc] at ho1 hb2 hs3
  have hst3 := h0.below hB3
  have hr3 := hr0.next hB3
  have ho2' := ho2.g hb2'
  have hv1' := World.ownsRow.lt ho1
  have hv2 := ho2.lt
  obtain ⟨b1, d1, rfl, hf1⟩ := ho1.form
  obtain ⟨a3, c3, rfl, hc3, hm3, _⟩ := ho2.form
  have hE := BxP.new w3 (.slice b1 fs.length d1) (.slice a3 rs.length c3) 26
  have hstE := hst3.alloc (.cells #[.slice b1 fs.length d1, .slice a3 rs.length c3] 26)
  have hrE := hr3.alloc (.cells #[.slice b1 fs.length d1, .slice a3 rs.length c3] 26)
  have hfE := ownsF_al ho1 (.cells #[.slice b1 fs.length d1, .slice a3 rs.length c3] 26)
  have hgE := ho2'.below ((Below.refl _ _).alloc (Nat.le_refl _) (.cells #[.slice b1 fs.length d1, .slice a3 rs.length c3] 26))
  clear Hc hP0 hr0 h0 B0 hB3 hf1 ho1 ho2 ho2' hst3 hr3
  go_upto_region 2 with (fail)
  generalize hW : w3.alloc (.cells #[.slice b1 fs.length d1, .slice a3 rs.length c3] 26) = W at *
  have hWs : w3.heap.size < W.heap.size := blk_lt hE
  have hWk : ∀ g : Nat, g < w3.heap.size → W.heap[g]? = w3.heap[g]? := fun g hg => by rw [← hW]; exact Below.heap_alloc _ _ _ hg
  clear hW
  obtain ⟨x0, x1, xf0, xf1, xl⟩ := hE.facts
  have hhE := hstE.hi
  go_wp2_with fail
  refine (pick_step (m := 60) hstE.rd (by omega) (by omega)).mono ?_
  rintro e w5 ⟨⟨y, rfl, _, _⟩, hst5⟩
  have he5 := bxP_step hE hst5 (by omega)
  have hr5 := bxP_step hrE hst5 (by omega)
  have hf5 := hfE.step (by omega) hst5
  have hg5 := OwnG.grown hgE hst5.grown (fun g e => by injection e with e; omega)
  have hs5 := hst5.grown.size
  have hk5 : ∀ g : Nat, b2 ≤ g → g < w3.heap.size → (Value.slice a3 rs.length c3).ownBlock ≠ some g → w5.heap[g]? = w3.heap[g]? := fun g h1 h2 _ => (hst5.grown.block g (by omega) (fun e => by injection e with e; omega)).trans (hWk g h2)
  have hst05 := hstE.trans hst5
  have hrl := hst05.rd.lt
  clear x0 x1 xf0 xf1 xl hE hrE hfE hgE hstE hst5 hWk
  obtain ⟨x0, x1, xf0, xf1, xl⟩ := he5.facts
  by_cases y0 : y = 0
  · subst y0
    obtain ⟨i0, hi, hz0, hzz1, hzz2⟩ := info_parts fput_info
    go_upto_region 15 with (at_builtin; refine wpList_append_own _ rfl _ _ 23 rfl (w.heap.size + 1 + 1) 28 i0 _ 2 32 Tryz.underlying23 hi hz0 hzz1 hzz2 rfl (by decide) _ _ _ rfl (World.ownsRow.alloc hf5 _) ⟨w5.heap.size, 0, none⟩ 1 1 [.string ⟨#[97]⟩, .string .empty] rfl rfl (two_new _ _ _ _) (by simp [Value.oneCell']) (by simp only [maxLen]; omega) (by omega) (by simp; omega) ?_; intro v6 w6 hown6 hgrow6 ho6; have h1 := OwnsF.grew hown6; obtain ⟨b6, d6, hv6, hf6⟩ := h1.form; rw [show (fs ++ [((⟨#[97]⟩ : ByteArray), ByteArray.empty)]).length = fs.length + 1 from by simp] at hv6; subst hv6; have he6 := bxP_grown (he5.alloc (.cells #[.string ⟨#[97]⟩, .string .empty] 28)) hgrow6 (fun e => by have := (hv1' _ e).2; omega); have hr6 := bxP_grown (hr5.alloc (.cells #[.string ⟨#[97]⟩, .string .empty] 28)) hgrow6 (fun e => by have := (hv1' _ e).1; omega); obtain ⟨u0, u1, uf0, uf1, ul⟩ := he6.facts)
    have hg6 := OwnG.grown (OwnG.below hg5 ((Below.refl _ _).alloc (Nat.le_refl _) (.cells #[.string ⟨#[97]⟩, .string .empty] 28))) hgrow6 (fun g e => .inl (hv1 g e))
    have hk6 : ∀ g : Nat, b2 ≤ g → g < w3.heap.size → (Value.slice a3 rs.length c3).ownBlock ≠ some g → w6.heap[g]? = w3.heap[g]? := fun g h1 h2 h3 => (hgrow6.block g (by simp; omega) (fun e => by have := hv1 g e.symm; omega)).trans ((Below.heap_alloc _ _ _ (by omega)).trans (hk5 g h1 h2 h3))
    have hs6 := hgrow6.size
    simp only [World.size_alloc] at hs6
    have hst6 := (hst05.alloc (.cells #[.string ⟨#[97]⟩, .string .empty] 28)).grew hgrow6 (fun g e => by have := hv1' g e; constructor <;> omega)
    have he7 := he6.set0 (.slice b6 (fs.length + 1) d6)
    have hr7 := hr6.other (g' := w3.heap.size) (by omega) 0 (.slice b6 (fs.length + 1) d6)
    have hg7 := OwnG.ne hg6 (grown_set (p := ⟨w3.heap.size, 0, none⟩) (World.grownBy.refl w6 _) (.inl rfl) (.slice b6 (fs.length + 1) d6)) (fun g e h => by have := (hv2 g e).2; have e' : w3.heap.size = g := Option.some.inj h; omega)
    have hf7 : OwnsF (w6.setCell ⟨w3.heap.size, 0, none⟩ (.slice b6 (fs.length + 1) d6)) (w.heap.size + 1 + 1) (.slice b6 (fs.length + 1) d6) (fs ++ [((⟨#[97]⟩ : ByteArray), ByteArray.empty)]) := ownsF_ne h1 (grown_set (p := ⟨w3.heap.size, 0, none⟩) (World.grownBy.refl w6 _) (.inl rfl) (.slice b6 (fs.length + 1) d6)) (fun g e h => by
      have e' : w3.heap.size = g := Option.some.inj h
      exact own_type (by unfold OwnsF at h1; exact h1) e (e' ▸ he6) (by decide))
    have hk7 : ∀ g : Nat, b2 ≤ g → g < w3.heap.size → (Value.slice a3 rs.length c3).ownBlock ≠ some g → (w6.setCell ⟨w3.heap.size, 0, none⟩ (.slice b6 (fs.length + 1) d6)).heap[g]? = w3.heap[g]? := fun g h1 h2 h3 => (Below.heap_setCell w6 _ _ g (by show g ≠ w3.heap.size; omega)).trans (hk6 g h1 h2 h3)
    have hst7 := hst6.setNew (g := w3.heap.size) (j := 0) (by omega) (.slice b6 (fs.length + 1) d6)
    have hsh7 : Short 10 (fs ++ [((⟨#[97]⟩ : ByteArray), ByteArray.empty)]) := hsh.snoc ⟨by decide, by decide⟩
    clear h1 hown6 hgrow6 hf6 hst6 hg6 hk6 he6 hr6 u0 u1 uf0 uf1 ul
    obtain ⟨u0, u1, uf0, uf1, ul⟩ := he7.facts
    obtain ⟨z0, z1, zf0, zf1, zl⟩ := hr7.facts
    have Hof := Lib.hid hf7
    have Hru := Lib.hid (RuO.mono (km_end hg7 (by simp [World.setCell]; omega) hk7) hb2)
    have Hst := Lib.hid hst7
    clear x0 x1 xf0 xf1 xl
    go_wp2_with fail
    refine bodyPost_ret (v := .agg #[.slice b6 (fs.length + 1) d6, .slice a3 rs.length c3]) (by simp [results, Tryz.results26, go_sem, *]) rfl ?_
    exact ⟨_, _, (fs ++ [((⟨#[97]⟩ : ByteArray), ByteArray.empty)]), rs, _, rfl, ownsF_mono (ownsF_set (ownsF_set Hof.out (by omega) 0 _) (by omega) 1 _) (by omega), ((Hru.out.setCell (by omega) 0 _).setCell (by omega) 1 _).mono (by omega), hsh7, by simp; omega, (fun x hx => by have := hsm x hx; exact ⟨this.1, this.2.1, this.2.2.1, by omega⟩), by omega, ((Hst.out.setNew (by omega) _).setNew (by omega) _).more (by omega)⟩
  have hy0 : ((y : Int) == 0) = false := by rw [beq_eq_false_iff_ne]; omega
  by_cases y1 : y = 1
  · subst y1
    by_cases hn0 : rs.length = 0
    · have hn : ¬ (0 : Int) < (rs.length : Int) := by omega
      obtain ⟨u0, u1, uf0, uf1, ul⟩ := he5.facts
      obtain ⟨z0, z1, zf0, zf1, zl⟩ := hr5.facts
      have Hof := Lib.hid hf5
      have Hru := Lib.hid (RuO.mono (km_end hg5 (by omega) hk5) hb2)
      have Hst := Lib.hid hst05
      clear x0 x1 xf0 xf1 xl
      go_wp2_with fail
      refine bodyPost_ret (v := .agg #[.slice b1 fs.length d1, .slice a3 rs.length c3]) (by simp [results, Tryz.results26, go_sem, *]) rfl ?_
      exact ⟨_, _, fs, rs, _, rfl, ownsF_mono (ownsF_set (ownsF_set Hof.out (by omega) 0 _) (by omega) 1 _) (by omega), ((Hru.out.setCell (by omega) 0 _).setCell (by omega) 1 _).mono (by omega), hsh, by omega, (fun x hx => by have := hsm x hx; exact ⟨this.1, this.2.1, this.2.2.1, by omega⟩), by omega, ((Hst.out.setNew (by omega) _).setNew (by omega) _).more (by omega)⟩
    have hn : (0 : Int) < (rs.length : Int) := by omega
    obtain ⟨g3, rfl, hbg, hgl, xs, how, hrow⟩ := hg5.row (by omega)
    obtain ⟨⟨t0, k0, s0, ks0⟩, hx0⟩ : ∃ x, rs[0]? = some x := ⟨_, List.getElem?_eq_getElem (by omega)⟩
    obtain ⟨a0, c0, q0, q1, q2, q3, hc0, hk0⟩ := rowG_get hrow hx0
    simp only [Nat.zero_mul, Nat.zero_add] at q0 q1 q2 q3
    have hg3 : g3 < w3.heap.size := (hv2 g3 rfl).2
    have r0 := (how.cellAt 0 (by omega)).trans q0
    have rf0 := how.frozenAt 0
    go_upto_region 8 with (fail)
    have HK0 := Lib.hid (show True from trivial)
    refine wp_region_held_drew (S := (fun _ => True)) (by kernel_rfl) HK0.out (fun hHeld => ?_)
    refine wpAnyH_take (i := 0) (oi := { dst := some 26, op := Op.fieldAddr 26 (Operand.tmp 5) 1, type := 0, pos := "l3_project.go:232", after := #[], guard := none }) (v := ?vq1_0) rfl (by kernel_rfl) (by kernel_rfl) (by kernel_rfl) (fun _ _ _ h => h) (Or.inl ⟨by rfl, ?hyq1_0⟩) (by assumption) ?_
    case hyq1_0 =>
      intro W hSW
      try dsimp only at hSW
      go_simp
      try with_reducible rfl
    try simp only [Act.put, List.setIfInBounds_toArray, List.set_cons_zero, List.set_cons_succ]
    refine wpAnyH_take (i := 2) (oi := { dst := some 28, op := Op.move (Operand.tmp 0), type := 53, pos := "l3_project.go:232", after := #[], guard := none }) (v := ?vq2_2) rfl (by kernel_rfl) (by kernel_rfl) (by kernel_rfl) (fun _ _ _ h => h) (Or.inl ⟨by rfl, ?hyq2_2⟩) (by assumption) ?_
    case hyq2_2 =>
      intro W hSW
      try dsimp only at hSW
      go_simp
      try with_reducible rfl
    try simp only [Act.put, List.setIfInBounds_toArray, List.set_cons_zero, List.set_cons_succ]
    refine wpAnyH_ready (rs := [1, 3]) (by kernel_rfl) (by simp) ?_
    refine AllReadyH.cons (o := { dst := some 27, op := Op.load 24 (Operand.tmp 26), type := 24, pos := "l3_project.go:232", after := #[{ on := 0, ground := Ground.data }], guard := none }) rfl (fun K hK => ?_) (AllReadyH.cons (o := { dst := some 29, op := Op.buildSlice 58 4 #[(0, Operand.const (Value.string { data := #[] })), (1, Operand.const (Value.string { data := #[90] })), (2, Operand.const (Value.string { data := #[122, 122] })), (3, Operand.const (Value.string { data := #[97] }))], type := 58, pos := "l3_project.go:232", after := #[], guard := none }) rfl (fun K hK => ?_) AllReadyH.nil)
    · go_simp
      clear hHeld
      try dsimp only
      refine hK.out _ _ trivial (fun hHeld => ?_)
      clear hK K
      try simp only [Act.put, List.setIfInBounds_toArray, List.set_cons_zero, List.set_cons_succ]
      refine wpAnyH_ready (rs := [3]) (by kernel_rfl) (by simp) ?_
      refine AllReadyH.cons (o := { dst := some 29, op := Op.buildSlice 58 4 #[(0, Operand.const (Value.string { data := #[] })), (1, Operand.const (Value.string { data := #[90] })), (2, Operand.const (Value.string { data := #[122, 122] })), (3, Operand.const (Value.string { data := #[97] }))], type := 58, pos := "l3_project.go:232", after := #[], guard := none }) rfl (fun K hK => ?_) AllReadyH.nil
      go_simp
      clear hHeld
      try dsimp only
      refine hK.out _ _ trivial (fun hHeld => ?_)
      clear hK K
      try simp only [Act.put, List.setIfInBounds_toArray, List.set_cons_zero, List.set_cons_succ]
      refine wpAnyH_ready (rs := [4]) (by kernel_rfl) (by simp) ?_
      refine AllReadyH.cons (o := { dst := some 30, op := Op.call { callee := Callee.value (Operand.func 28), args := #[Operand.tmp 28, Operand.tmp 29], argTypes := #[53, 58] }, type := 9, pos := "l3_project.go:232", after := #[{ on := 2, ground := Ground.data }, { on := 3, ground := Ground.data }], guard := none }) rfl (fun K hK => ?_) AllReadyH.nil
      go_simp
      refine Calls.mono (of_any (m := 4) (Q := fun s => s.size ≤ 10) (by first | exact (hst05.rd.alloc _).drewN 1 | exact (hst05.rd.drewN 1).alloc _ | exact hst05.rd.alloc _) (by have := hst05.hi; omega) (by omega) (by omega) (by first | omega | (simp; omega)) (by first | exact strs4 (heap_alloc_new w5 _) | exact strs4 (heap_alloc_new _ _))) ?_
      rintro e w6 ⟨⟨s1, rfl, hq1⟩, hst6⟩
      have hg6 : Step w5 w6 B R a n c (p + 1) _ (0 + 1) := (by first | exact (((Step.refl hst05.rd).alloc _).drewN 1).trans hst6 | exact (((Step.refl hst05.rd).drewN 1).alloc _).trans hst6 | exact ((Step.refl hst05.rd).alloc _).trans hst6)
      have hl6 := hg6.grown.size
      have he6 := bxP_step he5 hg6 (by omega)
      obtain ⟨y0', y1', yf0, yf1, yl⟩ := he6.facts
      have how6 := World.ownsRow.kept how hg6.grown (.inr (fun e => by simp [Value.ownBlock] at e; omega))
      have v0 := (how6.cellAt 0 (by omega)).trans q0
      have vf0 := how6.frozenAt 0
      clear hHeld
      try dsimp only
      refine hK.out _ _ trivial (fun hHeld => ?_)
      clear hK K
      try simp only [Act.put, List.setIfInBounds_toArray, List.set_cons_zero, List.set_cons_succ]
      refine wpAnyH_take (i := 5) (oi := { dst := some 31, op := Op.indexAddr 24 (Operand.tmp 27) (Operand.const (Value.int IntKind.i64 0)), type := 0, pos := "l3_project.go:232", after := #[{ on := 1, ground := Ground.data }, { on := 0, ground := Ground.phase }, { on := 1, ground := Ground.phase }, { on := 2, ground := Ground.phase }, { on := 3, ground := Ground.phase }, { on := 4, ground := Ground.phase }], guard := none }) (v := ?vq3_5) rfl (by kernel_rfl) (by kernel_rfl) (by kernel_rfl) (fun _ _ _ h => h) (Or.inl ⟨by rfl, ?hyq3_5⟩) (by assumption) ?_
      case hyq3_5 =>
        intro W hSW
        try dsimp only at hSW
        go_simp
        try with_reducible rfl
      try simp only [Act.put, List.setIfInBounds_toArray, List.set_cons_zero, List.set_cons_succ]
      refine wpAnyH_take (i := 6) (oi := { dst := some 32, op := Op.fieldAddr 45 (Operand.tmp 31) 0, type := 0, pos := "l3_project.go:232", after := #[{ on := 5, ground := Ground.data }, { on := 0, ground := Ground.phase }, { on := 1, ground := Ground.phase }, { on := 2, ground := Ground.phase }, { on := 3, ground := Ground.phase }, { on := 4, ground := Ground.phase }], guard := none }) (v := ?vq4_6) rfl (by kernel_rfl) (by kernel_rfl) (by kernel_rfl) (fun _ _ _ h => h) (Or.inl ⟨by rfl, ?hyq4_6⟩) (by assumption) ?_
      case hyq4_6 =>
        intro W hSW
        try dsimp only at hSW
        go_simp
        try with_reducible rfl
      try simp only [Act.put, List.setIfInBounds_toArray, List.set_cons_zero, List.set_cons_succ]
      refine wpAnyH_ready (rs := [7]) (by kernel_rfl) (by simp) ?_
      refine AllReadyH.cons (o := { dst := none, op := Op.store 9 (Operand.tmp 32) (Operand.tmp 30), type := 0, pos := "l3_project.go:232", after := #[{ on := 6, ground := Ground.data }, { on := 4, ground := Ground.data }, { on := 4, ground := Ground.chain }, { on := 0, ground := Ground.phase }, { on := 1, ground := Ground.phase }, { on := 2, ground := Ground.phase }, { on := 3, ground := Ground.phase }, { on := 4, ground := Ground.phase }], guard := none }) rfl (fun K hK => ?_) AllReadyH.nil
      go_simp
      clear hHeld
      try dsimp only
      refine hK.out _ _ trivial (fun hHeld => ?_)
      clear hK K
      try simp only [Act.put, List.setIfInBounds_toArray, List.set_cons_zero, List.set_cons_succ]
      refine wpAnyH_done (by kernel_rfl) ?_ _
      have Ht := Lib.hid (rowG_target (t' := s1) hrow hx0)
      simp only [Nat.zero_mul] at Ht
      have hs7 := World.size_setCell w6 ⟨g3, 0, none⟩ (.string s1)
      have hg7 : OwnG _ (w6.setCell ⟨g3, 0, none⟩ (.string s1)) b2 (.slice (some ⟨g3, 0, none⟩) rs.length c3) (rs.set 0 (s1, k0, s0, ks0)) := ⟨by omega, _, by rw [List.length_set]; exact (World.ownsRow.stored how6 0 (.string s1)).1, Ht.out⟩
      have he7 := he6.other (g' := g3) (by omega) 0 (.string s1)
      have hr7 := (bxP_step hr5 hg6 (by omega)).other (g' := g3) (by omega) 0 (.string s1)
      have hf6 := hf5.step (by omega) hg6
      have hf7 : OwnsF (w6.setCell ⟨g3, 0, none⟩ (.string s1)) (w.heap.size + 1 + 1) (.slice b1 fs.length d1) fs := ownsF_ne hf6 (grown_set (p := ⟨g3, 0, none⟩) (World.grownBy.refl w6 _) (.inl rfl) (.string s1)) (fun g e h => by
        have e' : g3 = g := Option.some.inj h
        have := hv1 _ e
        omega)
      have hk7 : ∀ g : Nat, b2 ≤ g → g < w3.heap.size → (Value.slice (some ⟨g3, 0, none⟩) rs.length c3).ownBlock ≠ some g → (w6.setCell ⟨g3, 0, none⟩ (.string s1)).heap[g]? = w3.heap[g]? := fun g h1 h2 h3 => (Below.heap_setCell w6 _ _ g (by rintro rfl; exact h3 rfl)).trans ((hg6.grown.block g (by omega) (fun e => by injection e with e; omega)).trans (hk5 g h1 h2 h3))
      have hst7 := (hst05.trans hg6).setNew (g := g3) (j := 0) (by omega) (.string s1)
      have hx0' := hsm _ (List.mem_of_getElem? hx0)
      have hsm7 : RuSm (z + 3) (rs.set 0 (s1, k0, s0, ks0)) := fun x hx => by
        rcases List.mem_or_eq_of_mem_set hx with h' | rfl
        · have := hsm x h'; exact ⟨this.1, this.2.1, this.2.2.1, by omega⟩
        · exact ⟨hq1, hx0'.2.1, hx0'.2.2.1, Nat.le_trans hx0'.2.2.2 (Nat.le_add_right _ _)⟩
      clear Ht hf6 y0' y1' yf0 yf1 yl how6 v0 vf0 r0 rf0
      obtain ⟨u0, u1, uf0, uf1, ul⟩ := he7.facts
      obtain ⟨z0, z1, zf0, zf1, zl⟩ := hr7.facts
      have Hof := Lib.hid hf7
      have Hru := Lib.hid (RuO.mono (km_end hg7 (by omega) hk7) hb2)
      have Hst := Lib.hid hst7
      clear x0 x1 xf0 xf1 xl
      go_wp2_with fail
      refine bodyPost_ret (v := .agg #[.slice b1 fs.length d1, .slice (some ⟨g3, 0, none⟩) rs.length c3]) (by simp [results, Tryz.results26, go_sem, *]) rfl ?_
      exact ⟨_, _, fs, (rs.set 0 (s1, k0, s0, ks0)), _, rfl, ownsF_mono (ownsF_set (ownsF_set Hof.out (by omega) 0 _) (by omega) 1 _) (by omega), ((Hru.out.setCell (by omega) 0 _).setCell (by omega) 1 _).mono (by omega), hsh, by omega, hsm7, by simp; omega, ((Hst.out.setNew (by omega) _).setNew (by omega) _).more (by omega)⟩
    · go_simp
      clear hHeld
      try dsimp only
      refine hK.out _ _ trivial (fun hHeld => ?_)
      clear hK K
      try simp only [Act.put, List.setIfInBounds_toArray, List.set_cons_zero, List.set_cons_succ]
      refine wpAnyH_ready (rs := [1, 4]) (by kernel_rfl) (by simp) ?_
      refine AllReadyH.cons (o := { dst := some 27, op := Op.load 24 (Operand.tmp 26), type := 24, pos := "l3_project.go:232", after := #[{ on := 0, ground := Ground.data }], guard := none }) rfl (fun K hK => ?_) (AllReadyH.cons (o := { dst := some 30, op := Op.call { callee := Callee.value (Operand.func 28), args := #[Operand.tmp 28, Operand.tmp 29], argTypes := #[53, 58] }, type := 9, pos := "l3_project.go:232", after := #[{ on := 2, ground := Ground.data }, { on := 3, ground := Ground.data }], guard := none }) rfl (fun K hK => ?_) AllReadyH.nil)
      · go_simp
        clear hHeld
        try dsimp only
        refine hK.out _ _ trivial (fun hHeld => ?_)
        clear hK K
        try simp only [Act.put, List.setIfInBounds_toArray, List.set_cons_zero, List.set_cons_succ]
        refine wpAnyH_ready (rs := [4]) (by kernel_rfl) (by simp) ?_
        refine AllReadyH.cons (o := { dst := some 30, op := Op.call { callee := Callee.value (Operand.func 28), args := #[Operand.tmp 28, Operand.tmp 29], argTypes := #[53, 58] }, type := 9, pos := "l3_project.go:232", after := #[{ on := 2, ground := Ground.data }, { on := 3, ground := Ground.data }], guard := none }) rfl (fun K hK => ?_) AllReadyH.nil
        go_simp
        refine Calls.mono (of_any (m := 4) (Q := fun s => s.size ≤ 10) (by first | exact (hst05.rd.alloc _).drewN 1 | exact (hst05.rd.drewN 1).alloc _ | exact hst05.rd.alloc _) (by have := hst05.hi; omega) (by omega) (by omega) (by first | omega | (simp; omega)) (by first | exact strs4 (heap_alloc_new w5 _) | exact strs4 (heap_alloc_new _ _))) ?_
        rintro e w6 ⟨⟨s1, rfl, hq1⟩, hst6⟩
        have hg6 : Step w5 w6 B R a n c (p + 1) _ (0 + 1) := (by first | exact (((Step.refl hst05.rd).alloc _).drewN 1).trans hst6 | exact (((Step.refl hst05.rd).drewN 1).alloc _).trans hst6 | exact ((Step.refl hst05.rd).alloc _).trans hst6)
        have hl6 := hg6.grown.size
        have he6 := bxP_step he5 hg6 (by omega)
        obtain ⟨y0', y1', yf0, yf1, yl⟩ := he6.facts
        have how6 := World.ownsRow.kept how hg6.grown (.inr (fun e => by simp [Value.ownBlock] at e; omega))
        have v0 := (how6.cellAt 0 (by omega)).trans q0
        have vf0 := how6.frozenAt 0
        clear hHeld
        try dsimp only
        refine hK.out _ _ trivial (fun hHeld => ?_)
        clear hK K
        try simp only [Act.put, List.setIfInBounds_toArray, List.set_cons_zero, List.set_cons_succ]
        refine wpAnyH_take (i := 5) (oi := { dst := some 31, op := Op.indexAddr 24 (Operand.tmp 27) (Operand.const (Value.int IntKind.i64 0)), type := 0, pos := "l3_project.go:232", after := #[{ on := 1, ground := Ground.data }, { on := 0, ground := Ground.phase }, { on := 1, ground := Ground.phase }, { on := 2, ground := Ground.phase }, { on := 3, ground := Ground.phase }, { on := 4, ground := Ground.phase }], guard := none }) (v := ?vq5_5) rfl (by kernel_rfl) (by kernel_rfl) (by kernel_rfl) (fun _ _ _ h => h) (Or.inl ⟨by rfl, ?hyq5_5⟩) (by assumption) ?_
        case hyq5_5 =>
          intro W hSW
          try dsimp only at hSW
          go_simp
          try with_reducible rfl
        try simp only [Act.put, List.setIfInBounds_toArray, List.set_cons_zero, List.set_cons_succ]
        refine wpAnyH_take (i := 6) (oi := { dst := some 32, op := Op.fieldAddr 45 (Operand.tmp 31) 0, type := 0, pos := "l3_project.go:232", after := #[{ on := 5, ground := Ground.data }, { on := 0, ground := Ground.phase }, { on := 1, ground := Ground.phase }, { on := 2, ground := Ground.phase }, { on := 3, ground := Ground.phase }, { on := 4, ground := Ground.phase }], guard := none }) (v := ?vq6_6) rfl (by kernel_rfl) (by kernel_rfl) (by kernel_rfl) (fun _ _ _ h => h) (Or.inl ⟨by rfl, ?hyq6_6⟩) (by assumption) ?_
        case hyq6_6 =>
          intro W hSW
          try dsimp only at hSW
          go_simp
          try with_reducible rfl
        try simp only [Act.put, List.setIfInBounds_toArray, List.set_cons_zero, List.set_cons_succ]
        refine wpAnyH_ready (rs := [7]) (by kernel_rfl) (by simp) ?_
        refine AllReadyH.cons (o := { dst := none, op := Op.store 9 (Operand.tmp 32) (Operand.tmp 30), type := 0, pos := "l3_project.go:232", after := #[{ on := 6, ground := Ground.data }, { on := 4, ground := Ground.data }, { on := 4, ground := Ground.chain }, { on := 0, ground := Ground.phase }, { on := 1, ground := Ground.phase }, { on := 2, ground := Ground.phase }, { on := 3, ground := Ground.phase }, { on := 4, ground := Ground.phase }], guard := none }) rfl (fun K hK => ?_) AllReadyH.nil
        go_simp
        clear hHeld
        try dsimp only
        refine hK.out _ _ trivial (fun hHeld => ?_)
        clear hK K
        try simp only [Act.put, List.setIfInBounds_toArray, List.set_cons_zero, List.set_cons_succ]
        refine wpAnyH_done (by kernel_rfl) ?_ _
        have Ht := Lib.hid (rowG_target (t' := s1) hrow hx0)
        simp only [Nat.zero_mul] at Ht
        have hs7 := World.size_setCell w6 ⟨g3, 0, none⟩ (.string s1)
        have hg7 : OwnG _ (w6.setCell ⟨g3, 0, none⟩ (.string s1)) b2 (.slice (some ⟨g3, 0, none⟩) rs.length c3) (rs.set 0 (s1, k0, s0, ks0)) := ⟨by omega, _, by rw [List.length_set]; exact (World.ownsRow.stored how6 0 (.string s1)).1, Ht.out⟩
        have he7 := he6.other (g' := g3) (by omega) 0 (.string s1)
        have hr7 := (bxP_step hr5 hg6 (by omega)).other (g' := g3) (by omega) 0 (.string s1)
        have hf6 := hf5.step (by omega) hg6
        have hf7 : OwnsF (w6.setCell ⟨g3, 0, none⟩ (.string s1)) (w.heap.size + 1 + 1) (.slice b1 fs.length d1) fs := ownsF_ne hf6 (grown_set (p := ⟨g3, 0, none⟩) (World.grownBy.refl w6 _) (.inl rfl) (.string s1)) (fun g e h => by
          have e' : g3 = g := Option.some.inj h
          have := hv1 _ e
          omega)
        have hk7 : ∀ g : Nat, b2 ≤ g → g < w3.heap.size → (Value.slice (some ⟨g3, 0, none⟩) rs.length c3).ownBlock ≠ some g → (w6.setCell ⟨g3, 0, none⟩ (.string s1)).heap[g]? = w3.heap[g]? := fun g h1 h2 h3 => (Below.heap_setCell w6 _ _ g (by rintro rfl; exact h3 rfl)).trans ((hg6.grown.block g (by omega) (fun e => by injection e with e; omega)).trans (hk5 g h1 h2 h3))
        have hst7 := (hst05.trans hg6).setNew (g := g3) (j := 0) (by omega) (.string s1)
        have hx0' := hsm _ (List.mem_of_getElem? hx0)
        have hsm7 : RuSm (z + 3) (rs.set 0 (s1, k0, s0, ks0)) := fun x hx => by
          rcases List.mem_or_eq_of_mem_set hx with h' | rfl
          · have := hsm x h'; exact ⟨this.1, this.2.1, this.2.2.1, by omega⟩
          · exact ⟨hq1, hx0'.2.1, hx0'.2.2.1, Nat.le_trans hx0'.2.2.2 (Nat.le_add_right _ _)⟩
        clear Ht hf6 y0' y1' yf0 yf1 yl how6 v0 vf0 r0 rf0
        obtain ⟨u0, u1, uf0, uf1, ul⟩ := he7.facts
        obtain ⟨z0, z1, zf0, zf1, zl⟩ := hr7.facts
        have Hof := Lib.hid hf7
        have Hru := Lib.hid (RuO.mono (km_end hg7 (by omega) hk7) hb2)
        have Hst := Lib.hid hst7
        clear x0 x1 xf0 xf1 xl
        go_wp2_with fail
        refine bodyPost_ret (v := .agg #[.slice b1 fs.length d1, .slice (some ⟨g3, 0, none⟩) rs.length c3]) (by simp [results, Tryz.results26, go_sem, *]) rfl ?_
        exact ⟨_, _, fs, (rs.set 0 (s1, k0, s0, ks0)), _, rfl, ownsF_mono (ownsF_set (ownsF_set Hof.out (by omega) 0 _) (by omega) 1 _) (by omega), ((Hru.out.setCell (by omega) 0 _).setCell (by omega) 1 _).mono (by omega), hsh, by omega, hsm7, by simp; omega, ((Hst.out.setNew (by omega) _).setNew (by omega) _).more (by omega)⟩
      · go_simp
        refine Calls.mono (of_any (m := 4) (Q := fun s => s.size ≤ 10) (by first | exact (hst05.rd.alloc _).drewN 1 | exact (hst05.rd.drewN 1).alloc _ | exact hst05.rd.alloc _) (by have := hst05.hi; omega) (by omega) (by omega) (by first | omega | (simp; omega)) (by first | exact strs4 (heap_alloc_new w5 _) | exact strs4 (heap_alloc_new _ _))) ?_
        rintro e w6 ⟨⟨s1, rfl, hq1⟩, hst6⟩
        have hg6 : Step w5 w6 B R a n c (p + 1) _ (0 + 1) := (by first | exact (((Step.refl hst05.rd).alloc _).drewN 1).trans hst6 | exact (((Step.refl hst05.rd).drewN 1).alloc _).trans hst6 | exact ((Step.refl hst05.rd).alloc _).trans hst6)
        have hl6 := hg6.grown.size
        have he6 := bxP_step he5 hg6 (by omega)
        obtain ⟨y0', y1', yf0, yf1, yl⟩ := he6.facts
        have how6 := World.ownsRow.kept how hg6.grown (.inr (fun e => by simp [Value.ownBlock] at e; omega))
        have v0 := (how6.cellAt 0 (by omega)).trans q0
        have vf0 := how6.frozenAt 0
        clear hHeld
        try dsimp only
        refine hK.out _ _ trivial (fun hHeld => ?_)
        clear hK K
        try simp only [Act.put, List.setIfInBounds_toArray, List.set_cons_zero, List.set_cons_succ]
        refine wpAnyH_ready (rs := [1]) (by kernel_rfl) (by simp) ?_
        refine AllReadyH.cons (o := { dst := some 27, op := Op.load 24 (Operand.tmp 26), type := 24, pos := "l3_project.go:232", after := #[{ on := 0, ground := Ground.data }], guard := none }) rfl (fun K hK => ?_) AllReadyH.nil
        go_simp
        clear hHeld
        try dsimp only
        refine hK.out _ _ trivial (fun hHeld => ?_)
        clear hK K
        try simp only [Act.put, List.setIfInBounds_toArray, List.set_cons_zero, List.set_cons_succ]
        refine wpAnyH_take (i := 5) (oi := { dst := some 31, op := Op.indexAddr 24 (Operand.tmp 27) (Operand.const (Value.int IntKind.i64 0)), type := 0, pos := "l3_project.go:232", after := #[{ on := 1, ground := Ground.data }, { on := 0, ground := Ground.phase }, { on := 1, ground := Ground.phase }, { on := 2, ground := Ground.phase }, { on := 3, ground := Ground.phase }, { on := 4, ground := Ground.phase }], guard := none }) (v := ?vq7_5) rfl (by kernel_rfl) (by kernel_rfl) (by kernel_rfl) (fun _ _ _ h => h) (Or.inl ⟨by rfl, ?hyq7_5⟩) (by assumption) ?_
        case hyq7_5 =>
          intro W hSW
          try dsimp only at hSW
          go_simp
          try with_reducible rfl
        try simp only [Act.put, List.setIfInBounds_toArray, List.set_cons_zero, List.set_cons_succ]
        refine wpAnyH_take (i := 6) (oi := { dst := some 32, op := Op.fieldAddr 45 (Operand.tmp 31) 0, type := 0, pos := "l3_project.go:232", after := #[{ on := 5, ground := Ground.data }, { on := 0, ground := Ground.phase }, { on := 1, ground := Ground.phase }, { on := 2, ground := Ground.phase }, { on := 3, ground := Ground.phase }, { on := 4, ground := Ground.phase }], guard := none }) (v := ?vq8_6) rfl (by kernel_rfl) (by kernel_rfl) (by kernel_rfl) (fun _ _ _ h => h) (Or.inl ⟨by rfl, ?hyq8_6⟩) (by assumption) ?_
        case hyq8_6 =>
          intro W hSW
          try dsimp only at hSW
          go_simp
          try with_reducible rfl
        try simp only [Act.put, List.setIfInBounds_toArray, List.set_cons_zero, List.set_cons_succ]
        refine wpAnyH_ready (rs := [7]) (by kernel_rfl) (by simp) ?_
        refine AllReadyH.cons (o := { dst := none, op := Op.store 9 (Operand.tmp 32) (Operand.tmp 30), type := 0, pos := "l3_project.go:232", after := #[{ on := 6, ground := Ground.data }, { on := 4, ground := Ground.data }, { on := 4, ground := Ground.chain }, { on := 0, ground := Ground.phase }, { on := 1, ground := Ground.phase }, { on := 2, ground := Ground.phase }, { on := 3, ground := Ground.phase }, { on := 4, ground := Ground.phase }], guard := none }) rfl (fun K hK => ?_) AllReadyH.nil
        go_simp
        clear hHeld
        try dsimp only
        refine hK.out _ _ trivial (fun hHeld => ?_)
        clear hK K
        try simp only [Act.put, List.setIfInBounds_toArray, List.set_cons_zero, List.set_cons_succ]
        refine wpAnyH_done (by kernel_rfl) ?_ _
        have Ht := Lib.hid (rowG_target (t' := s1) hrow hx0)
        simp only [Nat.zero_mul] at Ht
        have hs7 := World.size_setCell w6 ⟨g3, 0, none⟩ (.string s1)
        have hg7 : OwnG _ (w6.setCell ⟨g3, 0, none⟩ (.string s1)) b2 (.slice (some ⟨g3, 0, none⟩) rs.length c3) (rs.set 0 (s1, k0, s0, ks0)) := ⟨by omega, _, by rw [List.length_set]; exact (World.ownsRow.stored how6 0 (.string s1)).1, Ht.out⟩
        have he7 := he6.other (g' := g3) (by omega) 0 (.string s1)
        have hr7 := (bxP_step hr5 hg6 (by omega)).other (g' := g3) (by omega) 0 (.string s1)
        have hf6 := hf5.step (by omega) hg6
        have hf7 : OwnsF (w6.setCell ⟨g3, 0, none⟩ (.string s1)) (w.heap.size + 1 + 1) (.slice b1 fs.length d1) fs := ownsF_ne hf6 (grown_set (p := ⟨g3, 0, none⟩) (World.grownBy.refl w6 _) (.inl rfl) (.string s1)) (fun g e h => by
          have e' : g3 = g := Option.some.inj h
          have := hv1 _ e
          omega)
        have hk7 : ∀ g : Nat, b2 ≤ g → g < w3.heap.size → (Value.slice (some ⟨g3, 0, none⟩) rs.length c3).ownBlock ≠ some g → (w6.setCell ⟨g3, 0, none⟩ (.string s1)).heap[g]? = w3.heap[g]? := fun g h1 h2 h3 => (Below.heap_setCell w6 _ _ g (by rintro rfl; exact h3 rfl)).trans ((hg6.grown.block g (by omega) (fun e => by injection e with e; omega)).trans (hk5 g h1 h2 h3))
        have hst7 := (hst05.trans hg6).setNew (g := g3) (j := 0) (by omega) (.string s1)
        have hx0' := hsm _ (List.mem_of_getElem? hx0)
        have hsm7 : RuSm (z + 3) (rs.set 0 (s1, k0, s0, ks0)) := fun x hx => by
          rcases List.mem_or_eq_of_mem_set hx with h' | rfl
          · have := hsm x h'; exact ⟨this.1, this.2.1, this.2.2.1, by omega⟩
          · exact ⟨hq1, hx0'.2.1, hx0'.2.2.1, Nat.le_trans hx0'.2.2.2 (Nat.le_add_right _ _)⟩
        clear Ht hf6 y0' y1' yf0 yf1 yl how6 v0 vf0 r0 rf0
        obtain ⟨u0, u1, uf0, uf1, ul⟩ := he7.facts
        obtain ⟨z0, z1, zf0, zf1, zl⟩ := hr7.facts
        have Hof := Lib.hid hf7
        have Hru := Lib.hid (RuO.mono (km_end hg7 (by omega) hk7) hb2)
        have Hst := Lib.hid hst7
        clear x0 x1 xf0 xf1 xl
        go_wp2_with fail
        refine bodyPost_ret (v := .agg #[.slice b1 fs.length d1, .slice (some ⟨g3, 0, none⟩) rs.length c3]) (by simp [results, Tryz.results26, go_sem, *]) rfl ?_
        exact ⟨_, _, fs, (rs.set 0 (s1, k0, s0, ks0)), _, rfl, ownsF_mono (ownsF_set (ownsF_set Hof.out (by omega) 0 _) (by omega) 1 _) (by omega), ((Hru.out.setCell (by omega) 0 _).setCell (by omega) 1 _).mono (by omega), hsh, by omega, hsm7, by simp; omega, ((Hst.out.setNew (by omega) _).setNew (by omega) _).more (by omega)⟩
  have hy1 : ((y : Int) == 1) = false := by rw [beq_eq_false_iff_ne]; omega
  by_cases y2 : y = 2
  · subst y2
    by_cases hn0 : rs.length = 0
    · have hn : ¬ (0 : Int) < (rs.length : Int) := by omega
      obtain ⟨u0, u1, uf0, uf1, ul⟩ := he5.facts
      obtain ⟨z0, z1, zf0, zf1, zl⟩ := hr5.facts
      have Hof := Lib.hid hf5
      have Hru := Lib.hid (RuO.mono (km_end hg5 (by omega) hk5) hb2)
      have Hst := Lib.hid hst05
      clear x0 x1 xf0 xf1 xl
      go_wp2_with fail
      refine bodyPost_ret (v := .agg #[.slice b1 fs.length d1, .slice a3 rs.length c3]) (by simp [results, Tryz.results26, go_sem, *]) rfl ?_
      exact ⟨_, _, fs, rs, _, rfl, ownsF_mono (ownsF_set (ownsF_set Hof.out (by omega) 0 _) (by omega) 1 _) (by omega), ((Hru.out.setCell (by omega) 0 _).setCell (by omega) 1 _).mono (by omega), hsh, by omega, (fun x hx => by have := hsm x hx; exact ⟨this.1, this.2.1, this.2.2.1, by omega⟩), by omega, ((Hst.out.setNew (by omega) _).setNew (by omega) _).more (by omega)⟩
    have hn : (0 : Int) < (rs.length : Int) := by omega
    obtain ⟨g3, rfl, hbg, hgl, xs, how, hrow⟩ := hg5.row (by omega)
    obtain ⟨l, hl⟩ : ∃ l, rs.length = l + 1 := ⟨rs.length - 1, by omega⟩
    obtain ⟨⟨t0, k0, s0, ks0⟩, hx0⟩ : ∃ x, rs[l]? = some x := ⟨_, List.getElem?_eq_getElem (by omega)⟩
    obtain ⟨a0, c0, q0, q1, q2, q3, hc0, hk0⟩ := rowG_get hrow hx0
    have hg3 : g3 < w3.heap.size := (hv2 g3 rfl).2
    have r1 := (how.cellAt (l * 4 + 1) (by omega)).trans q1
    have r2 := (how.cellAt (l * 4 + 2) (by omega)).trans q2
    have r3 := (how.cellAt (l * 4 + 3) (by omega)).trans q3
    have hj1 : IntKind.i64.wrap ((rs.length : Int) - 1) = (l : Int) := by rw [show (rs.length : Int) - 1 = (l : Int) from by omega]; exact IntWalk.i64_in _ (by omega)
    have hj3 : (l : Int) < (rs.length : Int) := by omega
    have hj4 : l < rs.length := by omega
    have hxs := hsm _ (List.mem_of_getElem? hx0)
    have hka : KA w5 0 w5.heap.size ks0 a0 ks0.len := by
      obtain ⟨L1, B1, p1, p2, p3, p4⟩ := hk0
      exact (p1.keep (L' := 0) (B' := w5.heap.size) (Nat.zero_le _) (by omega) (fun g h1 h2 => hk5 g (by omega) (by omega) (fun e => by have := p4 g e; omega))).1
    obtain ⟨-, hs0, hf0, hz0⟩ := hxs
    have h05 := hst05.hi
    clear hl
    go_upto_region 11 with (fail)
    have HK0 := Lib.hid (show True from trivial)
    refine wp_region_held_drew (S := (fun _ => True)) (by kernel_rfl) HK0.out (fun hHeld => ?_)
    refine wpAnyH_take (i := 0) (oi := { dst := some 37, op := Op.fieldAddr 26 (Operand.tmp 5) 1, type := 0, pos := "l3_project.go:236", after := #[], guard := none }) (v := ?vq17_0) rfl (by kernel_rfl) (by kernel_rfl) (by kernel_rfl) (fun _ _ _ h => h) (Or.inl ⟨by rfl, ?hyq17_0⟩) (by assumption) ?_
    case hyq17_0 =>
      intro W hSW
      try dsimp only at hSW
      go_simp
      try with_reducible rfl
    try simp only [Act.put, List.setIfInBounds_toArray, List.set_cons_zero, List.set_cons_succ]
    refine wpAnyH_take (i := 2) (oi := { dst := some 39, op := Op.move (Operand.tmp 6), type := 3, pos := "l3_project.go:236", after := #[], guard := none }) (v := ?vq18_2) rfl (by kernel_rfl) (by kernel_rfl) (by kernel_rfl) (fun _ _ _ h => h) (Or.inl ⟨by rfl, ?hyq18_2⟩) (by assumption) ?_
    case hyq18_2 =>
      intro W hSW
      try dsimp only at hSW
      go_simp
      try with_reducible rfl
    try simp only [Act.put, List.setIfInBounds_toArray, List.set_cons_zero, List.set_cons_succ]
    refine wpAnyH_take (i := 4) (oi := { dst := some 41, op := Op.move (Operand.tmp 0), type := 53, pos := "l3_project.go:236", after := #[], guard := none }) (v := ?vq19_4) rfl (by kernel_rfl) (by kernel_rfl) (by kernel_rfl) (fun _ _ _ h => h) (Or.inl ⟨by rfl, ?hyq19_4⟩) (by assumption) ?_
    case hyq19_4 =>
      intro W hSW
      try dsimp only at hSW
      go_simp
      try with_reducible rfl
    try simp only [Act.put, List.setIfInBounds_toArray, List.set_cons_zero, List.set_cons_succ]
    refine wpAnyH_take (i := 5) (oi := { dst := some 42, op := Op.move (Operand.tmp 0), type := 53, pos := "l3_project.go:236", after := #[], guard := none }) (v := ?vq20_5) rfl (by kernel_rfl) (by kernel_rfl) (by kernel_rfl) (fun _ _ _ h => h) (Or.inl ⟨by rfl, ?hyq20_5⟩) (by assumption) ?_
    case hyq20_5 =>
      intro W hSW
      try dsimp only at hSW
      go_simp
      try with_reducible rfl
    try simp only [Act.put, List.setIfInBounds_toArray, List.set_cons_zero, List.set_cons_succ]
    refine wpAnyH_take (i := 6) (oi := { dst := some 43, op := Op.move (Operand.tmp 0), type := 53, pos := "l3_project.go:236", after := #[], guard := none }) (v := ?vq21_6) rfl (by kernel_rfl) (by kernel_rfl) (by kernel_rfl) (fun _ _ _ h => h) (Or.inl ⟨by rfl, ?hyq21_6⟩) (by assumption) ?_
    case hyq21_6 =>
      intro W hSW
      try dsimp only at hSW
      go_simp
      try with_reducible rfl
    try simp only [Act.put, List.setIfInBounds_toArray, List.set_cons_zero, List.set_cons_succ]
    refine wpAnyH_take (i := 7) (oi := { dst := some 44, op := Op.fieldAddr 26 (Operand.tmp 5) 1, type := 0, pos := "l3_project.go:236", after := #[], guard := none }) (v := ?vq22_7) rfl (by kernel_rfl) (by kernel_rfl) (by kernel_rfl) (fun _ _ _ h => h) (Or.inl ⟨by rfl, ?hyq22_7⟩) (by assumption) ?_
    case hyq22_7 =>
      intro W hSW
      try dsimp only at hSW
      go_simp
      try with_reducible rfl
    try simp only [Act.put, List.setIfInBounds_toArray, List.set_cons_zero, List.set_cons_succ]
    refine wpAnyH_take (i := 9) (oi := { dst := some 46, op := Op.move (Operand.tmp 6), type := 3, pos := "l3_project.go:236", after := #[], guard := none }) (v := ?vq23_9) rfl (by kernel_rfl) (by kernel_rfl) (by kernel_rfl) (fun _ _ _ h => h) (Or.inl ⟨by rfl, ?hyq23_9⟩) (by assumption) ?_
    case hyq23_9 =>
      intro W hSW
      try dsimp only at hSW
      go_simp
      try with_reducible rfl
    try simp only [Act.put, List.setIfInBounds_toArray, List.set_cons_zero, List.set_cons_succ]
    refine wpAnyH_take (i := 3) (oi := { dst := some 40, op := Op.binOp BinOp.sub 3 (Operand.tmp 39) (Operand.const (Value.int IntKind.i64 1)) 3, type := 3, pos := "l3_project.go:236", after := #[{ on := 2, ground := Ground.data }], guard := none }) (v := ?vq24_3) rfl (by kernel_rfl) (by kernel_rfl) (by kernel_rfl) (fun _ _ _ h => h) (Or.inl ⟨by rfl, ?hyq24_3⟩) (by assumption) ?_
    case hyq24_3 =>
      intro W hSW
      try dsimp only at hSW
      go_simp
      try with_reducible rfl
    try simp only [Act.put, List.setIfInBounds_toArray, List.set_cons_zero, List.set_cons_succ]
    refine wpAnyH_take (i := 10) (oi := { dst := some 47, op := Op.binOp BinOp.sub 3 (Operand.tmp 46) (Operand.const (Value.int IntKind.i64 1)) 3, type := 3, pos := "l3_project.go:236", after := #[{ on := 9, ground := Ground.data }], guard := none }) (v := ?vq25_10) rfl (by kernel_rfl) (by kernel_rfl) (by kernel_rfl) (fun _ _ _ h => h) (Or.inl ⟨by rfl, ?hyq25_10⟩) (by assumption) ?_
    case hyq25_10 =>
      intro W hSW
      try dsimp only at hSW
      go_simp
      try with_reducible rfl
    try simp only [Act.put, List.setIfInBounds_toArray, List.set_cons_zero, List.set_cons_succ]
    refine wpAnyH_ready (rs := [1, 8]) (by kernel_rfl) (by simp) ?_
    refine AllReadyH.cons (o := { dst := some 38, op := Op.load 24 (Operand.tmp 37), type := 24, pos := "l3_project.go:236", after := #[{ on := 0, ground := Ground.data }], guard := none }) rfl (fun K hK => ?_) (AllReadyH.cons (o := { dst := some 45, op := Op.load 24 (Operand.tmp 44), type := 24, pos := "l3_project.go:236", after := #[{ on := 7, ground := Ground.data }], guard := none }) rfl (fun K hK => ?_) AllReadyH.nil)
    · go_simp
      clear hHeld
      try dsimp only
      refine hK.out _ _ trivial (fun hHeld => ?_)
      clear hK K
      try simp only [Act.put, List.setIfInBounds_toArray, List.set_cons_zero, List.set_cons_succ]
      refine wpAnyH_ready (rs := [8]) (by kernel_rfl) (by simp) ?_
      refine AllReadyH.cons (o := { dst := some 45, op := Op.load 24 (Operand.tmp 44), type := 24, pos := "l3_project.go:236", after := #[{ on := 7, ground := Ground.data }], guard := none }) rfl (fun K hK => ?_) AllReadyH.nil
      go_simp
      clear hHeld
      try dsimp only
      refine hK.out _ _ trivial (fun hHeld => ?_)
      clear hK K
      try simp only [Act.put, List.setIfInBounds_toArray, List.set_cons_zero, List.set_cons_succ]
      refine wpAnyH_take (i := 11) (oi := { dst := some 48, op := Op.indexAddr 24 (Operand.tmp 45) (Operand.tmp 47), type := 0, pos := "l3_project.go:236", after := #[{ on := 8, ground := Ground.data }, { on := 10, ground := Ground.data }], guard := none }) (v := ?vq26_11) rfl (by kernel_rfl) (by kernel_rfl) (by kernel_rfl) (fun _ _ _ h => h) (Or.inl ⟨by rfl, ?hyq26_11⟩) (by assumption) ?_
      case hyq26_11 =>
        intro W hSW
        try dsimp only at hSW
        go_simp
        try with_reducible rfl
      try simp only [Act.put, List.setIfInBounds_toArray, List.set_cons_zero, List.set_cons_succ]
      refine wpAnyH_take (i := 12) (oi := { dst := some 49, op := Op.fieldAddr 45 (Operand.tmp 48) 1, type := 0, pos := "l3_project.go:236", after := #[{ on := 11, ground := Ground.data }], guard := none }) (v := ?vq27_12) rfl (by kernel_rfl) (by kernel_rfl) (by kernel_rfl) (fun _ _ _ h => h) (Or.inl ⟨by rfl, ?hyq27_12⟩) (by assumption) ?_
      case hyq27_12 =>
        intro W hSW
        try dsimp only at hSW
        go_simp
        try with_reducible rfl
      try simp only [Act.put, List.setIfInBounds_toArray, List.set_cons_zero, List.set_cons_succ]
      refine wpAnyH_ready (rs := [13]) (by kernel_rfl) (by simp) ?_
      refine AllReadyH.cons (o := { dst := some 50, op := Op.load 43 (Operand.tmp 49), type := 43, pos := "l3_project.go:236", after := #[{ on := 12, ground := Ground.data }], guard := none }) rfl (fun K hK => ?_) AllReadyH.nil
      go_simp
      clear hHeld
      try dsimp only
      refine hK.out _ _ trivial (fun hHeld => ?_)
      clear hK K
      try simp only [Act.put, List.setIfInBounds_toArray, List.set_cons_zero, List.set_cons_succ]
      refine wpAnyH_ready (rs := [14]) (by kernel_rfl) (by simp) ?_
      refine AllReadyH.cons (o := { dst := some 51, op := Op.call { callee := Callee.value (Operand.func 46), args := #[Operand.tmp 43, Operand.tmp 50], argTypes := #[53, 43] }, type := 43, pos := "l3_project.go:236", after := #[{ on := 6, ground := Ground.data }, { on := 13, ground := Ground.data }], guard := none }) rfl (fun K hK => ?_) AllReadyH.nil
      go_simp
      refine Calls.mono (mut_gen (z) (by omega) (by first | exact hst05.rd.drewN 1 | exact hst05.rd) (by omega) k0 s0 ks0 a0 ks0.len c0 (by first | exact hka | exact hka.keep (Nat.le_refl _) (Nat.le_refl _) (fun _ _ _ => rfl)) hc0 hs0 hf0 hz0) ?_
      rintro e w6 ⟨k6, s6, v6, ks6, q6, rfl, hown6, hs6, hf6, hz6, hst6⟩
      obtain ⟨a6, c6, rfl, hc6, _, hkp6⟩ := hown6.form
      have hg6 : Step w5 w6 B R a n c (p + 1) _ (0 + 2) := (by first | exact ((Step.refl hst05.rd).drewN 1).trans hst6 | exact (Step.refl hst05.rd).trans hst6)
      have hl6 := hg6.grown.size
      have hh6 := hg6.hi
      have he6 := bxP_step he5 hg6 (by omega)
      have hka6 : KA w6 0 w6.heap.size ks6 a6 ks6.len := (hkp6.more (Nat.zero_le _) (Nat.le_refl _)).1
      obtain ⟨y06, y16, yf06, yf16, yl6⟩ := he6.facts
      clear hHeld
      try dsimp only
      refine hK.out _ _ trivial (fun hHeld => ?_)
      clear hK K
      try simp only [Act.put, List.setIfInBounds_toArray, List.set_cons_zero, List.set_cons_succ]
      refine wpAnyH_ready (rs := [15]) (by kernel_rfl) (by simp) ?_
      refine AllReadyH.cons (o := { dst := some 52, op := Op.call { callee := Callee.value (Operand.func 46), args := #[Operand.tmp 42, Operand.tmp 51], argTypes := #[53, 43] }, type := 43, pos := "l3_project.go:236", after := #[{ on := 5, ground := Ground.data }, { on := 14, ground := Ground.data }, { on := 14, ground := Ground.chain }], guard := none }) rfl (fun K hK => ?_) AllReadyH.nil
      go_simp
      refine Calls.mono (mut_gen (z + 1) (by omega) (by first | exact hst6.rd.drewN 1 | exact hst6.rd) (by omega) k6 s6 ks6 a6 ks6.len c6 (by first | exact hka6 | exact hka6.keep (Nat.le_refl _) (Nat.le_refl _) (fun _ _ _ => rfl)) hc6 hs6 hf6 hz6) ?_
      rintro e w7 ⟨k7, s7, v7, ks7, q7, rfl, hown7, hs7, hf7, hz7, hst7⟩
      obtain ⟨a7, c7, rfl, hc7, _, hkp7⟩ := hown7.form
      have hg7 : Step w5 w7 B R a n c (p + 1) _ (0 + 2 + 2) := (by first | exact (hg6.drewN 1).trans hst7 | exact hg6.trans hst7)
      have hl7 := hg7.grown.size
      have hh7 := hg7.hi
      have he7 := bxP_step he5 hg7 (by omega)
      have hka7 : KA w7 0 w7.heap.size ks7 a7 ks7.len := (hkp7.more (Nat.zero_le _) (Nat.le_refl _)).1
      obtain ⟨y07, y17, yf07, yf17, yl7⟩ := he7.facts
      clear hHeld
      try dsimp only
      refine hK.out _ _ trivial (fun hHeld => ?_)
      clear hK K
      try simp only [Act.put, List.setIfInBounds_toArray, List.set_cons_zero, List.set_cons_succ]
      refine wpAnyH_ready (rs := [16]) (by kernel_rfl) (by simp) ?_
      refine AllReadyH.cons (o := { dst := some 53, op := Op.call { callee := Callee.value (Operand.func 46), args := #[Operand.tmp 41, Operand.tmp 52], argTypes := #[53, 43] }, type := 43, pos := "l3_project.go:236", after := #[{ on := 4, ground := Ground.data }, { on := 15, ground := Ground.data }, { on := 15, ground := Ground.chain }], guard := none }) rfl (fun K hK => ?_) AllReadyH.nil
      go_simp
      refine Calls.mono (mut_gen (z + 1 + 1) (by omega) (by first | exact hst7.rd.drewN 1 | exact hst7.rd) (by omega) k7 s7 ks7 a7 ks7.len c7 (by first | exact hka7 | exact hka7.keep (Nat.le_refl _) (Nat.le_refl _) (fun _ _ _ => rfl)) hc7 hs7 hf7 hz7) ?_
      rintro e w8 ⟨k8, s8, v8, ks8, q8, rfl, hown8, hs8, hf8, hz8, hst8⟩
      obtain ⟨a8, c8, rfl, hc8, _, hkp8⟩ := hown8.form
      have hg8 : Step w5 w8 B R a n c (p + 1) _ (0 + 2 + 2 + 2) := (by first | exact (hg7.drewN 1).trans hst8 | exact hg7.trans hst8)
      have hl8 := hg8.grown.size
      have hh8 := hg8.hi
      have he8 := bxP_step he5 hg8 (by omega)
      have hka8 : KA w8 0 w8.heap.size ks8 a8 ks8.len := (hkp8.more (Nat.zero_le _) (Nat.le_refl _)).1
      obtain ⟨y08, y18, yf08, yf18, yl8⟩ := he8.facts
      have how8 := World.ownsRow.kept how hg8.grown (.inr (fun e => by simp [Value.ownBlock] at e; omega))
      have v1 := (how8.cellAt (l * 4 + 1) (by omega)).trans q1
      have v2 := (how8.cellAt (l * 4 + 2) (by omega)).trans q2
      have v3 := (how8.cellAt (l * 4 + 3) (by omega)).trans q3
      have vf1 := how8.frozenAt (l * 4 + 1)
      have vf2 := how8.frozenAt (l * 4 + 2)
      have vf3 := how8.frozenAt (l * 4 + 3)
      clear hHeld
      try dsimp only
      refine hK.out _ _ trivial (fun hHeld => ?_)
      clear hK K
      try simp only [Act.put, List.setIfInBounds_toArray, List.set_cons_zero, List.set_cons_succ]
      refine wpAnyH_take (i := 17) (oi := { dst := some 54, op := Op.indexAddr 24 (Operand.tmp 38) (Operand.tmp 40), type := 0, pos := "l3_project.go:236", after := #[{ on := 1, ground := Ground.data }, { on := 3, ground := Ground.data }, { on := 0, ground := Ground.phase }, { on := 1, ground := Ground.phase }, { on := 2, ground := Ground.phase }, { on := 3, ground := Ground.phase }, { on := 4, ground := Ground.phase }, { on := 5, ground := Ground.phase }, { on := 6, ground := Ground.phase }, { on := 7, ground := Ground.phase }, { on := 8, ground := Ground.phase }, { on := 9, ground := Ground.phase }, { on := 10, ground := Ground.phase }, { on := 11, ground := Ground.phase }, { on := 12, ground := Ground.phase }, { on := 13, ground := Ground.phase }, { on := 14, ground := Ground.phase }, { on := 15, ground := Ground.phase }, { on := 16, ground := Ground.phase }], guard := none }) (v := ?vq28_17) rfl (by kernel_rfl) (by kernel_rfl) (by kernel_rfl) (fun _ _ _ h => h) (Or.inl ⟨by rfl, ?hyq28_17⟩) (by assumption) ?_
      case hyq28_17 =>
        intro W hSW
        try dsimp only at hSW
        go_simp
        try with_reducible rfl
      try simp only [Act.put, List.setIfInBounds_toArray, List.set_cons_zero, List.set_cons_succ]
      refine wpAnyH_take (i := 18) (oi := { dst := some 55, op := Op.fieldAddr 45 (Operand.tmp 54) 1, type := 0, pos := "l3_project.go:236", after := #[{ on := 17, ground := Ground.data }, { on := 0, ground := Ground.phase }, { on := 1, ground := Ground.phase }, { on := 2, ground := Ground.phase }, { on := 3, ground := Ground.phase }, { on := 4, ground := Ground.phase }, { on := 5, ground := Ground.phase }, { on := 6, ground := Ground.phase }, { on := 7, ground := Ground.phase }, { on := 8, ground := Ground.phase }, { on := 9, ground := Ground.phase }, { on := 10, ground := Ground.phase }, { on := 11, ground := Ground.phase }, { on := 12, ground := Ground.phase }, { on := 13, ground := Ground.phase }, { on := 14, ground := Ground.phase }, { on := 15, ground := Ground.phase }, { on := 16, ground := Ground.phase }], guard := none }) (v := ?vq29_18) rfl (by kernel_rfl) (by kernel_rfl) (by kernel_rfl) (fun _ _ _ h => h) (Or.inl ⟨by rfl, ?hyq29_18⟩) (by assumption) ?_
      case hyq29_18 =>
        intro W hSW
        try dsimp only at hSW
        go_simp
        try with_reducible rfl
      try simp only [Act.put, List.setIfInBounds_toArray, List.set_cons_zero, List.set_cons_succ]
      refine wpAnyH_ready (rs := [19]) (by kernel_rfl) (by simp) ?_
      refine AllReadyH.cons (o := { dst := none, op := Op.store 43 (Operand.tmp 55) (Operand.tmp 53), type := 0, pos := "l3_project.go:236", after := #[{ on := 18, ground := Ground.data }, { on := 16, ground := Ground.data }, { on := 16, ground := Ground.chain }, { on := 0, ground := Ground.phase }, { on := 1, ground := Ground.phase }, { on := 2, ground := Ground.phase }, { on := 3, ground := Ground.phase }, { on := 4, ground := Ground.phase }, { on := 5, ground := Ground.phase }, { on := 6, ground := Ground.phase }, { on := 7, ground := Ground.phase }, { on := 8, ground := Ground.phase }, { on := 9, ground := Ground.phase }, { on := 10, ground := Ground.phase }, { on := 11, ground := Ground.phase }, { on := 12, ground := Ground.phase }, { on := 13, ground := Ground.phase }, { on := 14, ground := Ground.phase }, { on := 15, ground := Ground.phase }, { on := 16, ground := Ground.phase }], guard := none }) rfl (fun K hK => ?_) AllReadyH.nil
      go_simp
      clear hHeld
      try dsimp only
      refine hK.out _ _ trivial (fun hHeld => ?_)
      clear hK K
      try simp only [Act.put, List.setIfInBounds_toArray, List.set_cons_zero, List.set_cons_succ]
      refine wpAnyH_done (by kernel_rfl) ?_ _
      have Ht := Lib.hid (rowG_body (k' := k8) (s' := s8) (K := fun ks a => (∃ L1 B1, KP w3 L1 B1 ks a ks.len ∧ b2 ≤ L1 ∧ B1 ≤ w3.heap.size ∧ ∀ g, (Value.slice (some ⟨g3, 0, none⟩) rs.length c3).ownBlock = some g → g < L1 ∨ B1 ≤ g) ∨ KP w8 w5.heap.size w8.heap.size ks a ks.len) hc8 (Or.inr (hkp8.more (by omega) (Nat.le_refl _))) (rowG_imp (fun ks a h => Or.inl h) hrow) hx0)
      have ho9 := (World.ownsRow.stored (World.ownsRow.stored (World.ownsRow.stored how8 (l * 4 + 1) (.int .i64 k8)).1 (l * 4 + 2) (.string s8)).1 (l * 4 + 3) (.slice a8 ks8.len c8)).1
      have hgV := grown_set (p := ⟨g3, l * 4 + 3, none⟩) (grown_set (p := ⟨g3, l * 4 + 2, none⟩) (grown_set (p := ⟨g3, l * 4 + 1, none⟩) (World.grownBy.refl w8 (some g3)) (.inl rfl) (.int .i64 k8)) (.inl rfl) (.string s8)) (.inl rfl) (.slice a8 ks8.len c8)
      have he9 := ((he8.other (g' := g3) (by omega) (l * 4 + 1) (.int .i64 k8)).other (g' := g3) (by omega) (l * 4 + 2) (.string s8)).other (g' := g3) (by omega) (l * 4 + 3) (.slice a8 ks8.len c8)
      have hr9 := (((bxP_step hr5 hg8 (by omega)).other (g' := g3) (by omega) (l * 4 + 1) (.int .i64 k8)).other (g' := g3) (by omega) (l * 4 + 2) (.string s8)).other (g' := g3) (by omega) (l * 4 + 3) (.slice a8 ks8.len c8)
      have hst9 := (((hst05.trans hg8).setNew (g := g3) (j := l * 4 + 1) (by omega) (.int .i64 k8)).setNew (g := g3) (j := l * 4 + 2) (by omega) (.string s8)).setNew (g := g3) (j := l * 4 + 3) (by omega) (.slice a8 ks8.len c8)
      generalize hVd : ((w8.setCell ⟨g3, l * 4 + 1, none⟩ (.int .i64 k8)).setCell ⟨g3, l * 4 + 2, none⟩ (.string s8)).setCell ⟨g3, l * 4 + 3, none⟩ (.slice a8 ks8.len c8) = V at *
      clear hVd
      have hVs := hgV.size
      have hV : ∀ g : Nat, g < w8.heap.size → g ≠ g3 → V.heap[g]? = w8.heap[g]? := fun g h1 h2 => hgV.block g h1 (fun e => h2 (by injection e))
      have hk9 : ∀ g : Nat, b2 ≤ g → g < w3.heap.size → (Value.slice (some ⟨g3, 0, none⟩) rs.length c3).ownBlock ≠ some g → V.heap[g]? = w3.heap[g]? := fun g h1 h2 h3 => (hV g (by omega) (by rintro rfl; exact h3 rfl)).trans ((hg8.grown.block g (by omega) (fun e => by injection e with e; omega)).trans (hk5 g h1 h2 h3))
      have hru9 : RuO V b2 (.slice (some ⟨g3, 0, none⟩) rs.length c3) (rs.set l (t0, k8, s8, ks8)) := OwnG.imp (K' := fun ks a => KP V b2 V.heap.size ks a ks.len) ⟨by omega, _, by rw [List.length_set]; exact ho9, Ht.out⟩ (fun ks a hK => by
        rcases hK with ⟨L1, B1, p1, p2, p3, p4⟩ | hK
        · exact p1.keep p2 (by omega) (fun g h1 h2 => hk9 g (by omega) (by omega) (fun e => by have := p4 g e; omega))
        · exact hK.keep (by omega) hVs (fun g h1 h2 => hV g h2 (by omega)))
      have hf9 : OwnsF V (w.heap.size + 1 + 1) (.slice b1 fs.length d1) fs := ownsF_ne (hf5.step (by omega) hg8) hgV (fun g e h => by
        have e' : g3 = g := Option.some.inj h
        have := hv1 _ e
        omega)
      have hx0' := hsm _ (List.mem_of_getElem? hx0)
      have hsm9 : RuSm (z + 3) (rs.set l (t0, k8, s8, ks8)) := fun x hx => by
        rcases List.mem_or_eq_of_mem_set hx with h' | rfl
        · have := hsm x h'; exact ⟨this.1, this.2.1, this.2.2.1, by omega⟩
        · exact ⟨hx0'.1, hs8, hf8, hz8⟩
      clear Ht ho9 hgV hV hown6 hown7 hown8 hka6 hka7 hka8 hkp6 hkp7 hkp8 hst6 hst7 hst8 hg6 hg7 hg8 he6 he7 he8 how8 hrow how q1 q2 q3 r1 r2 r3 v1 v2 v3 vf1 vf2 vf3 hka hk0 y06 y16 yf06 yf16 yl6 y07 y17 yf07 yf17 yl7 y08 y18 yf08 yf18 yl8
      obtain ⟨u0, u1, uf0, uf1, ul⟩ := he9.facts
      obtain ⟨z0, z1, zf0, zf1, zl⟩ := hr9.facts
      have Hof := Lib.hid hf9
      have Hru := Lib.hid (RuO.mono hru9 hb2)
      have Hst := Lib.hid hst9
      clear x0 x1 xf0 xf1 xl
      go_wp2_with fail
      refine bodyPost_ret (v := .agg #[.slice b1 fs.length d1, .slice (some ⟨g3, 0, none⟩) rs.length c3]) (by simp [results, Tryz.results26, go_sem, *]) rfl ?_
      exact ⟨_, _, fs, (rs.set l (t0, k8, s8, ks8)), _, rfl, ownsF_mono (ownsF_set (ownsF_set Hof.out (by omega) 0 _) (by omega) 1 _) (by omega), ((Hru.out.setCell (by omega) 0 _).setCell (by omega) 1 _).mono (by omega), hsh, by omega, hsm9, by simp; omega, ((Hst.out.setNew (by omega) _).setNew (by omega) _).more (by omega)⟩
    · go_simp
      clear hHeld
      try dsimp only
      refine hK.out _ _ trivial (fun hHeld => ?_)
      clear hK K
      try simp only [Act.put, List.setIfInBounds_toArray, List.set_cons_zero, List.set_cons_succ]
      refine wpAnyH_take (i := 11) (oi := { dst := some 48, op := Op.indexAddr 24 (Operand.tmp 45) (Operand.tmp 47), type := 0, pos := "l3_project.go:236", after := #[{ on := 8, ground := Ground.data }, { on := 10, ground := Ground.data }], guard := none }) (v := ?vq30_11) rfl (by kernel_rfl) (by kernel_rfl) (by kernel_rfl) (fun _ _ _ h => h) (Or.inl ⟨by rfl, ?hyq30_11⟩) (by assumption) ?_
      case hyq30_11 =>
        intro W hSW
        try dsimp only at hSW
        go_simp
        try with_reducible rfl
      try simp only [Act.put, List.setIfInBounds_toArray, List.set_cons_zero, List.set_cons_succ]
      refine wpAnyH_take (i := 12) (oi := { dst := some 49, op := Op.fieldAddr 45 (Operand.tmp 48) 1, type := 0, pos := "l3_project.go:236", after := #[{ on := 11, ground := Ground.data }], guard := none }) (v := ?vq31_12) rfl (by kernel_rfl) (by kernel_rfl) (by kernel_rfl) (fun _ _ _ h => h) (Or.inl ⟨by rfl, ?hyq31_12⟩) (by assumption) ?_
      case hyq31_12 =>
        intro W hSW
        try dsimp only at hSW
        go_simp
        try with_reducible rfl
      try simp only [Act.put, List.setIfInBounds_toArray, List.set_cons_zero, List.set_cons_succ]
      refine wpAnyH_ready (rs := [1, 13]) (by kernel_rfl) (by simp) ?_
      refine AllReadyH.cons (o := { dst := some 38, op := Op.load 24 (Operand.tmp 37), type := 24, pos := "l3_project.go:236", after := #[{ on := 0, ground := Ground.data }], guard := none }) rfl (fun K hK => ?_) (AllReadyH.cons (o := { dst := some 50, op := Op.load 43 (Operand.tmp 49), type := 43, pos := "l3_project.go:236", after := #[{ on := 12, ground := Ground.data }], guard := none }) rfl (fun K hK => ?_) AllReadyH.nil)
      · go_simp
        clear hHeld
        try dsimp only
        refine hK.out _ _ trivial (fun hHeld => ?_)
        clear hK K
        try simp only [Act.put, List.setIfInBounds_toArray, List.set_cons_zero, List.set_cons_succ]
        refine wpAnyH_ready (rs := [13]) (by kernel_rfl) (by simp) ?_
        refine AllReadyH.cons (o := { dst := some 50, op := Op.load 43 (Operand.tmp 49), type := 43, pos := "l3_project.go:236", after := #[{ on := 12, ground := Ground.data }], guard := none }) rfl (fun K hK => ?_) AllReadyH.nil
        go_simp
        clear hHeld
        try dsimp only
        refine hK.out _ _ trivial (fun hHeld => ?_)
        clear hK K
        try simp only [Act.put, List.setIfInBounds_toArray, List.set_cons_zero, List.set_cons_succ]
        refine wpAnyH_ready (rs := [14]) (by kernel_rfl) (by simp) ?_
        refine AllReadyH.cons (o := { dst := some 51, op := Op.call { callee := Callee.value (Operand.func 46), args := #[Operand.tmp 43, Operand.tmp 50], argTypes := #[53, 43] }, type := 43, pos := "l3_project.go:236", after := #[{ on := 6, ground := Ground.data }, { on := 13, ground := Ground.data }], guard := none }) rfl (fun K hK => ?_) AllReadyH.nil
        go_simp
        refine Calls.mono (mut_gen (z) (by omega) (by first | exact hst05.rd.drewN 1 | exact hst05.rd) (by omega) k0 s0 ks0 a0 ks0.len c0 (by first | exact hka | exact hka.keep (Nat.le_refl _) (Nat.le_refl _) (fun _ _ _ => rfl)) hc0 hs0 hf0 hz0) ?_
        rintro e w6 ⟨k6, s6, v6, ks6, q6, rfl, hown6, hs6, hf6, hz6, hst6⟩
        obtain ⟨a6, c6, rfl, hc6, _, hkp6⟩ := hown6.form
        have hg6 : Step w5 w6 B R a n c (p + 1) _ (0 + 2) := (by first | exact ((Step.refl hst05.rd).drewN 1).trans hst6 | exact (Step.refl hst05.rd).trans hst6)
        have hl6 := hg6.grown.size
        have hh6 := hg6.hi
        have he6 := bxP_step he5 hg6 (by omega)
        have hka6 : KA w6 0 w6.heap.size ks6 a6 ks6.len := (hkp6.more (Nat.zero_le _) (Nat.le_refl _)).1
        obtain ⟨y06, y16, yf06, yf16, yl6⟩ := he6.facts
        clear hHeld
        try dsimp only
        refine hK.out _ _ trivial (fun hHeld => ?_)
        clear hK K
        try simp only [Act.put, List.setIfInBounds_toArray, List.set_cons_zero, List.set_cons_succ]
        refine wpAnyH_ready (rs := [15]) (by kernel_rfl) (by simp) ?_
        refine AllReadyH.cons (o := { dst := some 52, op := Op.call { callee := Callee.value (Operand.func 46), args := #[Operand.tmp 42, Operand.tmp 51], argTypes := #[53, 43] }, type := 43, pos := "l3_project.go:236", after := #[{ on := 5, ground := Ground.data }, { on := 14, ground := Ground.data }, { on := 14, ground := Ground.chain }], guard := none }) rfl (fun K hK => ?_) AllReadyH.nil
        go_simp
        refine Calls.mono (mut_gen (z + 1) (by omega) (by first | exact hst6.rd.drewN 1 | exact hst6.rd) (by omega) k6 s6 ks6 a6 ks6.len c6 (by first | exact hka6 | exact hka6.keep (Nat.le_refl _) (Nat.le_refl _) (fun _ _ _ => rfl)) hc6 hs6 hf6 hz6) ?_
        rintro e w7 ⟨k7, s7, v7, ks7, q7, rfl, hown7, hs7, hf7, hz7, hst7⟩
        obtain ⟨a7, c7, rfl, hc7, _, hkp7⟩ := hown7.form
        have hg7 : Step w5 w7 B R a n c (p + 1) _ (0 + 2 + 2) := (by first | exact (hg6.drewN 1).trans hst7 | exact hg6.trans hst7)
        have hl7 := hg7.grown.size
        have hh7 := hg7.hi
        have he7 := bxP_step he5 hg7 (by omega)
        have hka7 : KA w7 0 w7.heap.size ks7 a7 ks7.len := (hkp7.more (Nat.zero_le _) (Nat.le_refl _)).1
        obtain ⟨y07, y17, yf07, yf17, yl7⟩ := he7.facts
        clear hHeld
        try dsimp only
        refine hK.out _ _ trivial (fun hHeld => ?_)
        clear hK K
        try simp only [Act.put, List.setIfInBounds_toArray, List.set_cons_zero, List.set_cons_succ]
        refine wpAnyH_ready (rs := [16]) (by kernel_rfl) (by simp) ?_
        refine AllReadyH.cons (o := { dst := some 53, op := Op.call { callee := Callee.value (Operand.func 46), args := #[Operand.tmp 41, Operand.tmp 52], argTypes := #[53, 43] }, type := 43, pos := "l3_project.go:236", after := #[{ on := 4, ground := Ground.data }, { on := 15, ground := Ground.data }, { on := 15, ground := Ground.chain }], guard := none }) rfl (fun K hK => ?_) AllReadyH.nil
        go_simp
        refine Calls.mono (mut_gen (z + 1 + 1) (by omega) (by first | exact hst7.rd.drewN 1 | exact hst7.rd) (by omega) k7 s7 ks7 a7 ks7.len c7 (by first | exact hka7 | exact hka7.keep (Nat.le_refl _) (Nat.le_refl _) (fun _ _ _ => rfl)) hc7 hs7 hf7 hz7) ?_
        rintro e w8 ⟨k8, s8, v8, ks8, q8, rfl, hown8, hs8, hf8, hz8, hst8⟩
        obtain ⟨a8, c8, rfl, hc8, _, hkp8⟩ := hown8.form
        have hg8 : Step w5 w8 B R a n c (p + 1) _ (0 + 2 + 2 + 2) := (by first | exact (hg7.drewN 1).trans hst8 | exact hg7.trans hst8)
        have hl8 := hg8.grown.size
        have hh8 := hg8.hi
        have he8 := bxP_step he5 hg8 (by omega)
        have hka8 : KA w8 0 w8.heap.size ks8 a8 ks8.len := (hkp8.more (Nat.zero_le _) (Nat.le_refl _)).1
        obtain ⟨y08, y18, yf08, yf18, yl8⟩ := he8.facts
        have how8 := World.ownsRow.kept how hg8.grown (.inr (fun e => by simp [Value.ownBlock] at e; omega))
        have v1 := (how8.cellAt (l * 4 + 1) (by omega)).trans q1
        have v2 := (how8.cellAt (l * 4 + 2) (by omega)).trans q2
        have v3 := (how8.cellAt (l * 4 + 3) (by omega)).trans q3
        have vf1 := how8.frozenAt (l * 4 + 1)
        have vf2 := how8.frozenAt (l * 4 + 2)
        have vf3 := how8.frozenAt (l * 4 + 3)
        clear hHeld
        try dsimp only
        refine hK.out _ _ trivial (fun hHeld => ?_)
        clear hK K
        try simp only [Act.put, List.setIfInBounds_toArray, List.set_cons_zero, List.set_cons_succ]
        refine wpAnyH_take (i := 17) (oi := { dst := some 54, op := Op.indexAddr 24 (Operand.tmp 38) (Operand.tmp 40), type := 0, pos := "l3_project.go:236", after := #[{ on := 1, ground := Ground.data }, { on := 3, ground := Ground.data }, { on := 0, ground := Ground.phase }, { on := 1, ground := Ground.phase }, { on := 2, ground := Ground.phase }, { on := 3, ground := Ground.phase }, { on := 4, ground := Ground.phase }, { on := 5, ground := Ground.phase }, { on := 6, ground := Ground.phase }, { on := 7, ground := Ground.phase }, { on := 8, ground := Ground.phase }, { on := 9, ground := Ground.phase }, { on := 10, ground := Ground.phase }, { on := 11, ground := Ground.phase }, { on := 12, ground := Ground.phase }, { on := 13, ground := Ground.phase }, { on := 14, ground := Ground.phase }, { on := 15, ground := Ground.phase }, { on := 16, ground := Ground.phase }], guard := none }) (v := ?vq32_17) rfl (by kernel_rfl) (by kernel_rfl) (by kernel_rfl) (fun _ _ _ h => h) (Or.inl ⟨by rfl, ?hyq32_17⟩) (by assumption) ?_
        case hyq32_17 =>
          intro W hSW
          try dsimp only at hSW
          go_simp
          try with_reducible rfl
        try simp only [Act.put, List.setIfInBounds_toArray, List.set_cons_zero, List.set_cons_succ]
        refine wpAnyH_take (i := 18) (oi := { dst := some 55, op := Op.fieldAddr 45 (Operand.tmp 54) 1, type := 0, pos := "l3_project.go:236", after := #[{ on := 17, ground := Ground.data }, { on := 0, ground := Ground.phase }, { on := 1, ground := Ground.phase }, { on := 2, ground := Ground.phase }, { on := 3, ground := Ground.phase }, { on := 4, ground := Ground.phase }, { on := 5, ground := Ground.phase }, { on := 6, ground := Ground.phase }, { on := 7, ground := Ground.phase }, { on := 8, ground := Ground.phase }, { on := 9, ground := Ground.phase }, { on := 10, ground := Ground.phase }, { on := 11, ground := Ground.phase }, { on := 12, ground := Ground.phase }, { on := 13, ground := Ground.phase }, { on := 14, ground := Ground.phase }, { on := 15, ground := Ground.phase }, { on := 16, ground := Ground.phase }], guard := none }) (v := ?vq33_18) rfl (by kernel_rfl) (by kernel_rfl) (by kernel_rfl) (fun _ _ _ h => h) (Or.inl ⟨by rfl, ?hyq33_18⟩) (by assumption) ?_
        case hyq33_18 =>
          intro W hSW
          try dsimp only at hSW
          go_simp
          try with_reducible rfl
        try simp only [Act.put, List.setIfInBounds_toArray, List.set_cons_zero, List.set_cons_succ]
        refine wpAnyH_ready (rs := [19]) (by kernel_rfl) (by simp) ?_
        refine AllReadyH.cons (o := { dst := none, op := Op.store 43 (Operand.tmp 55) (Operand.tmp 53), type := 0, pos := "l3_project.go:236", after := #[{ on := 18, ground := Ground.data }, { on := 16, ground := Ground.data }, { on := 16, ground := Ground.chain }, { on := 0, ground := Ground.phase }, { on := 1, ground := Ground.phase }, { on := 2, ground := Ground.phase }, { on := 3, ground := Ground.phase }, { on := 4, ground := Ground.phase }, { on := 5, ground := Ground.phase }, { on := 6, ground := Ground.phase }, { on := 7, ground := Ground.phase }, { on := 8, ground := Ground.phase }, { on := 9, ground := Ground.phase }, { on := 10, ground := Ground.phase }, { on := 11, ground := Ground.phase }, { on := 12, ground := Ground.phase }, { on := 13, ground := Ground.phase }, { on := 14, ground := Ground.phase }, { on := 15, ground := Ground.phase }, { on := 16, ground := Ground.phase }], guard := none }) rfl (fun K hK => ?_) AllReadyH.nil
        go_simp
        clear hHeld
        try dsimp only
        refine hK.out _ _ trivial (fun hHeld => ?_)
        clear hK K
        try simp only [Act.put, List.setIfInBounds_toArray, List.set_cons_zero, List.set_cons_succ]
        refine wpAnyH_done (by kernel_rfl) ?_ _
        have Ht := Lib.hid (rowG_body (k' := k8) (s' := s8) (K := fun ks a => (∃ L1 B1, KP w3 L1 B1 ks a ks.len ∧ b2 ≤ L1 ∧ B1 ≤ w3.heap.size ∧ ∀ g, (Value.slice (some ⟨g3, 0, none⟩) rs.length c3).ownBlock = some g → g < L1 ∨ B1 ≤ g) ∨ KP w8 w5.heap.size w8.heap.size ks a ks.len) hc8 (Or.inr (hkp8.more (by omega) (Nat.le_refl _))) (rowG_imp (fun ks a h => Or.inl h) hrow) hx0)
        have ho9 := (World.ownsRow.stored (World.ownsRow.stored (World.ownsRow.stored how8 (l * 4 + 1) (.int .i64 k8)).1 (l * 4 + 2) (.string s8)).1 (l * 4 + 3) (.slice a8 ks8.len c8)).1
        have hgV := grown_set (p := ⟨g3, l * 4 + 3, none⟩) (grown_set (p := ⟨g3, l * 4 + 2, none⟩) (grown_set (p := ⟨g3, l * 4 + 1, none⟩) (World.grownBy.refl w8 (some g3)) (.inl rfl) (.int .i64 k8)) (.inl rfl) (.string s8)) (.inl rfl) (.slice a8 ks8.len c8)
        have he9 := ((he8.other (g' := g3) (by omega) (l * 4 + 1) (.int .i64 k8)).other (g' := g3) (by omega) (l * 4 + 2) (.string s8)).other (g' := g3) (by omega) (l * 4 + 3) (.slice a8 ks8.len c8)
        have hr9 := (((bxP_step hr5 hg8 (by omega)).other (g' := g3) (by omega) (l * 4 + 1) (.int .i64 k8)).other (g' := g3) (by omega) (l * 4 + 2) (.string s8)).other (g' := g3) (by omega) (l * 4 + 3) (.slice a8 ks8.len c8)
        have hst9 := (((hst05.trans hg8).setNew (g := g3) (j := l * 4 + 1) (by omega) (.int .i64 k8)).setNew (g := g3) (j := l * 4 + 2) (by omega) (.string s8)).setNew (g := g3) (j := l * 4 + 3) (by omega) (.slice a8 ks8.len c8)
        generalize hVd : ((w8.setCell ⟨g3, l * 4 + 1, none⟩ (.int .i64 k8)).setCell ⟨g3, l * 4 + 2, none⟩ (.string s8)).setCell ⟨g3, l * 4 + 3, none⟩ (.slice a8 ks8.len c8) = V at *
        clear hVd
        have hVs := hgV.size
        have hV : ∀ g : Nat, g < w8.heap.size → g ≠ g3 → V.heap[g]? = w8.heap[g]? := fun g h1 h2 => hgV.block g h1 (fun e => h2 (by injection e))
        have hk9 : ∀ g : Nat, b2 ≤ g → g < w3.heap.size → (Value.slice (some ⟨g3, 0, none⟩) rs.length c3).ownBlock ≠ some g → V.heap[g]? = w3.heap[g]? := fun g h1 h2 h3 => (hV g (by omega) (by rintro rfl; exact h3 rfl)).trans ((hg8.grown.block g (by omega) (fun e => by injection e with e; omega)).trans (hk5 g h1 h2 h3))
        have hru9 : RuO V b2 (.slice (some ⟨g3, 0, none⟩) rs.length c3) (rs.set l (t0, k8, s8, ks8)) := OwnG.imp (K' := fun ks a => KP V b2 V.heap.size ks a ks.len) ⟨by omega, _, by rw [List.length_set]; exact ho9, Ht.out⟩ (fun ks a hK => by
          rcases hK with ⟨L1, B1, p1, p2, p3, p4⟩ | hK
          · exact p1.keep p2 (by omega) (fun g h1 h2 => hk9 g (by omega) (by omega) (fun e => by have := p4 g e; omega))
          · exact hK.keep (by omega) hVs (fun g h1 h2 => hV g h2 (by omega)))
        have hf9 : OwnsF V (w.heap.size + 1 + 1) (.slice b1 fs.length d1) fs := ownsF_ne (hf5.step (by omega) hg8) hgV (fun g e h => by
          have e' : g3 = g := Option.some.inj h
          have := hv1 _ e
          omega)
        have hx0' := hsm _ (List.mem_of_getElem? hx0)
        have hsm9 : RuSm (z + 3) (rs.set l (t0, k8, s8, ks8)) := fun x hx => by
          rcases List.mem_or_eq_of_mem_set hx with h' | rfl
          · have := hsm x h'; exact ⟨this.1, this.2.1, this.2.2.1, by omega⟩
          · exact ⟨hx0'.1, hs8, hf8, hz8⟩
        clear Ht ho9 hgV hV hown6 hown7 hown8 hka6 hka7 hka8 hkp6 hkp7 hkp8 hst6 hst7 hst8 hg6 hg7 hg8 he6 he7 he8 how8 hrow how q1 q2 q3 r1 r2 r3 v1 v2 v3 vf1 vf2 vf3 hka hk0 y06 y16 yf06 yf16 yl6 y07 y17 yf07 yf17 yl7 y08 y18 yf08 yf18 yl8
        obtain ⟨u0, u1, uf0, uf1, ul⟩ := he9.facts
        obtain ⟨z0, z1, zf0, zf1, zl⟩ := hr9.facts
        have Hof := Lib.hid hf9
        have Hru := Lib.hid (RuO.mono hru9 hb2)
        have Hst := Lib.hid hst9
        clear x0 x1 xf0 xf1 xl
        go_wp2_with fail
        refine bodyPost_ret (v := .agg #[.slice b1 fs.length d1, .slice (some ⟨g3, 0, none⟩) rs.length c3]) (by simp [results, Tryz.results26, go_sem, *]) rfl ?_
        exact ⟨_, _, fs, (rs.set l (t0, k8, s8, ks8)), _, rfl, ownsF_mono (ownsF_set (ownsF_set Hof.out (by omega) 0 _) (by omega) 1 _) (by omega), ((Hru.out.setCell (by omega) 0 _).setCell (by omega) 1 _).mono (by omega), hsh, by omega, hsm9, by simp; omega, ((Hst.out.setNew (by omega) _).setNew (by omega) _).more (by omega)⟩
      · go_simp
        clear hHeld
        try dsimp only
        refine hK.out _ _ trivial (fun hHeld => ?_)
        clear hK K
        try simp only [Act.put, List.setIfInBounds_toArray, List.set_cons_zero, List.set_cons_succ]
        refine wpAnyH_ready (rs := [1, 14]) (by kernel_rfl) (by simp) ?_
        refine AllReadyH.cons (o := { dst := some 38, op := Op.load 24 (Operand.tmp 37), type := 24, pos := "l3_project.go:236", after := #[{ on := 0, ground := Ground.data }], guard := none }) rfl (fun K hK => ?_) (AllReadyH.cons (o := { dst := some 51, op := Op.call { callee := Callee.value (Operand.func 46), args := #[Operand.tmp 43, Operand.tmp 50], argTypes := #[53, 43] }, type := 43, pos := "l3_project.go:236", after := #[{ on := 6, ground := Ground.data }, { on := 13, ground := Ground.data }], guard := none }) rfl (fun K hK => ?_) AllReadyH.nil)
        · go_simp
          clear hHeld
          try dsimp only
          refine hK.out _ _ trivial (fun hHeld => ?_)
          clear hK K
          try simp only [Act.put, List.setIfInBounds_toArray, List.set_cons_zero, List.set_cons_succ]
          refine wpAnyH_ready (rs := [14]) (by kernel_rfl) (by simp) ?_
          refine AllReadyH.cons (o := { dst := some 51, op := Op.call { callee := Callee.value (Operand.func 46), args := #[Operand.tmp 43, Operand.tmp 50], argTypes := #[53, 43] }, type := 43, pos := "l3_project.go:236", after := #[{ on := 6, ground := Ground.data }, { on := 13, ground := Ground.data }], guard := none }) rfl (fun K hK => ?_) AllReadyH.nil
          go_simp
          refine Calls.mono (mut_gen (z) (by omega) (by first | exact hst05.rd.drewN 1 | exact hst05.rd) (by omega) k0 s0 ks0 a0 ks0.len c0 (by first | exact hka | exact hka.keep (Nat.le_refl _) (Nat.le_refl _) (fun _ _ _ => rfl)) hc0 hs0 hf0 hz0) ?_
          rintro e w6 ⟨k6, s6, v6, ks6, q6, rfl, hown6, hs6, hf6, hz6, hst6⟩
          obtain ⟨a6, c6, rfl, hc6, _, hkp6⟩ := hown6.form
          have hg6 : Step w5 w6 B R a n c (p + 1) _ (0 + 2) := (by first | exact ((Step.refl hst05.rd).drewN 1).trans hst6 | exact (Step.refl hst05.rd).trans hst6)
          have hl6 := hg6.grown.size
          have hh6 := hg6.hi
          have he6 := bxP_step he5 hg6 (by omega)
          have hka6 : KA w6 0 w6.heap.size ks6 a6 ks6.len := (hkp6.more (Nat.zero_le _) (Nat.le_refl _)).1
          obtain ⟨y06, y16, yf06, yf16, yl6⟩ := he6.facts
          clear hHeld
          try dsimp only
          refine hK.out _ _ trivial (fun hHeld => ?_)
          clear hK K
          try simp only [Act.put, List.setIfInBounds_toArray, List.set_cons_zero, List.set_cons_succ]
          refine wpAnyH_ready (rs := [15]) (by kernel_rfl) (by simp) ?_
          refine AllReadyH.cons (o := { dst := some 52, op := Op.call { callee := Callee.value (Operand.func 46), args := #[Operand.tmp 42, Operand.tmp 51], argTypes := #[53, 43] }, type := 43, pos := "l3_project.go:236", after := #[{ on := 5, ground := Ground.data }, { on := 14, ground := Ground.data }, { on := 14, ground := Ground.chain }], guard := none }) rfl (fun K hK => ?_) AllReadyH.nil
          go_simp
          refine Calls.mono (mut_gen (z + 1) (by omega) (by first | exact hst6.rd.drewN 1 | exact hst6.rd) (by omega) k6 s6 ks6 a6 ks6.len c6 (by first | exact hka6 | exact hka6.keep (Nat.le_refl _) (Nat.le_refl _) (fun _ _ _ => rfl)) hc6 hs6 hf6 hz6) ?_
          rintro e w7 ⟨k7, s7, v7, ks7, q7, rfl, hown7, hs7, hf7, hz7, hst7⟩
          obtain ⟨a7, c7, rfl, hc7, _, hkp7⟩ := hown7.form
          have hg7 : Step w5 w7 B R a n c (p + 1) _ (0 + 2 + 2) := (by first | exact (hg6.drewN 1).trans hst7 | exact hg6.trans hst7)
          have hl7 := hg7.grown.size
          have hh7 := hg7.hi
          have he7 := bxP_step he5 hg7 (by omega)
          have hka7 : KA w7 0 w7.heap.size ks7 a7 ks7.len := (hkp7.more (Nat.zero_le _) (Nat.le_refl _)).1
          obtain ⟨y07, y17, yf07, yf17, yl7⟩ := he7.facts
          clear hHeld
          try dsimp only
          refine hK.out _ _ trivial (fun hHeld => ?_)
          clear hK K
          try simp only [Act.put, List.setIfInBounds_toArray, List.set_cons_zero, List.set_cons_succ]
          refine wpAnyH_ready (rs := [16]) (by kernel_rfl) (by simp) ?_
          refine AllReadyH.cons (o := { dst := some 53, op := Op.call { callee := Callee.value (Operand.func 46), args := #[Operand.tmp 41, Operand.tmp 52], argTypes := #[53, 43] }, type := 43, pos := "l3_project.go:236", after := #[{ on := 4, ground := Ground.data }, { on := 15, ground := Ground.data }, { on := 15, ground := Ground.chain }], guard := none }) rfl (fun K hK => ?_) AllReadyH.nil
          go_simp
          refine Calls.mono (mut_gen (z + 1 + 1) (by omega) (by first | exact hst7.rd.drewN 1 | exact hst7.rd) (by omega) k7 s7 ks7 a7 ks7.len c7 (by first | exact hka7 | exact hka7.keep (Nat.le_refl _) (Nat.le_refl _) (fun _ _ _ => rfl)) hc7 hs7 hf7 hz7) ?_
          rintro e w8 ⟨k8, s8, v8, ks8, q8, rfl, hown8, hs8, hf8, hz8, hst8⟩
          obtain ⟨a8, c8, rfl, hc8, _, hkp8⟩ := hown8.form
          have hg8 : Step w5 w8 B R a n c (p + 1) _ (0 + 2 + 2 + 2) := (by first | exact (hg7.drewN 1).trans hst8 | exact hg7.trans hst8)
          have hl8 := hg8.grown.size
          have hh8 := hg8.hi
          have he8 := bxP_step he5 hg8 (by omega)
          have hka8 : KA w8 0 w8.heap.size ks8 a8 ks8.len := (hkp8.more (Nat.zero_le _) (Nat.le_refl _)).1
          obtain ⟨y08, y18, yf08, yf18, yl8⟩ := he8.facts
          have how8 := World.ownsRow.kept how hg8.grown (.inr (fun e => by simp [Value.ownBlock] at e; omega))
          have v1 := (how8.cellAt (l * 4 + 1) (by omega)).trans q1
          have v2 := (how8.cellAt (l * 4 + 2) (by omega)).trans q2
          have v3 := (how8.cellAt (l * 4 + 3) (by omega)).trans q3
          have vf1 := how8.frozenAt (l * 4 + 1)
          have vf2 := how8.frozenAt (l * 4 + 2)
          have vf3 := how8.frozenAt (l * 4 + 3)
          clear hHeld
          try dsimp only
          refine hK.out _ _ trivial (fun hHeld => ?_)
          clear hK K
          try simp only [Act.put, List.setIfInBounds_toArray, List.set_cons_zero, List.set_cons_succ]
          refine wpAnyH_take (i := 17) (oi := { dst := some 54, op := Op.indexAddr 24 (Operand.tmp 38) (Operand.tmp 40), type := 0, pos := "l3_project.go:236", after := #[{ on := 1, ground := Ground.data }, { on := 3, ground := Ground.data }, { on := 0, ground := Ground.phase }, { on := 1, ground := Ground.phase }, { on := 2, ground := Ground.phase }, { on := 3, ground := Ground.phase }, { on := 4, ground := Ground.phase }, { on := 5, ground := Ground.phase }, { on := 6, ground := Ground.phase }, { on := 7, ground := Ground.phase }, { on := 8, ground := Ground.phase }, { on := 9, ground := Ground.phase }, { on := 10, ground := Ground.phase }, { on := 11, ground := Ground.phase }, { on := 12, ground := Ground.phase }, { on := 13, ground := Ground.phase }, { on := 14, ground := Ground.phase }, { on := 15, ground := Ground.phase }, { on := 16, ground := Ground.phase }], guard := none }) (v := ?vq34_17) rfl (by kernel_rfl) (by kernel_rfl) (by kernel_rfl) (fun _ _ _ h => h) (Or.inl ⟨by rfl, ?hyq34_17⟩) (by assumption) ?_
          case hyq34_17 =>
            intro W hSW
            try dsimp only at hSW
            go_simp
            try with_reducible rfl
          try simp only [Act.put, List.setIfInBounds_toArray, List.set_cons_zero, List.set_cons_succ]
          refine wpAnyH_take (i := 18) (oi := { dst := some 55, op := Op.fieldAddr 45 (Operand.tmp 54) 1, type := 0, pos := "l3_project.go:236", after := #[{ on := 17, ground := Ground.data }, { on := 0, ground := Ground.phase }, { on := 1, ground := Ground.phase }, { on := 2, ground := Ground.phase }, { on := 3, ground := Ground.phase }, { on := 4, ground := Ground.phase }, { on := 5, ground := Ground.phase }, { on := 6, ground := Ground.phase }, { on := 7, ground := Ground.phase }, { on := 8, ground := Ground.phase }, { on := 9, ground := Ground.phase }, { on := 10, ground := Ground.phase }, { on := 11, ground := Ground.phase }, { on := 12, ground := Ground.phase }, { on := 13, ground := Ground.phase }, { on := 14, ground := Ground.phase }, { on := 15, ground := Ground.phase }, { on := 16, ground := Ground.phase }], guard := none }) (v := ?vq35_18) rfl (by kernel_rfl) (by kernel_rfl) (by kernel_rfl) (fun _ _ _ h => h) (Or.inl ⟨by rfl, ?hyq35_18⟩) (by assumption) ?_
          case hyq35_18 =>
            intro W hSW
            try dsimp only at hSW
            go_simp
            try with_reducible rfl
          try simp only [Act.put, List.setIfInBounds_toArray, List.set_cons_zero, List.set_cons_succ]
          refine wpAnyH_ready (rs := [19]) (by kernel_rfl) (by simp) ?_
          refine AllReadyH.cons (o := { dst := none, op := Op.store 43 (Operand.tmp 55) (Operand.tmp 53), type := 0, pos := "l3_project.go:236", after := #[{ on := 18, ground := Ground.data }, { on := 16, ground := Ground.data }, { on := 16, ground := Ground.chain }, { on := 0, ground := Ground.phase }, { on := 1, ground := Ground.phase }, { on := 2, ground := Ground.phase }, { on := 3, ground := Ground.phase }, { on := 4, ground := Ground.phase }, { on := 5, ground := Ground.phase }, { on := 6, ground := Ground.phase }, { on := 7, ground := Ground.phase }, { on := 8, ground := Ground.phase }, { on := 9, ground := Ground.phase }, { on := 10, ground := Ground.phase }, { on := 11, ground := Ground.phase }, { on := 12, ground := Ground.phase }, { on := 13, ground := Ground.phase }, { on := 14, ground := Ground.phase }, { on := 15, ground := Ground.phase }, { on := 16, ground := Ground.phase }], guard := none }) rfl (fun K hK => ?_) AllReadyH.nil
          go_simp
          clear hHeld
          try dsimp only
          refine hK.out _ _ trivial (fun hHeld => ?_)
          clear hK K
          try simp only [Act.put, List.setIfInBounds_toArray, List.set_cons_zero, List.set_cons_succ]
          refine wpAnyH_done (by kernel_rfl) ?_ _
          have Ht := Lib.hid (rowG_body (k' := k8) (s' := s8) (K := fun ks a => (∃ L1 B1, KP w3 L1 B1 ks a ks.len ∧ b2 ≤ L1 ∧ B1 ≤ w3.heap.size ∧ ∀ g, (Value.slice (some ⟨g3, 0, none⟩) rs.length c3).ownBlock = some g → g < L1 ∨ B1 ≤ g) ∨ KP w8 w5.heap.size w8.heap.size ks a ks.len) hc8 (Or.inr (hkp8.more (by omega) (Nat.le_refl _))) (rowG_imp (fun ks a h => Or.inl h) hrow) hx0)
          have ho9 := (World.ownsRow.stored (World.ownsRow.stored (World.ownsRow.stored how8 (l * 4 + 1) (.int .i64 k8)).1 (l * 4 + 2) (.string s8)).1 (l * 4 + 3) (.slice a8 ks8.len c8)).1
          have hgV := grown_set (p := ⟨g3, l * 4 + 3, none⟩) (grown_set (p := ⟨g3, l * 4 + 2, none⟩) (grown_set (p := ⟨g3, l * 4 + 1, none⟩) (World.grownBy.refl w8 (some g3)) (.inl rfl) (.int .i64 k8)) (.inl rfl) (.string s8)) (.inl rfl) (.slice a8 ks8.len c8)
          have he9 := ((he8.other (g' := g3) (by omega) (l * 4 + 1) (.int .i64 k8)).other (g' := g3) (by omega) (l * 4 + 2) (.string s8)).other (g' := g3) (by omega) (l * 4 + 3) (.slice a8 ks8.len c8)
          have hr9 := (((bxP_step hr5 hg8 (by omega)).other (g' := g3) (by omega) (l * 4 + 1) (.int .i64 k8)).other (g' := g3) (by omega) (l * 4 + 2) (.string s8)).other (g' := g3) (by omega) (l * 4 + 3) (.slice a8 ks8.len c8)
          have hst9 := (((hst05.trans hg8).setNew (g := g3) (j := l * 4 + 1) (by omega) (.int .i64 k8)).setNew (g := g3) (j := l * 4 + 2) (by omega) (.string s8)).setNew (g := g3) (j := l * 4 + 3) (by omega) (.slice a8 ks8.len c8)
          generalize hVd : ((w8.setCell ⟨g3, l * 4 + 1, none⟩ (.int .i64 k8)).setCell ⟨g3, l * 4 + 2, none⟩ (.string s8)).setCell ⟨g3, l * 4 + 3, none⟩ (.slice a8 ks8.len c8) = V at *
          clear hVd
          have hVs := hgV.size
          have hV : ∀ g : Nat, g < w8.heap.size → g ≠ g3 → V.heap[g]? = w8.heap[g]? := fun g h1 h2 => hgV.block g h1 (fun e => h2 (by injection e))
          have hk9 : ∀ g : Nat, b2 ≤ g → g < w3.heap.size → (Value.slice (some ⟨g3, 0, none⟩) rs.length c3).ownBlock ≠ some g → V.heap[g]? = w3.heap[g]? := fun g h1 h2 h3 => (hV g (by omega) (by rintro rfl; exact h3 rfl)).trans ((hg8.grown.block g (by omega) (fun e => by injection e with e; omega)).trans (hk5 g h1 h2 h3))
          have hru9 : RuO V b2 (.slice (some ⟨g3, 0, none⟩) rs.length c3) (rs.set l (t0, k8, s8, ks8)) := OwnG.imp (K' := fun ks a => KP V b2 V.heap.size ks a ks.len) ⟨by omega, _, by rw [List.length_set]; exact ho9, Ht.out⟩ (fun ks a hK => by
            rcases hK with ⟨L1, B1, p1, p2, p3, p4⟩ | hK
            · exact p1.keep p2 (by omega) (fun g h1 h2 => hk9 g (by omega) (by omega) (fun e => by have := p4 g e; omega))
            · exact hK.keep (by omega) hVs (fun g h1 h2 => hV g h2 (by omega)))
          have hf9 : OwnsF V (w.heap.size + 1 + 1) (.slice b1 fs.length d1) fs := ownsF_ne (hf5.step (by omega) hg8) hgV (fun g e h => by
            have e' : g3 = g := Option.some.inj h
            have := hv1 _ e
            omega)
          have hx0' := hsm _ (List.mem_of_getElem? hx0)
          have hsm9 : RuSm (z + 3) (rs.set l (t0, k8, s8, ks8)) := fun x hx => by
            rcases List.mem_or_eq_of_mem_set hx with h' | rfl
            · have := hsm x h'; exact ⟨this.1, this.2.1, this.2.2.1, by omega⟩
            · exact ⟨hx0'.1, hs8, hf8, hz8⟩
          clear Ht ho9 hgV hV hown6 hown7 hown8 hka6 hka7 hka8 hkp6 hkp7 hkp8 hst6 hst7 hst8 hg6 hg7 hg8 he6 he7 he8 how8 hrow how q1 q2 q3 r1 r2 r3 v1 v2 v3 vf1 vf2 vf3 hka hk0 y06 y16 yf06 yf16 yl6 y07 y17 yf07 yf17 yl7 y08 y18 yf08 yf18 yl8
          obtain ⟨u0, u1, uf0, uf1, ul⟩ := he9.facts
          obtain ⟨z0, z1, zf0, zf1, zl⟩ := hr9.facts
          have Hof := Lib.hid hf9
          have Hru := Lib.hid (RuO.mono hru9 hb2)
          have Hst := Lib.hid hst9
          clear x0 x1 xf0 xf1 xl
          go_wp2_with fail
          refine bodyPost_ret (v := .agg #[.slice b1 fs.length d1, .slice (some ⟨g3, 0, none⟩) rs.length c3]) (by simp [results, Tryz.results26, go_sem, *]) rfl ?_
          exact ⟨_, _, fs, (rs.set l (t0, k8, s8, ks8)), _, rfl, ownsF_mono (ownsF_set (ownsF_set Hof.out (by omega) 0 _) (by omega) 1 _) (by omega), ((Hru.out.setCell (by omega) 0 _).setCell (by omega) 1 _).mono (by omega), hsh, by omega, hsm9, by simp; omega, ((Hst.out.setNew (by omega) _).setNew (by omega) _).more (by omega)⟩
        · go_simp
          refine Calls.mono (mut_gen (z) (by omega) (by first | exact hst05.rd.drewN 1 | exact hst05.rd) (by omega) k0 s0 ks0 a0 ks0.len c0 (by first | exact hka | exact hka.keep (Nat.le_refl _) (Nat.le_refl _) (fun _ _ _ => rfl)) hc0 hs0 hf0 hz0) ?_
          rintro e w6 ⟨k6, s6, v6, ks6, q6, rfl, hown6, hs6, hf6, hz6, hst6⟩
          obtain ⟨a6, c6, rfl, hc6, _, hkp6⟩ := hown6.form
          have hg6 : Step w5 w6 B R a n c (p + 1) _ (0 + 2) := (by first | exact ((Step.refl hst05.rd).drewN 1).trans hst6 | exact (Step.refl hst05.rd).trans hst6)
          have hl6 := hg6.grown.size
          have hh6 := hg6.hi
          have he6 := bxP_step he5 hg6 (by omega)
          have hka6 : KA w6 0 w6.heap.size ks6 a6 ks6.len := (hkp6.more (Nat.zero_le _) (Nat.le_refl _)).1
          obtain ⟨y06, y16, yf06, yf16, yl6⟩ := he6.facts
          clear hHeld
          try dsimp only
          refine hK.out _ _ trivial (fun hHeld => ?_)
          clear hK K
          try simp only [Act.put, List.setIfInBounds_toArray, List.set_cons_zero, List.set_cons_succ]
          refine wpAnyH_ready (rs := [1, 15]) (by kernel_rfl) (by simp) ?_
          refine AllReadyH.cons (o := { dst := some 38, op := Op.load 24 (Operand.tmp 37), type := 24, pos := "l3_project.go:236", after := #[{ on := 0, ground := Ground.data }], guard := none }) rfl (fun K hK => ?_) (AllReadyH.cons (o := { dst := some 52, op := Op.call { callee := Callee.value (Operand.func 46), args := #[Operand.tmp 42, Operand.tmp 51], argTypes := #[53, 43] }, type := 43, pos := "l3_project.go:236", after := #[{ on := 5, ground := Ground.data }, { on := 14, ground := Ground.data }, { on := 14, ground := Ground.chain }], guard := none }) rfl (fun K hK => ?_) AllReadyH.nil)
          · go_simp
            clear hHeld
            try dsimp only
            refine hK.out _ _ trivial (fun hHeld => ?_)
            clear hK K
            try simp only [Act.put, List.setIfInBounds_toArray, List.set_cons_zero, List.set_cons_succ]
            refine wpAnyH_ready (rs := [15]) (by kernel_rfl) (by simp) ?_
            refine AllReadyH.cons (o := { dst := some 52, op := Op.call { callee := Callee.value (Operand.func 46), args := #[Operand.tmp 42, Operand.tmp 51], argTypes := #[53, 43] }, type := 43, pos := "l3_project.go:236", after := #[{ on := 5, ground := Ground.data }, { on := 14, ground := Ground.data }, { on := 14, ground := Ground.chain }], guard := none }) rfl (fun K hK => ?_) AllReadyH.nil
            go_simp
            refine Calls.mono (mut_gen (z + 1) (by omega) (by first | exact hst6.rd.drewN 1 | exact hst6.rd) (by omega) k6 s6 ks6 a6 ks6.len c6 (by first | exact hka6 | exact hka6.keep (Nat.le_refl _) (Nat.le_refl _) (fun _ _ _ => rfl)) hc6 hs6 hf6 hz6) ?_
            rintro e w7 ⟨k7, s7, v7, ks7, q7, rfl, hown7, hs7, hf7, hz7, hst7⟩
            obtain ⟨a7, c7, rfl, hc7, _, hkp7⟩ := hown7.form
            have hg7 : Step w5 w7 B R a n c (p + 1) _ (0 + 2 + 2) := (by first | exact (hg6.drewN 1).trans hst7 | exact hg6.trans hst7)
            have hl7 := hg7.grown.size
            have hh7 := hg7.hi
            have he7 := bxP_step he5 hg7 (by omega)
            have hka7 : KA w7 0 w7.heap.size ks7 a7 ks7.len := (hkp7.more (Nat.zero_le _) (Nat.le_refl _)).1
            obtain ⟨y07, y17, yf07, yf17, yl7⟩ := he7.facts
            clear hHeld
            try dsimp only
            refine hK.out _ _ trivial (fun hHeld => ?_)
            clear hK K
            try simp only [Act.put, List.setIfInBounds_toArray, List.set_cons_zero, List.set_cons_succ]
            refine wpAnyH_ready (rs := [16]) (by kernel_rfl) (by simp) ?_
            refine AllReadyH.cons (o := { dst := some 53, op := Op.call { callee := Callee.value (Operand.func 46), args := #[Operand.tmp 41, Operand.tmp 52], argTypes := #[53, 43] }, type := 43, pos := "l3_project.go:236", after := #[{ on := 4, ground := Ground.data }, { on := 15, ground := Ground.data }, { on := 15, ground := Ground.chain }], guard := none }) rfl (fun K hK => ?_) AllReadyH.nil
            go_simp
            refine Calls.mono (mut_gen (z + 1 + 1) (by omega) (by first | exact hst7.rd.drewN 1 | exact hst7.rd) (by omega) k7 s7 ks7 a7 ks7.len c7 (by first | exact hka7 | exact hka7.keep (Nat.le_refl _) (Nat.le_refl _) (fun _ _ _ => rfl)) hc7 hs7 hf7 hz7) ?_
            rintro e w8 ⟨k8, s8, v8, ks8, q8, rfl, hown8, hs8, hf8, hz8, hst8⟩
            obtain ⟨a8, c8, rfl, hc8, _, hkp8⟩ := hown8.form
            have hg8 : Step w5 w8 B R a n c (p + 1) _ (0 + 2 + 2 + 2) := (by first | exact (hg7.drewN 1).trans hst8 | exact hg7.trans hst8)
            have hl8 := hg8.grown.size
            have hh8 := hg8.hi
            have he8 := bxP_step he5 hg8 (by omega)
            have hka8 : KA w8 0 w8.heap.size ks8 a8 ks8.len := (hkp8.more (Nat.zero_le _) (Nat.le_refl _)).1
            obtain ⟨y08, y18, yf08, yf18, yl8⟩ := he8.facts
            have how8 := World.ownsRow.kept how hg8.grown (.inr (fun e => by simp [Value.ownBlock] at e; omega))
            have v1 := (how8.cellAt (l * 4 + 1) (by omega)).trans q1
            have v2 := (how8.cellAt (l * 4 + 2) (by omega)).trans q2
            have v3 := (how8.cellAt (l * 4 + 3) (by omega)).trans q3
            have vf1 := how8.frozenAt (l * 4 + 1)
            have vf2 := how8.frozenAt (l * 4 + 2)
            have vf3 := how8.frozenAt (l * 4 + 3)
            clear hHeld
            try dsimp only
            refine hK.out _ _ trivial (fun hHeld => ?_)
            clear hK K
            try simp only [Act.put, List.setIfInBounds_toArray, List.set_cons_zero, List.set_cons_succ]
            refine wpAnyH_take (i := 17) (oi := { dst := some 54, op := Op.indexAddr 24 (Operand.tmp 38) (Operand.tmp 40), type := 0, pos := "l3_project.go:236", after := #[{ on := 1, ground := Ground.data }, { on := 3, ground := Ground.data }, { on := 0, ground := Ground.phase }, { on := 1, ground := Ground.phase }, { on := 2, ground := Ground.phase }, { on := 3, ground := Ground.phase }, { on := 4, ground := Ground.phase }, { on := 5, ground := Ground.phase }, { on := 6, ground := Ground.phase }, { on := 7, ground := Ground.phase }, { on := 8, ground := Ground.phase }, { on := 9, ground := Ground.phase }, { on := 10, ground := Ground.phase }, { on := 11, ground := Ground.phase }, { on := 12, ground := Ground.phase }, { on := 13, ground := Ground.phase }, { on := 14, ground := Ground.phase }, { on := 15, ground := Ground.phase }, { on := 16, ground := Ground.phase }], guard := none }) (v := ?vq36_17) rfl (by kernel_rfl) (by kernel_rfl) (by kernel_rfl) (fun _ _ _ h => h) (Or.inl ⟨by rfl, ?hyq36_17⟩) (by assumption) ?_
            case hyq36_17 =>
              intro W hSW
              try dsimp only at hSW
              go_simp
              try with_reducible rfl
            try simp only [Act.put, List.setIfInBounds_toArray, List.set_cons_zero, List.set_cons_succ]
            refine wpAnyH_take (i := 18) (oi := { dst := some 55, op := Op.fieldAddr 45 (Operand.tmp 54) 1, type := 0, pos := "l3_project.go:236", after := #[{ on := 17, ground := Ground.data }, { on := 0, ground := Ground.phase }, { on := 1, ground := Ground.phase }, { on := 2, ground := Ground.phase }, { on := 3, ground := Ground.phase }, { on := 4, ground := Ground.phase }, { on := 5, ground := Ground.phase }, { on := 6, ground := Ground.phase }, { on := 7, ground := Ground.phase }, { on := 8, ground := Ground.phase }, { on := 9, ground := Ground.phase }, { on := 10, ground := Ground.phase }, { on := 11, ground := Ground.phase }, { on := 12, ground := Ground.phase }, { on := 13, ground := Ground.phase }, { on := 14, ground := Ground.phase }, { on := 15, ground := Ground.phase }, { on := 16, ground := Ground.phase }], guard := none }) (v := ?vq37_18) rfl (by kernel_rfl) (by kernel_rfl) (by kernel_rfl) (fun _ _ _ h => h) (Or.inl ⟨by rfl, ?hyq37_18⟩) (by assumption) ?_
            case hyq37_18 =>
              intro W hSW
              try dsimp only at hSW
              go_simp
              try with_reducible rfl
            try simp only [Act.put, List.setIfInBounds_toArray, List.set_cons_zero, List.set_cons_succ]
            refine wpAnyH_ready (rs := [19]) (by kernel_rfl) (by simp) ?_
            refine AllReadyH.cons (o := { dst := none, op := Op.store 43 (Operand.tmp 55) (Operand.tmp 53), type := 0, pos := "l3_project.go:236", after := #[{ on := 18, ground := Ground.data }, { on := 16, ground := Ground.data }, { on := 16, ground := Ground.chain }, { on := 0, ground := Ground.phase }, { on := 1, ground := Ground.phase }, { on := 2, ground := Ground.phase }, { on := 3, ground := Ground.phase }, { on := 4, ground := Ground.phase }, { on := 5, ground := Ground.phase }, { on := 6, ground := Ground.phase }, { on := 7, ground := Ground.phase }, { on := 8, ground := Ground.phase }, { on := 9, ground := Ground.phase }, { on := 10, ground := Ground.phase }, { on := 11, ground := Ground.phase }, { on := 12, ground := Ground.phase }, { on := 13, ground := Ground.phase }, { on := 14, ground := Ground.phase }, { on := 15, ground := Ground.phase }, { on := 16, ground := Ground.phase }], guard := none }) rfl (fun K hK => ?_) AllReadyH.nil
            go_simp
            clear hHeld
            try dsimp only
            refine hK.out _ _ trivial (fun hHeld => ?_)
            clear hK K
            try simp only [Act.put, List.setIfInBounds_toArray, List.set_cons_zero, List.set_cons_succ]
            refine wpAnyH_done (by kernel_rfl) ?_ _
            have Ht := Lib.hid (rowG_body (k' := k8) (s' := s8) (K := fun ks a => (∃ L1 B1, KP w3 L1 B1 ks a ks.len ∧ b2 ≤ L1 ∧ B1 ≤ w3.heap.size ∧ ∀ g, (Value.slice (some ⟨g3, 0, none⟩) rs.length c3).ownBlock = some g → g < L1 ∨ B1 ≤ g) ∨ KP w8 w5.heap.size w8.heap.size ks a ks.len) hc8 (Or.inr (hkp8.more (by omega) (Nat.le_refl _))) (rowG_imp (fun ks a h => Or.inl h) hrow) hx0)
            have ho9 := (World.ownsRow.stored (World.ownsRow.stored (World.ownsRow.stored how8 (l * 4 + 1) (.int .i64 k8)).1 (l * 4 + 2) (.string s8)).1 (l * 4 + 3) (.slice a8 ks8.len c8)).1
            have hgV := grown_set (p := ⟨g3, l * 4 + 3, none⟩) (grown_set (p := ⟨g3, l * 4 + 2, none⟩) (grown_set (p := ⟨g3, l * 4 + 1, none⟩) (World.grownBy.refl w8 (some g3)) (.inl rfl) (.int .i64 k8)) (.inl rfl) (.string s8)) (.inl rfl) (.slice a8 ks8.len c8)
            have he9 := ((he8.other (g' := g3) (by omega) (l * 4 + 1) (.int .i64 k8)).other (g' := g3) (by omega) (l * 4 + 2) (.string s8)).other (g' := g3) (by omega) (l * 4 + 3) (.slice a8 ks8.len c8)
            have hr9 := (((bxP_step hr5 hg8 (by omega)).other (g' := g3) (by omega) (l * 4 + 1) (.int .i64 k8)).other (g' := g3) (by omega) (l * 4 + 2) (.string s8)).other (g' := g3) (by omega) (l * 4 + 3) (.slice a8 ks8.len c8)
            have hst9 := (((hst05.trans hg8).setNew (g := g3) (j := l * 4 + 1) (by omega) (.int .i64 k8)).setNew (g := g3) (j := l * 4 + 2) (by omega) (.string s8)).setNew (g := g3) (j := l * 4 + 3) (by omega) (.slice a8 ks8.len c8)
            generalize hVd : ((w8.setCell ⟨g3, l * 4 + 1, none⟩ (.int .i64 k8)).setCell ⟨g3, l * 4 + 2, none⟩ (.string s8)).setCell ⟨g3, l * 4 + 3, none⟩ (.slice a8 ks8.len c8) = V at *
            clear hVd
            have hVs := hgV.size
            have hV : ∀ g : Nat, g < w8.heap.size → g ≠ g3 → V.heap[g]? = w8.heap[g]? := fun g h1 h2 => hgV.block g h1 (fun e => h2 (by injection e))
            have hk9 : ∀ g : Nat, b2 ≤ g → g < w3.heap.size → (Value.slice (some ⟨g3, 0, none⟩) rs.length c3).ownBlock ≠ some g → V.heap[g]? = w3.heap[g]? := fun g h1 h2 h3 => (hV g (by omega) (by rintro rfl; exact h3 rfl)).trans ((hg8.grown.block g (by omega) (fun e => by injection e with e; omega)).trans (hk5 g h1 h2 h3))
            have hru9 : RuO V b2 (.slice (some ⟨g3, 0, none⟩) rs.length c3) (rs.set l (t0, k8, s8, ks8)) := OwnG.imp (K' := fun ks a => KP V b2 V.heap.size ks a ks.len) ⟨by omega, _, by rw [List.length_set]; exact ho9, Ht.out⟩ (fun ks a hK => by
              rcases hK with ⟨L1, B1, p1, p2, p3, p4⟩ | hK
              · exact p1.keep p2 (by omega) (fun g h1 h2 => hk9 g (by omega) (by omega) (fun e => by have := p4 g e; omega))
              · exact hK.keep (by omega) hVs (fun g h1 h2 => hV g h2 (by omega)))
            have hf9 : OwnsF V (w.heap.size + 1 + 1) (.slice b1 fs.length d1) fs := ownsF_ne (hf5.step (by omega) hg8) hgV (fun g e h => by
              have e' : g3 = g := Option.some.inj h
              have := hv1 _ e
              omega)
            have hx0' := hsm _ (List.mem_of_getElem? hx0)
            have hsm9 : RuSm (z + 3) (rs.set l (t0, k8, s8, ks8)) := fun x hx => by
              rcases List.mem_or_eq_of_mem_set hx with h' | rfl
              · have := hsm x h'; exact ⟨this.1, this.2.1, this.2.2.1, by omega⟩
              · exact ⟨hx0'.1, hs8, hf8, hz8⟩
            clear Ht ho9 hgV hV hown6 hown7 hown8 hka6 hka7 hka8 hkp6 hkp7 hkp8 hst6 hst7 hst8 hg6 hg7 hg8 he6 he7 he8 how8 hrow how q1 q2 q3 r1 r2 r3 v1 v2 v3 vf1 vf2 vf3 hka hk0 y06 y16 yf06 yf16 yl6 y07 y17 yf07 yf17 yl7 y08 y18 yf08 yf18 yl8
            obtain ⟨u0, u1, uf0, uf1, ul⟩ := he9.facts
            obtain ⟨z0, z1, zf0, zf1, zl⟩ := hr9.facts
            have Hof := Lib.hid hf9
            have Hru := Lib.hid (RuO.mono hru9 hb2)
            have Hst := Lib.hid hst9
            clear x0 x1 xf0 xf1 xl
            go_wp2_with fail
            refine bodyPost_ret (v := .agg #[.slice b1 fs.length d1, .slice (some ⟨g3, 0, none⟩) rs.length c3]) (by simp [results, Tryz.results26, go_sem, *]) rfl ?_
            exact ⟨_, _, fs, (rs.set l (t0, k8, s8, ks8)), _, rfl, ownsF_mono (ownsF_set (ownsF_set Hof.out (by omega) 0 _) (by omega) 1 _) (by omega), ((Hru.out.setCell (by omega) 0 _).setCell (by omega) 1 _).mono (by omega), hsh, by omega, hsm9, by simp; omega, ((Hst.out.setNew (by omega) _).setNew (by omega) _).more (by omega)⟩
          · go_simp
            refine Calls.mono (mut_gen (z + 1) (by omega) (by first | exact hst6.rd.drewN 1 | exact hst6.rd) (by omega) k6 s6 ks6 a6 ks6.len c6 (by first | exact hka6 | exact hka6.keep (Nat.le_refl _) (Nat.le_refl _) (fun _ _ _ => rfl)) hc6 hs6 hf6 hz6) ?_
            rintro e w7 ⟨k7, s7, v7, ks7, q7, rfl, hown7, hs7, hf7, hz7, hst7⟩
            obtain ⟨a7, c7, rfl, hc7, _, hkp7⟩ := hown7.form
            have hg7 : Step w5 w7 B R a n c (p + 1) _ (0 + 2 + 2) := (by first | exact (hg6.drewN 1).trans hst7 | exact hg6.trans hst7)
            have hl7 := hg7.grown.size
            have hh7 := hg7.hi
            have he7 := bxP_step he5 hg7 (by omega)
            have hka7 : KA w7 0 w7.heap.size ks7 a7 ks7.len := (hkp7.more (Nat.zero_le _) (Nat.le_refl _)).1
            obtain ⟨y07, y17, yf07, yf17, yl7⟩ := he7.facts
            clear hHeld
            try dsimp only
            refine hK.out _ _ trivial (fun hHeld => ?_)
            clear hK K
            try simp only [Act.put, List.setIfInBounds_toArray, List.set_cons_zero, List.set_cons_succ]
            refine wpAnyH_ready (rs := [1, 16]) (by kernel_rfl) (by simp) ?_
            refine AllReadyH.cons (o := { dst := some 38, op := Op.load 24 (Operand.tmp 37), type := 24, pos := "l3_project.go:236", after := #[{ on := 0, ground := Ground.data }], guard := none }) rfl (fun K hK => ?_) (AllReadyH.cons (o := { dst := some 53, op := Op.call { callee := Callee.value (Operand.func 46), args := #[Operand.tmp 41, Operand.tmp 52], argTypes := #[53, 43] }, type := 43, pos := "l3_project.go:236", after := #[{ on := 4, ground := Ground.data }, { on := 15, ground := Ground.data }, { on := 15, ground := Ground.chain }], guard := none }) rfl (fun K hK => ?_) AllReadyH.nil)
            · go_simp
              clear hHeld
              try dsimp only
              refine hK.out _ _ trivial (fun hHeld => ?_)
              clear hK K
              try simp only [Act.put, List.setIfInBounds_toArray, List.set_cons_zero, List.set_cons_succ]
              refine wpAnyH_ready (rs := [16]) (by kernel_rfl) (by simp) ?_
              refine AllReadyH.cons (o := { dst := some 53, op := Op.call { callee := Callee.value (Operand.func 46), args := #[Operand.tmp 41, Operand.tmp 52], argTypes := #[53, 43] }, type := 43, pos := "l3_project.go:236", after := #[{ on := 4, ground := Ground.data }, { on := 15, ground := Ground.data }, { on := 15, ground := Ground.chain }], guard := none }) rfl (fun K hK => ?_) AllReadyH.nil
              go_simp
              refine Calls.mono (mut_gen (z + 1 + 1) (by omega) (by first | exact hst7.rd.drewN 1 | exact hst7.rd) (by omega) k7 s7 ks7 a7 ks7.len c7 (by first | exact hka7 | exact hka7.keep (Nat.le_refl _) (Nat.le_refl _) (fun _ _ _ => rfl)) hc7 hs7 hf7 hz7) ?_
              rintro e w8 ⟨k8, s8, v8, ks8, q8, rfl, hown8, hs8, hf8, hz8, hst8⟩
              obtain ⟨a8, c8, rfl, hc8, _, hkp8⟩ := hown8.form
              have hg8 : Step w5 w8 B R a n c (p + 1) _ (0 + 2 + 2 + 2) := (by first | exact (hg7.drewN 1).trans hst8 | exact hg7.trans hst8)
              have hl8 := hg8.grown.size
              have hh8 := hg8.hi
              have he8 := bxP_step he5 hg8 (by omega)
              have hka8 : KA w8 0 w8.heap.size ks8 a8 ks8.len := (hkp8.more (Nat.zero_le _) (Nat.le_refl _)).1
              obtain ⟨y08, y18, yf08, yf18, yl8⟩ := he8.facts
              have how8 := World.ownsRow.kept how hg8.grown (.inr (fun e => by simp [Value.ownBlock] at e; omega))
              have v1 := (how8.cellAt (l * 4 + 1) (by omega)).trans q1
              have v2 := (how8.cellAt (l * 4 + 2) (by omega)).trans q2
              have v3 := (how8.cellAt (l * 4 + 3) (by omega)).trans q3
              have vf1 := how8.frozenAt (l * 4 + 1)
              have vf2 := how8.frozenAt (l * 4 + 2)
              have vf3 := how8.frozenAt (l * 4 + 3)
              clear hHeld
              try dsimp only
              refine hK.out _ _ trivial (fun hHeld => ?_)
              clear hK K
              try simp only [Act.put, List.setIfInBounds_toArray, List.set_cons_zero, List.set_cons_succ]
              refine wpAnyH_take (i := 17) (oi := { dst := some 54, op := Op.indexAddr 24 (Operand.tmp 38) (Operand.tmp 40), type := 0, pos := "l3_project.go:236", after := #[{ on := 1, ground := Ground.data }, { on := 3, ground := Ground.data }, { on := 0, ground := Ground.phase }, { on := 1, ground := Ground.phase }, { on := 2, ground := Ground.phase }, { on := 3, ground := Ground.phase }, { on := 4, ground := Ground.phase }, { on := 5, ground := Ground.phase }, { on := 6, ground := Ground.phase }, { on := 7, ground := Ground.phase }, { on := 8, ground := Ground.phase }, { on := 9, ground := Ground.phase }, { on := 10, ground := Ground.phase }, { on := 11, ground := Ground.phase }, { on := 12, ground := Ground.phase }, { on := 13, ground := Ground.phase }, { on := 14, ground := Ground.phase }, { on := 15, ground := Ground.phase }, { on := 16, ground := Ground.phase }], guard := none }) (v := ?vq38_17) rfl (by kernel_rfl) (by kernel_rfl) (by kernel_rfl) (fun _ _ _ h => h) (Or.inl ⟨by rfl, ?hyq38_17⟩) (by assumption) ?_
              case hyq38_17 =>
                intro W hSW
                try dsimp only at hSW
                go_simp
                try with_reducible rfl
              try simp only [Act.put, List.setIfInBounds_toArray, List.set_cons_zero, List.set_cons_succ]
              refine wpAnyH_take (i := 18) (oi := { dst := some 55, op := Op.fieldAddr 45 (Operand.tmp 54) 1, type := 0, pos := "l3_project.go:236", after := #[{ on := 17, ground := Ground.data }, { on := 0, ground := Ground.phase }, { on := 1, ground := Ground.phase }, { on := 2, ground := Ground.phase }, { on := 3, ground := Ground.phase }, { on := 4, ground := Ground.phase }, { on := 5, ground := Ground.phase }, { on := 6, ground := Ground.phase }, { on := 7, ground := Ground.phase }, { on := 8, ground := Ground.phase }, { on := 9, ground := Ground.phase }, { on := 10, ground := Ground.phase }, { on := 11, ground := Ground.phase }, { on := 12, ground := Ground.phase }, { on := 13, ground := Ground.phase }, { on := 14, ground := Ground.phase }, { on := 15, ground := Ground.phase }, { on := 16, ground := Ground.phase }], guard := none }) (v := ?vq39_18) rfl (by kernel_rfl) (by kernel_rfl) (by kernel_rfl) (fun _ _ _ h => h) (Or.inl ⟨by rfl, ?hyq39_18⟩) (by assumption) ?_
              case hyq39_18 =>
                intro W hSW
                try dsimp only at hSW
                go_simp
                try with_reducible rfl
              try simp only [Act.put, List.setIfInBounds_toArray, List.set_cons_zero, List.set_cons_succ]
              refine wpAnyH_ready (rs := [19]) (by kernel_rfl) (by simp) ?_
              refine AllReadyH.cons (o := { dst := none, op := Op.store 43 (Operand.tmp 55) (Operand.tmp 53), type := 0, pos := "l3_project.go:236", after := #[{ on := 18, ground := Ground.data }, { on := 16, ground := Ground.data }, { on := 16, ground := Ground.chain }, { on := 0, ground := Ground.phase }, { on := 1, ground := Ground.phase }, { on := 2, ground := Ground.phase }, { on := 3, ground := Ground.phase }, { on := 4, ground := Ground.phase }, { on := 5, ground := Ground.phase }, { on := 6, ground := Ground.phase }, { on := 7, ground := Ground.phase }, { on := 8, ground := Ground.phase }, { on := 9, ground := Ground.phase }, { on := 10, ground := Ground.phase }, { on := 11, ground := Ground.phase }, { on := 12, ground := Ground.phase }, { on := 13, ground := Ground.phase }, { on := 14, ground := Ground.phase }, { on := 15, ground := Ground.phase }, { on := 16, ground := Ground.phase }], guard := none }) rfl (fun K hK => ?_) AllReadyH.nil
              go_simp
              clear hHeld
              try dsimp only
              refine hK.out _ _ trivial (fun hHeld => ?_)
              clear hK K
              try simp only [Act.put, List.setIfInBounds_toArray, List.set_cons_zero, List.set_cons_succ]
              refine wpAnyH_done (by kernel_rfl) ?_ _
              have Ht := Lib.hid (rowG_body (k' := k8) (s' := s8) (K := fun ks a => (∃ L1 B1, KP w3 L1 B1 ks a ks.len ∧ b2 ≤ L1 ∧ B1 ≤ w3.heap.size ∧ ∀ g, (Value.slice (some ⟨g3, 0, none⟩) rs.length c3).ownBlock = some g → g < L1 ∨ B1 ≤ g) ∨ KP w8 w5.heap.size w8.heap.size ks a ks.len) hc8 (Or.inr (hkp8.more (by omega) (Nat.le_refl _))) (rowG_imp (fun ks a h => Or.inl h) hrow) hx0)
              have ho9 := (World.ownsRow.stored (World.ownsRow.stored (World.ownsRow.stored how8 (l * 4 + 1) (.int .i64 k8)).1 (l * 4 + 2) (.string s8)).1 (l * 4 + 3) (.slice a8 ks8.len c8)).1
              have hgV := grown_set (p := ⟨g3, l * 4 + 3, none⟩) (grown_set (p := ⟨g3, l * 4 + 2, none⟩) (grown_set (p := ⟨g3, l * 4 + 1, none⟩) (World.grownBy.refl w8 (some g3)) (.inl rfl) (.int .i64 k8)) (.inl rfl) (.string s8)) (.inl rfl) (.slice a8 ks8.len c8)
              have he9 := ((he8.other (g' := g3) (by omega) (l * 4 + 1) (.int .i64 k8)).other (g' := g3) (by omega) (l * 4 + 2) (.string s8)).other (g' := g3) (by omega) (l * 4 + 3) (.slice a8 ks8.len c8)
              have hr9 := (((bxP_step hr5 hg8 (by omega)).other (g' := g3) (by omega) (l * 4 + 1) (.int .i64 k8)).other (g' := g3) (by omega) (l * 4 + 2) (.string s8)).other (g' := g3) (by omega) (l * 4 + 3) (.slice a8 ks8.len c8)
              have hst9 := (((hst05.trans hg8).setNew (g := g3) (j := l * 4 + 1) (by omega) (.int .i64 k8)).setNew (g := g3) (j := l * 4 + 2) (by omega) (.string s8)).setNew (g := g3) (j := l * 4 + 3) (by omega) (.slice a8 ks8.len c8)
              generalize hVd : ((w8.setCell ⟨g3, l * 4 + 1, none⟩ (.int .i64 k8)).setCell ⟨g3, l * 4 + 2, none⟩ (.string s8)).setCell ⟨g3, l * 4 + 3, none⟩ (.slice a8 ks8.len c8) = V at *
              clear hVd
              have hVs := hgV.size
              have hV : ∀ g : Nat, g < w8.heap.size → g ≠ g3 → V.heap[g]? = w8.heap[g]? := fun g h1 h2 => hgV.block g h1 (fun e => h2 (by injection e))
              have hk9 : ∀ g : Nat, b2 ≤ g → g < w3.heap.size → (Value.slice (some ⟨g3, 0, none⟩) rs.length c3).ownBlock ≠ some g → V.heap[g]? = w3.heap[g]? := fun g h1 h2 h3 => (hV g (by omega) (by rintro rfl; exact h3 rfl)).trans ((hg8.grown.block g (by omega) (fun e => by injection e with e; omega)).trans (hk5 g h1 h2 h3))
              have hru9 : RuO V b2 (.slice (some ⟨g3, 0, none⟩) rs.length c3) (rs.set l (t0, k8, s8, ks8)) := OwnG.imp (K' := fun ks a => KP V b2 V.heap.size ks a ks.len) ⟨by omega, _, by rw [List.length_set]; exact ho9, Ht.out⟩ (fun ks a hK => by
                rcases hK with ⟨L1, B1, p1, p2, p3, p4⟩ | hK
                · exact p1.keep p2 (by omega) (fun g h1 h2 => hk9 g (by omega) (by omega) (fun e => by have := p4 g e; omega))
                · exact hK.keep (by omega) hVs (fun g h1 h2 => hV g h2 (by omega)))
              have hf9 : OwnsF V (w.heap.size + 1 + 1) (.slice b1 fs.length d1) fs := ownsF_ne (hf5.step (by omega) hg8) hgV (fun g e h => by
                have e' : g3 = g := Option.some.inj h
                have := hv1 _ e
                omega)
              have hx0' := hsm _ (List.mem_of_getElem? hx0)
              have hsm9 : RuSm (z + 3) (rs.set l (t0, k8, s8, ks8)) := fun x hx => by
                rcases List.mem_or_eq_of_mem_set hx with h' | rfl
                · have := hsm x h'; exact ⟨this.1, this.2.1, this.2.2.1, by omega⟩
                · exact ⟨hx0'.1, hs8, hf8, hz8⟩
              clear Ht ho9 hgV hV hown6 hown7 hown8 hka6 hka7 hka8 hkp6 hkp7 hkp8 hst6 hst7 hst8 hg6 hg7 hg8 he6 he7 he8 how8 hrow how q1 q2 q3 r1 r2 r3 v1 v2 v3 vf1 vf2 vf3 hka hk0 y06 y16 yf06 yf16 yl6 y07 y17 yf07 yf17 yl7 y08 y18 yf08 yf18 yl8
              obtain ⟨u0, u1, uf0, uf1, ul⟩ := he9.facts
              obtain ⟨z0, z1, zf0, zf1, zl⟩ := hr9.facts
              have Hof := Lib.hid hf9
              have Hru := Lib.hid (RuO.mono hru9 hb2)
              have Hst := Lib.hid hst9
              clear x0 x1 xf0 xf1 xl
              go_wp2_with fail
              refine bodyPost_ret (v := .agg #[.slice b1 fs.length d1, .slice (some ⟨g3, 0, none⟩) rs.length c3]) (by simp [results, Tryz.results26, go_sem, *]) rfl ?_
              exact ⟨_, _, fs, (rs.set l (t0, k8, s8, ks8)), _, rfl, ownsF_mono (ownsF_set (ownsF_set Hof.out (by omega) 0 _) (by omega) 1 _) (by omega), ((Hru.out.setCell (by omega) 0 _).setCell (by omega) 1 _).mono (by omega), hsh, by omega, hsm9, by simp; omega, ((Hst.out.setNew (by omega) _).setNew (by omega) _).more (by omega)⟩
            · go_simp
              refine Calls.mono (mut_gen (z + 1 + 1) (by omega) (by first | exact hst7.rd.drewN 1 | exact hst7.rd) (by omega) k7 s7 ks7 a7 ks7.len c7 (by first | exact hka7 | exact hka7.keep (Nat.le_refl _) (Nat.le_refl _) (fun _ _ _ => rfl)) hc7 hs7 hf7 hz7) ?_
              rintro e w8 ⟨k8, s8, v8, ks8, q8, rfl, hown8, hs8, hf8, hz8, hst8⟩
              obtain ⟨a8, c8, rfl, hc8, _, hkp8⟩ := hown8.form
              have hg8 : Step w5 w8 B R a n c (p + 1) _ (0 + 2 + 2 + 2) := (by first | exact (hg7.drewN 1).trans hst8 | exact hg7.trans hst8)
              have hl8 := hg8.grown.size
              have hh8 := hg8.hi
              have he8 := bxP_step he5 hg8 (by omega)
              have hka8 : KA w8 0 w8.heap.size ks8 a8 ks8.len := (hkp8.more (Nat.zero_le _) (Nat.le_refl _)).1
              obtain ⟨y08, y18, yf08, yf18, yl8⟩ := he8.facts
              have how8 := World.ownsRow.kept how hg8.grown (.inr (fun e => by simp [Value.ownBlock] at e; omega))
              have v1 := (how8.cellAt (l * 4 + 1) (by omega)).trans q1
              have v2 := (how8.cellAt (l * 4 + 2) (by omega)).trans q2
              have v3 := (how8.cellAt (l * 4 + 3) (by omega)).trans q3
              have vf1 := how8.frozenAt (l * 4 + 1)
              have vf2 := how8.frozenAt (l * 4 + 2)
              have vf3 := how8.frozenAt (l * 4 + 3)
              clear hHeld
              try dsimp only
              refine hK.out _ _ trivial (fun hHeld => ?_)
              clear hK K
              try simp only [Act.put, List.setIfInBounds_toArray, List.set_cons_zero, List.set_cons_succ]
              refine wpAnyH_ready (rs := [1]) (by kernel_rfl) (by simp) ?_
              refine AllReadyH.cons (o := { dst := some 38, op := Op.load 24 (Operand.tmp 37), type := 24, pos := "l3_project.go:236", after := #[{ on := 0, ground := Ground.data }], guard := none }) rfl (fun K hK => ?_) AllReadyH.nil
              go_simp
              clear hHeld
              try dsimp only
              refine hK.out _ _ trivial (fun hHeld => ?_)
              clear hK K
              try simp only [Act.put, List.setIfInBounds_toArray, List.set_cons_zero, List.set_cons_succ]
              refine wpAnyH_take (i := 17) (oi := { dst := some 54, op := Op.indexAddr 24 (Operand.tmp 38) (Operand.tmp 40), type := 0, pos := "l3_project.go:236", after := #[{ on := 1, ground := Ground.data }, { on := 3, ground := Ground.data }, { on := 0, ground := Ground.phase }, { on := 1, ground := Ground.phase }, { on := 2, ground := Ground.phase }, { on := 3, ground := Ground.phase }, { on := 4, ground := Ground.phase }, { on := 5, ground := Ground.phase }, { on := 6, ground := Ground.phase }, { on := 7, ground := Ground.phase }, { on := 8, ground := Ground.phase }, { on := 9, ground := Ground.phase }, { on := 10, ground := Ground.phase }, { on := 11, ground := Ground.phase }, { on := 12, ground := Ground.phase }, { on := 13, ground := Ground.phase }, { on := 14, ground := Ground.phase }, { on := 15, ground := Ground.phase }, { on := 16, ground := Ground.phase }], guard := none }) (v := ?vq40_17) rfl (by kernel_rfl) (by kernel_rfl) (by kernel_rfl) (fun _ _ _ h => h) (Or.inl ⟨by rfl, ?hyq40_17⟩) (by assumption) ?_
              case hyq40_17 =>
                intro W hSW
                try dsimp only at hSW
                go_simp
                try with_reducible rfl
              try simp only [Act.put, List.setIfInBounds_toArray, List.set_cons_zero, List.set_cons_succ]
              refine wpAnyH_take (i := 18) (oi := { dst := some 55, op := Op.fieldAddr 45 (Operand.tmp 54) 1, type := 0, pos := "l3_project.go:236", after := #[{ on := 17, ground := Ground.data }, { on := 0, ground := Ground.phase }, { on := 1, ground := Ground.phase }, { on := 2, ground := Ground.phase }, { on := 3, ground := Ground.phase }, { on := 4, ground := Ground.phase }, { on := 5, ground := Ground.phase }, { on := 6, ground := Ground.phase }, { on := 7, ground := Ground.phase }, { on := 8, ground := Ground.phase }, { on := 9, ground := Ground.phase }, { on := 10, ground := Ground.phase }, { on := 11, ground := Ground.phase }, { on := 12, ground := Ground.phase }, { on := 13, ground := Ground.phase }, { on := 14, ground := Ground.phase }, { on := 15, ground := Ground.phase }, { on := 16, ground := Ground.phase }], guard := none }) (v := ?vq41_18) rfl (by kernel_rfl) (by kernel_rfl) (by kernel_rfl) (fun _ _ _ h => h) (Or.inl ⟨by rfl, ?hyq41_18⟩) (by assumption) ?_
              case hyq41_18 =>
                intro W hSW
                try dsimp only at hSW
                go_simp
                try with_reducible rfl
              try simp only [Act.put, List.setIfInBounds_toArray, List.set_cons_zero, List.set_cons_succ]
              refine wpAnyH_ready (rs := [19]) (by kernel_rfl) (by simp) ?_
              refine AllReadyH.cons (o := { dst := none, op := Op.store 43 (Operand.tmp 55) (Operand.tmp 53), type := 0, pos := "l3_project.go:236", after := #[{ on := 18, ground := Ground.data }, { on := 16, ground := Ground.data }, { on := 16, ground := Ground.chain }, { on := 0, ground := Ground.phase }, { on := 1, ground := Ground.phase }, { on := 2, ground := Ground.phase }, { on := 3, ground := Ground.phase }, { on := 4, ground := Ground.phase }, { on := 5, ground := Ground.phase }, { on := 6, ground := Ground.phase }, { on := 7, ground := Ground.phase }, { on := 8, ground := Ground.phase }, { on := 9, ground := Ground.phase }, { on := 10, ground := Ground.phase }, { on := 11, ground := Ground.phase }, { on := 12, ground := Ground.phase }, { on := 13, ground := Ground.phase }, { on := 14, ground := Ground.phase }, { on := 15, ground := Ground.phase }, { on := 16, ground := Ground.phase }], guard := none }) rfl (fun K hK => ?_) AllReadyH.nil
              go_simp
              clear hHeld
              try dsimp only
              refine hK.out _ _ trivial (fun hHeld => ?_)
              clear hK K
              try simp only [Act.put, List.setIfInBounds_toArray, List.set_cons_zero, List.set_cons_succ]
              refine wpAnyH_done (by kernel_rfl) ?_ _
              have Ht := Lib.hid (rowG_body (k' := k8) (s' := s8) (K := fun ks a => (∃ L1 B1, KP w3 L1 B1 ks a ks.len ∧ b2 ≤ L1 ∧ B1 ≤ w3.heap.size ∧ ∀ g, (Value.slice (some ⟨g3, 0, none⟩) rs.length c3).ownBlock = some g → g < L1 ∨ B1 ≤ g) ∨ KP w8 w5.heap.size w8.heap.size ks a ks.len) hc8 (Or.inr (hkp8.more (by omega) (Nat.le_refl _))) (rowG_imp (fun ks a h => Or.inl h) hrow) hx0)
              have ho9 := (World.ownsRow.stored (World.ownsRow.stored (World.ownsRow.stored how8 (l * 4 + 1) (.int .i64 k8)).1 (l * 4 + 2) (.string s8)).1 (l * 4 + 3) (.slice a8 ks8.len c8)).1
              have hgV := grown_set (p := ⟨g3, l * 4 + 3, none⟩) (grown_set (p := ⟨g3, l * 4 + 2, none⟩) (grown_set (p := ⟨g3, l * 4 + 1, none⟩) (World.grownBy.refl w8 (some g3)) (.inl rfl) (.int .i64 k8)) (.inl rfl) (.string s8)) (.inl rfl) (.slice a8 ks8.len c8)
              have he9 := ((he8.other (g' := g3) (by omega) (l * 4 + 1) (.int .i64 k8)).other (g' := g3) (by omega) (l * 4 + 2) (.string s8)).other (g' := g3) (by omega) (l * 4 + 3) (.slice a8 ks8.len c8)
              have hr9 := (((bxP_step hr5 hg8 (by omega)).other (g' := g3) (by omega) (l * 4 + 1) (.int .i64 k8)).other (g' := g3) (by omega) (l * 4 + 2) (.string s8)).other (g' := g3) (by omega) (l * 4 + 3) (.slice a8 ks8.len c8)
              have hst9 := (((hst05.trans hg8).setNew (g := g3) (j := l * 4 + 1) (by omega) (.int .i64 k8)).setNew (g := g3) (j := l * 4 + 2) (by omega) (.string s8)).setNew (g := g3) (j := l * 4 + 3) (by omega) (.slice a8 ks8.len c8)
              generalize hVd : ((w8.setCell ⟨g3, l * 4 + 1, none⟩ (.int .i64 k8)).setCell ⟨g3, l * 4 + 2, none⟩ (.string s8)).setCell ⟨g3, l * 4 + 3, none⟩ (.slice a8 ks8.len c8) = V at *
              clear hVd
              have hVs := hgV.size
              have hV : ∀ g : Nat, g < w8.heap.size → g ≠ g3 → V.heap[g]? = w8.heap[g]? := fun g h1 h2 => hgV.block g h1 (fun e => h2 (by injection e))
              have hk9 : ∀ g : Nat, b2 ≤ g → g < w3.heap.size → (Value.slice (some ⟨g3, 0, none⟩) rs.length c3).ownBlock ≠ some g → V.heap[g]? = w3.heap[g]? := fun g h1 h2 h3 => (hV g (by omega) (by rintro rfl; exact h3 rfl)).trans ((hg8.grown.block g (by omega) (fun e => by injection e with e; omega)).trans (hk5 g h1 h2 h3))
              have hru9 : RuO V b2 (.slice (some ⟨g3, 0, none⟩) rs.length c3) (rs.set l (t0, k8, s8, ks8)) := OwnG.imp (K' := fun ks a => KP V b2 V.heap.size ks a ks.len) ⟨by omega, _, by rw [List.length_set]; exact ho9, Ht.out⟩ (fun ks a hK => by
                rcases hK with ⟨L1, B1, p1, p2, p3, p4⟩ | hK
                · exact p1.keep p2 (by omega) (fun g h1 h2 => hk9 g (by omega) (by omega) (fun e => by have := p4 g e; omega))
                · exact hK.keep (by omega) hVs (fun g h1 h2 => hV g h2 (by omega)))
              have hf9 : OwnsF V (w.heap.size + 1 + 1) (.slice b1 fs.length d1) fs := ownsF_ne (hf5.step (by omega) hg8) hgV (fun g e h => by
                have e' : g3 = g := Option.some.inj h
                have := hv1 _ e
                omega)
              have hx0' := hsm _ (List.mem_of_getElem? hx0)
              have hsm9 : RuSm (z + 3) (rs.set l (t0, k8, s8, ks8)) := fun x hx => by
                rcases List.mem_or_eq_of_mem_set hx with h' | rfl
                · have := hsm x h'; exact ⟨this.1, this.2.1, this.2.2.1, by omega⟩
                · exact ⟨hx0'.1, hs8, hf8, hz8⟩
              clear Ht ho9 hgV hV hown6 hown7 hown8 hka6 hka7 hka8 hkp6 hkp7 hkp8 hst6 hst7 hst8 hg6 hg7 hg8 he6 he7 he8 how8 hrow how q1 q2 q3 r1 r2 r3 v1 v2 v3 vf1 vf2 vf3 hka hk0 y06 y16 yf06 yf16 yl6 y07 y17 yf07 yf17 yl7 y08 y18 yf08 yf18 yl8
              obtain ⟨u0, u1, uf0, uf1, ul⟩ := he9.facts
              obtain ⟨z0, z1, zf0, zf1, zl⟩ := hr9.facts
              have Hof := Lib.hid hf9
              have Hru := Lib.hid (RuO.mono hru9 hb2)
              have Hst := Lib.hid hst9
              clear x0 x1 xf0 xf1 xl
              go_wp2_with fail
              refine bodyPost_ret (v := .agg #[.slice b1 fs.length d1, .slice (some ⟨g3, 0, none⟩) rs.length c3]) (by simp [results, Tryz.results26, go_sem, *]) rfl ?_
              exact ⟨_, _, fs, (rs.set l (t0, k8, s8, ks8)), _, rfl, ownsF_mono (ownsF_set (ownsF_set Hof.out (by omega) 0 _) (by omega) 1 _) (by omega), ((Hru.out.setCell (by omega) 0 _).setCell (by omega) 1 _).mono (by omega), hsh, by omega, hsm9, by simp; omega, ((Hst.out.setNew (by omega) _).setNew (by omega) _).more (by omega)⟩
  have hy2 : ((y : Int) == 2) = false := by rw [beq_eq_false_iff_ne]; omega
  by_cases y3 : y = 3
  · subst y3
    by_cases hn0 : rs.length = 0
    · have hn : ¬ (0 : Int) < (rs.length : Int) := by omega
      obtain ⟨u0, u1, uf0, uf1, ul⟩ := he5.facts
      obtain ⟨z0, z1, zf0, zf1, zl⟩ := hr5.facts
      have Hof := Lib.hid hf5
      have Hru := Lib.hid (RuO.mono (km_end hg5 (by omega) hk5) hb2)
      have Hst := Lib.hid hst05
      clear x0 x1 xf0 xf1 xl
      go_wp2_with fail
      refine bodyPost_ret (v := .agg #[.slice b1 fs.length d1, .slice a3 rs.length c3]) (by simp [results, Tryz.results26, go_sem, *]) rfl ?_
      exact ⟨_, _, fs, rs, _, rfl, ownsF_mono (ownsF_set (ownsF_set Hof.out (by omega) 0 _) (by omega) 1 _) (by omega), ((Hru.out.setCell (by omega) 0 _).setCell (by omega) 1 _).mono (by omega), hsh, by omega, (fun x hx => by have := hsm x hx; exact ⟨this.1, this.2.1, this.2.2.1, by omega⟩), by omega, ((Hst.out.setNew (by omega) _).setNew (by omega) _).more (by omega)⟩
    have hn : (0 : Int) < (rs.length : Int) := by omega
    obtain ⟨g3, rfl, hbg, hgl, xs, how, hrow⟩ := hg5.row (by omega)
    obtain ⟨⟨t0, k0, s0, ks0⟩, hx0⟩ : ∃ x, rs[0]? = some x := ⟨_, List.getElem?_eq_getElem (by omega)⟩
    obtain ⟨a0, c0, q0, q1, q2, q3, hc0, hk0⟩ := rowG_get hrow hx0
    simp only [Nat.zero_mul, Nat.zero_add] at q0 q1 q2 q3
    have hg3 : g3 < w3.heap.size := (hv2 g3 rfl).2
    have r0 := (how.cellAt 0 (by omega)).trans q0
    have rf0 := how.frozenAt 0
    have r1 := (how.cellAt 1 (by omega)).trans q1
    have r2 := (how.cellAt 2 (by omega)).trans q2
    have r3 := (how.cellAt 3 (by omega)).trans q3
    go_upto_region 14 with (fail)
    have HK0 := Lib.hid (show True from trivial)
    refine wp_region_held_drew (S := (fun _ => True)) (by kernel_rfl) HK0.out (fun hHeld => ?_)
    refine wpAnyH_take (i := 0) (oi := { dst := some 60, op := Op.fieldAddr 26 (Operand.tmp 5) 1, type := 0, pos := "l3_project.go:240", after := #[], guard := none }) (v := ?vq9_0) rfl (by kernel_rfl) (by kernel_rfl) (by kernel_rfl) (fun _ _ _ h => h) (Or.inl ⟨by rfl, ?hyq9_0⟩) (by assumption) ?_
    case hyq9_0 =>
      intro W hSW
      try dsimp only at hSW
      go_simp
      try with_reducible rfl
    try simp only [Act.put, List.setIfInBounds_toArray, List.set_cons_zero, List.set_cons_succ]
    refine wpAnyH_take (i := 2) (oi := { dst := some 62, op := Op.fieldAddr 26 (Operand.tmp 5) 1, type := 0, pos := "l3_project.go:240", after := #[], guard := none }) (v := ?vq10_2) rfl (by kernel_rfl) (by kernel_rfl) (by kernel_rfl) (fun _ _ _ h => h) (Or.inl ⟨by rfl, ?hyq10_2⟩) (by assumption) ?_
    case hyq10_2 =>
      intro W hSW
      try dsimp only at hSW
      go_simp
      try with_reducible rfl
    try simp only [Act.put, List.setIfInBounds_toArray, List.set_cons_zero, List.set_cons_succ]
    refine wpAnyH_ready (rs := [1, 3]) (by kernel_rfl) (by simp) ?_
    refine AllReadyH.cons (o := { dst := some 61, op := Op.load 24 (Operand.tmp 60), type := 24, pos := "l3_project.go:240", after := #[{ on := 0, ground := Ground.data }], guard := none }) rfl (fun K hK => ?_) (AllReadyH.cons (o := { dst := some 63, op := Op.load 24 (Operand.tmp 62), type := 24, pos := "l3_project.go:240", after := #[{ on := 2, ground := Ground.data }], guard := none }) rfl (fun K hK => ?_) AllReadyH.nil)
    · go_simp
      clear hHeld
      try dsimp only
      refine hK.out _ _ trivial (fun hHeld => ?_)
      clear hK K
      try simp only [Act.put, List.setIfInBounds_toArray, List.set_cons_zero, List.set_cons_succ]
      refine wpAnyH_ready (rs := [3]) (by kernel_rfl) (by simp) ?_
      refine AllReadyH.cons (o := { dst := some 63, op := Op.load 24 (Operand.tmp 62), type := 24, pos := "l3_project.go:240", after := #[{ on := 2, ground := Ground.data }], guard := none }) rfl (fun K hK => ?_) AllReadyH.nil
      go_simp
      clear hHeld
      try dsimp only
      refine hK.out _ _ trivial (fun hHeld => ?_)
      clear hK K
      try simp only [Act.put, List.setIfInBounds_toArray, List.set_cons_zero, List.set_cons_succ]
      refine wpAnyH_take (i := 4) (oi := { dst := some 64, op := Op.indexAddr 24 (Operand.tmp 63) (Operand.const (Value.int IntKind.i64 0)), type := 0, pos := "l3_project.go:240", after := #[{ on := 3, ground := Ground.data }], guard := none }) (v := ?vq11_4) rfl (by kernel_rfl) (by kernel_rfl) (by kernel_rfl) (fun _ _ _ h => h) (Or.inl ⟨by rfl, ?hyq11_4⟩) (by assumption) ?_
      case hyq11_4 =>
        intro W hSW
        try dsimp only at hSW
        go_simp
        try with_reducible rfl
      try simp only [Act.put, List.setIfInBounds_toArray, List.set_cons_zero, List.set_cons_succ]
      refine wpAnyH_ready (rs := [5]) (by kernel_rfl) (by simp) ?_
      refine AllReadyH.cons (o := { dst := some 65, op := Op.load 45 (Operand.tmp 64), type := 45, pos := "l3_project.go:240", after := #[{ on := 4, ground := Ground.data }], guard := none }) rfl (fun K hK => ?_) AllReadyH.nil
      go_simp
      clear hHeld
      try dsimp only
      refine hK.out _ _ trivial (fun hHeld => ?_)
      clear hK K
      try simp only [Act.put, List.setIfInBounds_toArray, List.set_cons_zero, List.set_cons_succ]
      refine wpAnyH_ready (rs := [6]) (by kernel_rfl) (by simp) ?_
      refine AllReadyH.cons (o := { dst := some 66, op := Op.buildSlice 24 1 #[(0, Operand.tmp 65)], type := 24, pos := "l3_project.go:240", after := #[{ on := 5, ground := Ground.data }], guard := none }) rfl (fun K hK => ?_) AllReadyH.nil
      go_simp
      clear hHeld
      try dsimp only
      refine hK.out _ _ trivial (fun hHeld => ?_)
      clear hK K
      try simp only [Act.put, List.setIfInBounds_toArray, List.set_cons_zero, List.set_cons_succ]
      refine wpAnyH_ready (rs := [7]) (by kernel_rfl) (by simp) ?_
      refine AllReadyH.cons (o := { dst := some 67, op := Op.call { callee := Callee.builtin Builtin.append, args := #[Operand.tmp 61, Operand.tmp 66], argTypes := #[24, 24] }, type := 24, pos := "l3_project.go:240", after := #[{ on := 1, ground := Ground.data }, { on := 6, ground := Ground.data }], guard := none }) rfl (fun K hK => ?_) AllReadyH.nil
      refine step_append_rg rfl _ _ rfl b2 (.slice (some ⟨g3, 0, none⟩) rs.length c3) rs rfl (by first | exact (hg5.below ((Below.refl _ _).alloc (Nat.le_refl _) _)).drewN 1 | exact (hg5.drewN 1).below ((Below.refl _ _).alloc (Nat.le_refl _) _) | exact hg5.below ((Below.refl _ _).alloc (Nat.le_refl _) _)) w5.heap.size 1 rfl t0 k0 s0 ks0 a0 c0 (heap_alloc_new w5 _) hc0 hk0 (by omega) ?_
      intro g6 cap6 w6 hown6 hgrow6 hlt6 hbg6
      have hgw : w5.grownBy w6 (some g3) := grown_trans (by first | exact grown_drewN (World.grownBy_alloc w5 _ (some g3)) 1 | exact World.grownBy_alloc w5 _ (some g3)) hgrow6
      have hl6 := hgw.size
      have he6 := bxP_grown he5 hgw (fun e => by injection e with e; omega)
      have hr6 := bxP_grown hr5 hgw (fun e => by injection e with e; omega)
      obtain ⟨y0', y1', yf0, yf1, yl⟩ := he6.facts
      clear hHeld
      try dsimp only
      refine hK.out _ _ trivial (fun hHeld => ?_)
      clear hK K
      try simp only [Act.put, List.setIfInBounds_toArray, List.set_cons_zero, List.set_cons_succ]
      refine wpAnyH_take (i := 8) (oi := { dst := some 68, op := Op.fieldAddr 26 (Operand.tmp 5) 1, type := 0, pos := "l3_project.go:240", after := #[{ on := 0, ground := Ground.phase }, { on := 1, ground := Ground.phase }, { on := 2, ground := Ground.phase }, { on := 3, ground := Ground.phase }, { on := 4, ground := Ground.phase }, { on := 5, ground := Ground.phase }, { on := 6, ground := Ground.phase }, { on := 7, ground := Ground.phase }], guard := none }) (v := ?vq12_8) rfl (by kernel_rfl) (by kernel_rfl) (by kernel_rfl) (fun _ _ _ h => h) (Or.inl ⟨by rfl, ?hyq12_8⟩) (by assumption) ?_
      case hyq12_8 =>
        intro W hSW
        try dsimp only at hSW
        go_simp
        try with_reducible rfl
      try simp only [Act.put, List.setIfInBounds_toArray, List.set_cons_zero, List.set_cons_succ]
      refine wpAnyH_ready (rs := [9]) (by kernel_rfl) (by simp) ?_
      refine AllReadyH.cons (o := { dst := none, op := Op.store 24 (Operand.tmp 68) (Operand.tmp 67), type := 0, pos := "l3_project.go:240", after := #[{ on := 8, ground := Ground.data }, { on := 7, ground := Ground.data }, { on := 7, ground := Ground.chain }, { on := 0, ground := Ground.phase }, { on := 1, ground := Ground.phase }, { on := 2, ground := Ground.phase }, { on := 3, ground := Ground.phase }, { on := 4, ground := Ground.phase }, { on := 5, ground := Ground.phase }, { on := 6, ground := Ground.phase }, { on := 7, ground := Ground.phase }], guard := none }) rfl (fun K hK => ?_) AllReadyH.nil
      go_simp
      clear hHeld
      try dsimp only
      refine hK.out _ _ trivial (fun hHeld => ?_)
      clear hK K
      try simp only [Act.put, List.setIfInBounds_toArray, List.set_cons_zero, List.set_cons_succ]
      refine wpAnyH_done (by kernel_rfl) ?_ _
      have hs7 := World.size_setCell w6 ⟨w3.heap.size, 1, none⟩ (.slice (some ⟨g6, 0, none⟩) (rs.length + 1) cap6)
      have he7 := he6.set1 (.slice (some ⟨g6, 0, none⟩) (rs.length + 1) cap6)
      have hr7 := hr6.other (g' := w3.heap.size) (by omega) 1 (.slice (some ⟨g6, 0, none⟩) (rs.length + 1) cap6)
      have hg7 := OwnG.ne hown6 (grown_set (p := ⟨w3.heap.size, 1, none⟩) (World.grownBy.refl w6 _) (.inl rfl) (.slice (some ⟨g6, 0, none⟩) (rs.length + 1) cap6)) (fun g e h => by
        have e' : w3.heap.size = g := Option.some.inj h
        obtain ⟨_, xs6, h6, _⟩ := hown6
        exact own_type h6 e (e' ▸ he6) (by decide))
      have hf6 := ownsF_ne hf5 hgw (fun g e h => by
        have e' : g3 = g := Option.some.inj h
        have := hv1 _ e
        omega)
      have hf7 : OwnsF (w6.setCell ⟨w3.heap.size, 1, none⟩ (.slice (some ⟨g6, 0, none⟩) (rs.length + 1) cap6)) (w.heap.size + 1 + 1) (.slice b1 fs.length d1) fs := ownsF_ne hf6 (grown_set (p := ⟨w3.heap.size, 1, none⟩) (World.grownBy.refl w6 _) (.inl rfl) (.slice (some ⟨g6, 0, none⟩) (rs.length + 1) cap6)) (fun g e h => by
        have e' : w3.heap.size = g := Option.some.inj h
        have := (hv1' _ e).2
        omega)
      have hk7 : ∀ g : Nat, b2 ≤ g → g < w3.heap.size → (Value.slice (some ⟨g3, 0, none⟩) rs.length c3).ownBlock ≠ some g → (w6.setCell ⟨w3.heap.size, 1, none⟩ (.slice (some ⟨g6, 0, none⟩) (rs.length + 1) cap6)).heap[g]? = w3.heap[g]? := fun g h1 h2 h3 => (Below.heap_setCell w6 _ _ g (by show g ≠ w3.heap.size; omega)).trans ((hgw.block g (by omega) (fun e => h3 e.symm)).trans (hk5 g h1 h2 h3))
      have hst7 := (hst05.grew hgw (fun g e => by injection e with e; constructor <;> omega)).setNew (g := w3.heap.size) (j := 1) (by omega) (.slice (some ⟨g6, 0, none⟩) (rs.length + 1) cap6)
      have hsm7 : RuSm (z + 3) (rs ++ [(t0, k0, s0, ks0)]) := fun x hx => by
        have hx' : x ∈ rs := (List.mem_append.1 hx).elim id (fun h' => by rw [List.mem_singleton] at h'; subst h'; exact List.mem_of_getElem? hx0)
        have := hsm x hx'
        exact ⟨this.1, this.2.1, this.2.2.1, by omega⟩
      clear hf6 y0' y1' yf0 yf1 yl hown6 hgrow6 hgw r0 rf0 r1 r2 r3 hr6 he6
      obtain ⟨u0, u1, uf0, uf1, ul⟩ := he7.facts
      obtain ⟨z0, z1, zf0, zf1, zl⟩ := hr7.facts
      have Hof := Lib.hid hf7
      have Hru := Lib.hid (RuO.mono (km_end hg7 (by omega) hk7) hb2)
      have Hst := Lib.hid hst7
      clear x0 x1 xf0 xf1 xl
      go_wp2_with fail
      refine bodyPost_ret (v := .agg #[.slice b1 fs.length d1, .slice (some ⟨g6, 0, none⟩) (rs.length + 1) cap6]) (by simp [results, Tryz.results26, go_sem, *]) rfl ?_
      exact ⟨_, _, fs, (rs ++ [(t0, k0, s0, ks0)]), _, rfl, ownsF_mono (ownsF_set (ownsF_set Hof.out (by omega) 0 _) (by omega) 1 _) (by omega), ((Hru.out.setCell (by omega) 0 _).setCell (by omega) 1 _).mono (by omega), hsh, by omega, hsm7, by simp; omega, ((Hst.out.setNew (by omega) _).setNew (by omega) _).more (by omega)⟩
    · go_simp
      clear hHeld
      try dsimp only
      refine hK.out _ _ trivial (fun hHeld => ?_)
      clear hK K
      try simp only [Act.put, List.setIfInBounds_toArray, List.set_cons_zero, List.set_cons_succ]
      refine wpAnyH_take (i := 4) (oi := { dst := some 64, op := Op.indexAddr 24 (Operand.tmp 63) (Operand.const (Value.int IntKind.i64 0)), type := 0, pos := "l3_project.go:240", after := #[{ on := 3, ground := Ground.data }], guard := none }) (v := ?vq13_4) rfl (by kernel_rfl) (by kernel_rfl) (by kernel_rfl) (fun _ _ _ h => h) (Or.inl ⟨by rfl, ?hyq13_4⟩) (by assumption) ?_
      case hyq13_4 =>
        intro W hSW
        try dsimp only at hSW
        go_simp
        try with_reducible rfl
      try simp only [Act.put, List.setIfInBounds_toArray, List.set_cons_zero, List.set_cons_succ]
      refine wpAnyH_ready (rs := [1, 5]) (by kernel_rfl) (by simp) ?_
      refine AllReadyH.cons (o := { dst := some 61, op := Op.load 24 (Operand.tmp 60), type := 24, pos := "l3_project.go:240", after := #[{ on := 0, ground := Ground.data }], guard := none }) rfl (fun K hK => ?_) (AllReadyH.cons (o := { dst := some 65, op := Op.load 45 (Operand.tmp 64), type := 45, pos := "l3_project.go:240", after := #[{ on := 4, ground := Ground.data }], guard := none }) rfl (fun K hK => ?_) AllReadyH.nil)
      · go_simp
        clear hHeld
        try dsimp only
        refine hK.out _ _ trivial (fun hHeld => ?_)
        clear hK K
        try simp only [Act.put, List.setIfInBounds_toArray, List.set_cons_zero, List.set_cons_succ]
        refine wpAnyH_ready (rs := [5]) (by kernel_rfl) (by simp) ?_
        refine AllReadyH.cons (o := { dst := some 65, op := Op.load 45 (Operand.tmp 64), type := 45, pos := "l3_project.go:240", after := #[{ on := 4, ground := Ground.data }], guard := none }) rfl (fun K hK => ?_) AllReadyH.nil
        go_simp
        clear hHeld
        try dsimp only
        refine hK.out _ _ trivial (fun hHeld => ?_)
        clear hK K
        try simp only [Act.put, List.setIfInBounds_toArray, List.set_cons_zero, List.set_cons_succ]
        refine wpAnyH_ready (rs := [6]) (by kernel_rfl) (by simp) ?_
        refine AllReadyH.cons (o := { dst := some 66, op := Op.buildSlice 24 1 #[(0, Operand.tmp 65)], type := 24, pos := "l3_project.go:240", after := #[{ on := 5, ground := Ground.data }], guard := none }) rfl (fun K hK => ?_) AllReadyH.nil
        go_simp
        clear hHeld
        try dsimp only
        refine hK.out _ _ trivial (fun hHeld => ?_)
        clear hK K
        try simp only [Act.put, List.setIfInBounds_toArray, List.set_cons_zero, List.set_cons_succ]
        refine wpAnyH_ready (rs := [7]) (by kernel_rfl) (by simp) ?_
        refine AllReadyH.cons (o := { dst := some 67, op := Op.call { callee := Callee.builtin Builtin.append, args := #[Operand.tmp 61, Operand.tmp 66], argTypes := #[24, 24] }, type := 24, pos := "l3_project.go:240", after := #[{ on := 1, ground := Ground.data }, { on := 6, ground := Ground.data }], guard := none }) rfl (fun K hK => ?_) AllReadyH.nil
        refine step_append_rg rfl _ _ rfl b2 (.slice (some ⟨g3, 0, none⟩) rs.length c3) rs rfl (by first | exact (hg5.below ((Below.refl _ _).alloc (Nat.le_refl _) _)).drewN 1 | exact (hg5.drewN 1).below ((Below.refl _ _).alloc (Nat.le_refl _) _) | exact hg5.below ((Below.refl _ _).alloc (Nat.le_refl _) _)) w5.heap.size 1 rfl t0 k0 s0 ks0 a0 c0 (heap_alloc_new w5 _) hc0 hk0 (by omega) ?_
        intro g6 cap6 w6 hown6 hgrow6 hlt6 hbg6
        have hgw : w5.grownBy w6 (some g3) := grown_trans (by first | exact grown_drewN (World.grownBy_alloc w5 _ (some g3)) 1 | exact World.grownBy_alloc w5 _ (some g3)) hgrow6
        have hl6 := hgw.size
        have he6 := bxP_grown he5 hgw (fun e => by injection e with e; omega)
        have hr6 := bxP_grown hr5 hgw (fun e => by injection e with e; omega)
        obtain ⟨y0', y1', yf0, yf1, yl⟩ := he6.facts
        clear hHeld
        try dsimp only
        refine hK.out _ _ trivial (fun hHeld => ?_)
        clear hK K
        try simp only [Act.put, List.setIfInBounds_toArray, List.set_cons_zero, List.set_cons_succ]
        refine wpAnyH_take (i := 8) (oi := { dst := some 68, op := Op.fieldAddr 26 (Operand.tmp 5) 1, type := 0, pos := "l3_project.go:240", after := #[{ on := 0, ground := Ground.phase }, { on := 1, ground := Ground.phase }, { on := 2, ground := Ground.phase }, { on := 3, ground := Ground.phase }, { on := 4, ground := Ground.phase }, { on := 5, ground := Ground.phase }, { on := 6, ground := Ground.phase }, { on := 7, ground := Ground.phase }], guard := none }) (v := ?vq14_8) rfl (by kernel_rfl) (by kernel_rfl) (by kernel_rfl) (fun _ _ _ h => h) (Or.inl ⟨by rfl, ?hyq14_8⟩) (by assumption) ?_
        case hyq14_8 =>
          intro W hSW
          try dsimp only at hSW
          go_simp
          try with_reducible rfl
        try simp only [Act.put, List.setIfInBounds_toArray, List.set_cons_zero, List.set_cons_succ]
        refine wpAnyH_ready (rs := [9]) (by kernel_rfl) (by simp) ?_
        refine AllReadyH.cons (o := { dst := none, op := Op.store 24 (Operand.tmp 68) (Operand.tmp 67), type := 0, pos := "l3_project.go:240", after := #[{ on := 8, ground := Ground.data }, { on := 7, ground := Ground.data }, { on := 7, ground := Ground.chain }, { on := 0, ground := Ground.phase }, { on := 1, ground := Ground.phase }, { on := 2, ground := Ground.phase }, { on := 3, ground := Ground.phase }, { on := 4, ground := Ground.phase }, { on := 5, ground := Ground.phase }, { on := 6, ground := Ground.phase }, { on := 7, ground := Ground.phase }], guard := none }) rfl (fun K hK => ?_) AllReadyH.nil
        go_simp
        clear hHeld
        try dsimp only
        refine hK.out _ _ trivial (fun hHeld => ?_)
        clear hK K
        try simp only [Act.put, List.setIfInBounds_toArray, List.set_cons_zero, List.set_cons_succ]
        refine wpAnyH_done (by kernel_rfl) ?_ _
        have hs7 := World.size_setCell w6 ⟨w3.heap.size, 1, none⟩ (.slice (some ⟨g6, 0, none⟩) (rs.length + 1) cap6)
        have he7 := he6.set1 (.slice (some ⟨g6, 0, none⟩) (rs.length + 1) cap6)
        have hr7 := hr6.other (g' := w3.heap.size) (by omega) 1 (.slice (some ⟨g6, 0, none⟩) (rs.length + 1) cap6)
        have hg7 := OwnG.ne hown6 (grown_set (p := ⟨w3.heap.size, 1, none⟩) (World.grownBy.refl w6 _) (.inl rfl) (.slice (some ⟨g6, 0, none⟩) (rs.length + 1) cap6)) (fun g e h => by
          have e' : w3.heap.size = g := Option.some.inj h
          obtain ⟨_, xs6, h6, _⟩ := hown6
          exact own_type h6 e (e' ▸ he6) (by decide))
        have hf6 := ownsF_ne hf5 hgw (fun g e h => by
          have e' : g3 = g := Option.some.inj h
          have := hv1 _ e
          omega)
        have hf7 : OwnsF (w6.setCell ⟨w3.heap.size, 1, none⟩ (.slice (some ⟨g6, 0, none⟩) (rs.length + 1) cap6)) (w.heap.size + 1 + 1) (.slice b1 fs.length d1) fs := ownsF_ne hf6 (grown_set (p := ⟨w3.heap.size, 1, none⟩) (World.grownBy.refl w6 _) (.inl rfl) (.slice (some ⟨g6, 0, none⟩) (rs.length + 1) cap6)) (fun g e h => by
          have e' : w3.heap.size = g := Option.some.inj h
          have := (hv1' _ e).2
          omega)
        have hk7 : ∀ g : Nat, b2 ≤ g → g < w3.heap.size → (Value.slice (some ⟨g3, 0, none⟩) rs.length c3).ownBlock ≠ some g → (w6.setCell ⟨w3.heap.size, 1, none⟩ (.slice (some ⟨g6, 0, none⟩) (rs.length + 1) cap6)).heap[g]? = w3.heap[g]? := fun g h1 h2 h3 => (Below.heap_setCell w6 _ _ g (by show g ≠ w3.heap.size; omega)).trans ((hgw.block g (by omega) (fun e => h3 e.symm)).trans (hk5 g h1 h2 h3))
        have hst7 := (hst05.grew hgw (fun g e => by injection e with e; constructor <;> omega)).setNew (g := w3.heap.size) (j := 1) (by omega) (.slice (some ⟨g6, 0, none⟩) (rs.length + 1) cap6)
        have hsm7 : RuSm (z + 3) (rs ++ [(t0, k0, s0, ks0)]) := fun x hx => by
          have hx' : x ∈ rs := (List.mem_append.1 hx).elim id (fun h' => by rw [List.mem_singleton] at h'; subst h'; exact List.mem_of_getElem? hx0)
          have := hsm x hx'
          exact ⟨this.1, this.2.1, this.2.2.1, by omega⟩
        clear hf6 y0' y1' yf0 yf1 yl hown6 hgrow6 hgw r0 rf0 r1 r2 r3 hr6 he6
        obtain ⟨u0, u1, uf0, uf1, ul⟩ := he7.facts
        obtain ⟨z0, z1, zf0, zf1, zl⟩ := hr7.facts
        have Hof := Lib.hid hf7
        have Hru := Lib.hid (RuO.mono (km_end hg7 (by omega) hk7) hb2)
        have Hst := Lib.hid hst7
        clear x0 x1 xf0 xf1 xl
        go_wp2_with fail
        refine bodyPost_ret (v := .agg #[.slice b1 fs.length d1, .slice (some ⟨g6, 0, none⟩) (rs.length + 1) cap6]) (by simp [results, Tryz.results26, go_sem, *]) rfl ?_
        exact ⟨_, _, fs, (rs ++ [(t0, k0, s0, ks0)]), _, rfl, ownsF_mono (ownsF_set (ownsF_set Hof.out (by omega) 0 _) (by omega) 1 _) (by omega), ((Hru.out.setCell (by omega) 0 _).setCell (by omega) 1 _).mono (by omega), hsh, by omega, hsm7, by simp; omega, ((Hst.out.setNew (by omega) _).setNew (by omega) _).more (by omega)⟩
      · go_simp
        clear hHeld
        try dsimp only
        refine hK.out _ _ trivial (fun hHeld => ?_)
        clear hK K
        try simp only [Act.put, List.setIfInBounds_toArray, List.set_cons_zero, List.set_cons_succ]
        refine wpAnyH_ready (rs := [1, 6]) (by kernel_rfl) (by simp) ?_
        refine AllReadyH.cons (o := { dst := some 61, op := Op.load 24 (Operand.tmp 60), type := 24, pos := "l3_project.go:240", after := #[{ on := 0, ground := Ground.data }], guard := none }) rfl (fun K hK => ?_) (AllReadyH.cons (o := { dst := some 66, op := Op.buildSlice 24 1 #[(0, Operand.tmp 65)], type := 24, pos := "l3_project.go:240", after := #[{ on := 5, ground := Ground.data }], guard := none }) rfl (fun K hK => ?_) AllReadyH.nil)
        · go_simp
          clear hHeld
          try dsimp only
          refine hK.out _ _ trivial (fun hHeld => ?_)
          clear hK K
          try simp only [Act.put, List.setIfInBounds_toArray, List.set_cons_zero, List.set_cons_succ]
          refine wpAnyH_ready (rs := [6]) (by kernel_rfl) (by simp) ?_
          refine AllReadyH.cons (o := { dst := some 66, op := Op.buildSlice 24 1 #[(0, Operand.tmp 65)], type := 24, pos := "l3_project.go:240", after := #[{ on := 5, ground := Ground.data }], guard := none }) rfl (fun K hK => ?_) AllReadyH.nil
          go_simp
          clear hHeld
          try dsimp only
          refine hK.out _ _ trivial (fun hHeld => ?_)
          clear hK K
          try simp only [Act.put, List.setIfInBounds_toArray, List.set_cons_zero, List.set_cons_succ]
          refine wpAnyH_ready (rs := [7]) (by kernel_rfl) (by simp) ?_
          refine AllReadyH.cons (o := { dst := some 67, op := Op.call { callee := Callee.builtin Builtin.append, args := #[Operand.tmp 61, Operand.tmp 66], argTypes := #[24, 24] }, type := 24, pos := "l3_project.go:240", after := #[{ on := 1, ground := Ground.data }, { on := 6, ground := Ground.data }], guard := none }) rfl (fun K hK => ?_) AllReadyH.nil
          refine step_append_rg rfl _ _ rfl b2 (.slice (some ⟨g3, 0, none⟩) rs.length c3) rs rfl (by first | exact (hg5.below ((Below.refl _ _).alloc (Nat.le_refl _) _)).drewN 1 | exact (hg5.drewN 1).below ((Below.refl _ _).alloc (Nat.le_refl _) _) | exact hg5.below ((Below.refl _ _).alloc (Nat.le_refl _) _)) w5.heap.size 1 rfl t0 k0 s0 ks0 a0 c0 (heap_alloc_new w5 _) hc0 hk0 (by omega) ?_
          intro g6 cap6 w6 hown6 hgrow6 hlt6 hbg6
          have hgw : w5.grownBy w6 (some g3) := grown_trans (by first | exact grown_drewN (World.grownBy_alloc w5 _ (some g3)) 1 | exact World.grownBy_alloc w5 _ (some g3)) hgrow6
          have hl6 := hgw.size
          have he6 := bxP_grown he5 hgw (fun e => by injection e with e; omega)
          have hr6 := bxP_grown hr5 hgw (fun e => by injection e with e; omega)
          obtain ⟨y0', y1', yf0, yf1, yl⟩ := he6.facts
          clear hHeld
          try dsimp only
          refine hK.out _ _ trivial (fun hHeld => ?_)
          clear hK K
          try simp only [Act.put, List.setIfInBounds_toArray, List.set_cons_zero, List.set_cons_succ]
          refine wpAnyH_take (i := 8) (oi := { dst := some 68, op := Op.fieldAddr 26 (Operand.tmp 5) 1, type := 0, pos := "l3_project.go:240", after := #[{ on := 0, ground := Ground.phase }, { on := 1, ground := Ground.phase }, { on := 2, ground := Ground.phase }, { on := 3, ground := Ground.phase }, { on := 4, ground := Ground.phase }, { on := 5, ground := Ground.phase }, { on := 6, ground := Ground.phase }, { on := 7, ground := Ground.phase }], guard := none }) (v := ?vq15_8) rfl (by kernel_rfl) (by kernel_rfl) (by kernel_rfl) (fun _ _ _ h => h) (Or.inl ⟨by rfl, ?hyq15_8⟩) (by assumption) ?_
          case hyq15_8 =>
            intro W hSW
            try dsimp only at hSW
            go_simp
            try with_reducible rfl
          try simp only [Act.put, List.setIfInBounds_toArray, List.set_cons_zero, List.set_cons_succ]
          refine wpAnyH_ready (rs := [9]) (by kernel_rfl) (by simp) ?_
          refine AllReadyH.cons (o := { dst := none, op := Op.store 24 (Operand.tmp 68) (Operand.tmp 67), type := 0, pos := "l3_project.go:240", after := #[{ on := 8, ground := Ground.data }, { on := 7, ground := Ground.data }, { on := 7, ground := Ground.chain }, { on := 0, ground := Ground.phase }, { on := 1, ground := Ground.phase }, { on := 2, ground := Ground.phase }, { on := 3, ground := Ground.phase }, { on := 4, ground := Ground.phase }, { on := 5, ground := Ground.phase }, { on := 6, ground := Ground.phase }, { on := 7, ground := Ground.phase }], guard := none }) rfl (fun K hK => ?_) AllReadyH.nil
          go_simp
          clear hHeld
          try dsimp only
          refine hK.out _ _ trivial (fun hHeld => ?_)
          clear hK K
          try simp only [Act.put, List.setIfInBounds_toArray, List.set_cons_zero, List.set_cons_succ]
          refine wpAnyH_done (by kernel_rfl) ?_ _
          have hs7 := World.size_setCell w6 ⟨w3.heap.size, 1, none⟩ (.slice (some ⟨g6, 0, none⟩) (rs.length + 1) cap6)
          have he7 := he6.set1 (.slice (some ⟨g6, 0, none⟩) (rs.length + 1) cap6)
          have hr7 := hr6.other (g' := w3.heap.size) (by omega) 1 (.slice (some ⟨g6, 0, none⟩) (rs.length + 1) cap6)
          have hg7 := OwnG.ne hown6 (grown_set (p := ⟨w3.heap.size, 1, none⟩) (World.grownBy.refl w6 _) (.inl rfl) (.slice (some ⟨g6, 0, none⟩) (rs.length + 1) cap6)) (fun g e h => by
            have e' : w3.heap.size = g := Option.some.inj h
            obtain ⟨_, xs6, h6, _⟩ := hown6
            exact own_type h6 e (e' ▸ he6) (by decide))
          have hf6 := ownsF_ne hf5 hgw (fun g e h => by
            have e' : g3 = g := Option.some.inj h
            have := hv1 _ e
            omega)
          have hf7 : OwnsF (w6.setCell ⟨w3.heap.size, 1, none⟩ (.slice (some ⟨g6, 0, none⟩) (rs.length + 1) cap6)) (w.heap.size + 1 + 1) (.slice b1 fs.length d1) fs := ownsF_ne hf6 (grown_set (p := ⟨w3.heap.size, 1, none⟩) (World.grownBy.refl w6 _) (.inl rfl) (.slice (some ⟨g6, 0, none⟩) (rs.length + 1) cap6)) (fun g e h => by
            have e' : w3.heap.size = g := Option.some.inj h
            have := (hv1' _ e).2
            omega)
          have hk7 : ∀ g : Nat, b2 ≤ g → g < w3.heap.size → (Value.slice (some ⟨g3, 0, none⟩) rs.length c3).ownBlock ≠ some g → (w6.setCell ⟨w3.heap.size, 1, none⟩ (.slice (some ⟨g6, 0, none⟩) (rs.length + 1) cap6)).heap[g]? = w3.heap[g]? := fun g h1 h2 h3 => (Below.heap_setCell w6 _ _ g (by show g ≠ w3.heap.size; omega)).trans ((hgw.block g (by omega) (fun e => h3 e.symm)).trans (hk5 g h1 h2 h3))
          have hst7 := (hst05.grew hgw (fun g e => by injection e with e; constructor <;> omega)).setNew (g := w3.heap.size) (j := 1) (by omega) (.slice (some ⟨g6, 0, none⟩) (rs.length + 1) cap6)
          have hsm7 : RuSm (z + 3) (rs ++ [(t0, k0, s0, ks0)]) := fun x hx => by
            have hx' : x ∈ rs := (List.mem_append.1 hx).elim id (fun h' => by rw [List.mem_singleton] at h'; subst h'; exact List.mem_of_getElem? hx0)
            have := hsm x hx'
            exact ⟨this.1, this.2.1, this.2.2.1, by omega⟩
          clear hf6 y0' y1' yf0 yf1 yl hown6 hgrow6 hgw r0 rf0 r1 r2 r3 hr6 he6
          obtain ⟨u0, u1, uf0, uf1, ul⟩ := he7.facts
          obtain ⟨z0, z1, zf0, zf1, zl⟩ := hr7.facts
          have Hof := Lib.hid hf7
          have Hru := Lib.hid (RuO.mono (km_end hg7 (by omega) hk7) hb2)
          have Hst := Lib.hid hst7
          clear x0 x1 xf0 xf1 xl
          go_wp2_with fail
          refine bodyPost_ret (v := .agg #[.slice b1 fs.length d1, .slice (some ⟨g6, 0, none⟩) (rs.length + 1) cap6]) (by simp [results, Tryz.results26, go_sem, *]) rfl ?_
          exact ⟨_, _, fs, (rs ++ [(t0, k0, s0, ks0)]), _, rfl, ownsF_mono (ownsF_set (ownsF_set Hof.out (by omega) 0 _) (by omega) 1 _) (by omega), ((Hru.out.setCell (by omega) 0 _).setCell (by omega) 1 _).mono (by omega), hsh, by omega, hsm7, by simp; omega, ((Hst.out.setNew (by omega) _).setNew (by omega) _).more (by omega)⟩
        · go_simp
          clear hHeld
          try dsimp only
          refine hK.out _ _ trivial (fun hHeld => ?_)
          clear hK K
          try simp only [Act.put, List.setIfInBounds_toArray, List.set_cons_zero, List.set_cons_succ]
          refine wpAnyH_ready (rs := [1]) (by kernel_rfl) (by simp) ?_
          refine AllReadyH.cons (o := { dst := some 61, op := Op.load 24 (Operand.tmp 60), type := 24, pos := "l3_project.go:240", after := #[{ on := 0, ground := Ground.data }], guard := none }) rfl (fun K hK => ?_) AllReadyH.nil
          go_simp
          clear hHeld
          try dsimp only
          refine hK.out _ _ trivial (fun hHeld => ?_)
          clear hK K
          try simp only [Act.put, List.setIfInBounds_toArray, List.set_cons_zero, List.set_cons_succ]
          refine wpAnyH_ready (rs := [7]) (by kernel_rfl) (by simp) ?_
          refine AllReadyH.cons (o := { dst := some 67, op := Op.call { callee := Callee.builtin Builtin.append, args := #[Operand.tmp 61, Operand.tmp 66], argTypes := #[24, 24] }, type := 24, pos := "l3_project.go:240", after := #[{ on := 1, ground := Ground.data }, { on := 6, ground := Ground.data }], guard := none }) rfl (fun K hK => ?_) AllReadyH.nil
          refine step_append_rg rfl _ _ rfl b2 (.slice (some ⟨g3, 0, none⟩) rs.length c3) rs rfl (by first | exact (hg5.below ((Below.refl _ _).alloc (Nat.le_refl _) _)).drewN 1 | exact (hg5.drewN 1).below ((Below.refl _ _).alloc (Nat.le_refl _) _) | exact hg5.below ((Below.refl _ _).alloc (Nat.le_refl _) _)) w5.heap.size 1 rfl t0 k0 s0 ks0 a0 c0 (heap_alloc_new w5 _) hc0 hk0 (by omega) ?_
          intro g6 cap6 w6 hown6 hgrow6 hlt6 hbg6
          have hgw : w5.grownBy w6 (some g3) := grown_trans (by first | exact grown_drewN (World.grownBy_alloc w5 _ (some g3)) 1 | exact World.grownBy_alloc w5 _ (some g3)) hgrow6
          have hl6 := hgw.size
          have he6 := bxP_grown he5 hgw (fun e => by injection e with e; omega)
          have hr6 := bxP_grown hr5 hgw (fun e => by injection e with e; omega)
          obtain ⟨y0', y1', yf0, yf1, yl⟩ := he6.facts
          clear hHeld
          try dsimp only
          refine hK.out _ _ trivial (fun hHeld => ?_)
          clear hK K
          try simp only [Act.put, List.setIfInBounds_toArray, List.set_cons_zero, List.set_cons_succ]
          refine wpAnyH_take (i := 8) (oi := { dst := some 68, op := Op.fieldAddr 26 (Operand.tmp 5) 1, type := 0, pos := "l3_project.go:240", after := #[{ on := 0, ground := Ground.phase }, { on := 1, ground := Ground.phase }, { on := 2, ground := Ground.phase }, { on := 3, ground := Ground.phase }, { on := 4, ground := Ground.phase }, { on := 5, ground := Ground.phase }, { on := 6, ground := Ground.phase }, { on := 7, ground := Ground.phase }], guard := none }) (v := ?vq16_8) rfl (by kernel_rfl) (by kernel_rfl) (by kernel_rfl) (fun _ _ _ h => h) (Or.inl ⟨by rfl, ?hyq16_8⟩) (by assumption) ?_
          case hyq16_8 =>
            intro W hSW
            try dsimp only at hSW
            go_simp
            try with_reducible rfl
          try simp only [Act.put, List.setIfInBounds_toArray, List.set_cons_zero, List.set_cons_succ]
          refine wpAnyH_ready (rs := [9]) (by kernel_rfl) (by simp) ?_
          refine AllReadyH.cons (o := { dst := none, op := Op.store 24 (Operand.tmp 68) (Operand.tmp 67), type := 0, pos := "l3_project.go:240", after := #[{ on := 8, ground := Ground.data }, { on := 7, ground := Ground.data }, { on := 7, ground := Ground.chain }, { on := 0, ground := Ground.phase }, { on := 1, ground := Ground.phase }, { on := 2, ground := Ground.phase }, { on := 3, ground := Ground.phase }, { on := 4, ground := Ground.phase }, { on := 5, ground := Ground.phase }, { on := 6, ground := Ground.phase }, { on := 7, ground := Ground.phase }], guard := none }) rfl (fun K hK => ?_) AllReadyH.nil
          go_simp
          clear hHeld
          try dsimp only
          refine hK.out _ _ trivial (fun hHeld => ?_)
          clear hK K
          try simp only [Act.put, List.setIfInBounds_toArray, List.set_cons_zero, List.set_cons_succ]
          refine wpAnyH_done (by kernel_rfl) ?_ _
          have hs7 := World.size_setCell w6 ⟨w3.heap.size, 1, none⟩ (.slice (some ⟨g6, 0, none⟩) (rs.length + 1) cap6)
          have he7 := he6.set1 (.slice (some ⟨g6, 0, none⟩) (rs.length + 1) cap6)
          have hr7 := hr6.other (g' := w3.heap.size) (by omega) 1 (.slice (some ⟨g6, 0, none⟩) (rs.length + 1) cap6)
          have hg7 := OwnG.ne hown6 (grown_set (p := ⟨w3.heap.size, 1, none⟩) (World.grownBy.refl w6 _) (.inl rfl) (.slice (some ⟨g6, 0, none⟩) (rs.length + 1) cap6)) (fun g e h => by
            have e' : w3.heap.size = g := Option.some.inj h
            obtain ⟨_, xs6, h6, _⟩ := hown6
            exact own_type h6 e (e' ▸ he6) (by decide))
          have hf6 := ownsF_ne hf5 hgw (fun g e h => by
            have e' : g3 = g := Option.some.inj h
            have := hv1 _ e
            omega)
          have hf7 : OwnsF (w6.setCell ⟨w3.heap.size, 1, none⟩ (.slice (some ⟨g6, 0, none⟩) (rs.length + 1) cap6)) (w.heap.size + 1 + 1) (.slice b1 fs.length d1) fs := ownsF_ne hf6 (grown_set (p := ⟨w3.heap.size, 1, none⟩) (World.grownBy.refl w6 _) (.inl rfl) (.slice (some ⟨g6, 0, none⟩) (rs.length + 1) cap6)) (fun g e h => by
            have e' : w3.heap.size = g := Option.some.inj h
            have := (hv1' _ e).2
            omega)
          have hk7 : ∀ g : Nat, b2 ≤ g → g < w3.heap.size → (Value.slice (some ⟨g3, 0, none⟩) rs.length c3).ownBlock ≠ some g → (w6.setCell ⟨w3.heap.size, 1, none⟩ (.slice (some ⟨g6, 0, none⟩) (rs.length + 1) cap6)).heap[g]? = w3.heap[g]? := fun g h1 h2 h3 => (Below.heap_setCell w6 _ _ g (by show g ≠ w3.heap.size; omega)).trans ((hgw.block g (by omega) (fun e => h3 e.symm)).trans (hk5 g h1 h2 h3))
          have hst7 := (hst05.grew hgw (fun g e => by injection e with e; constructor <;> omega)).setNew (g := w3.heap.size) (j := 1) (by omega) (.slice (some ⟨g6, 0, none⟩) (rs.length + 1) cap6)
          have hsm7 : RuSm (z + 3) (rs ++ [(t0, k0, s0, ks0)]) := fun x hx => by
            have hx' : x ∈ rs := (List.mem_append.1 hx).elim id (fun h' => by rw [List.mem_singleton] at h'; subst h'; exact List.mem_of_getElem? hx0)
            have := hsm x hx'
            exact ⟨this.1, this.2.1, this.2.2.1, by omega⟩
          clear hf6 y0' y1' yf0 yf1 yl hown6 hgrow6 hgw r0 rf0 r1 r2 r3 hr6 he6
          obtain ⟨u0, u1, uf0, uf1, ul⟩ := he7.facts
          obtain ⟨z0, z1, zf0, zf1, zl⟩ := hr7.facts
          have Hof := Lib.hid hf7
          have Hru := Lib.hid (RuO.mono (km_end hg7 (by omega) hk7) hb2)
          have Hst := Lib.hid hst7
          clear x0 x1 xf0 xf1 xl
          go_wp2_with fail
          refine bodyPost_ret (v := .agg #[.slice b1 fs.length d1, .slice (some ⟨g6, 0, none⟩) (rs.length + 1) cap6]) (by simp [results, Tryz.results26, go_sem, *]) rfl ?_
          exact ⟨_, _, fs, (rs ++ [(t0, k0, s0, ks0)]), _, rfl, ownsF_mono (ownsF_set (ownsF_set Hof.out (by omega) 0 _) (by omega) 1 _) (by omega), ((Hru.out.setCell (by omega) 0 _).setCell (by omega) 1 _).mono (by omega), hsh, by omega, hsm7, by simp; omega, ((Hst.out.setNew (by omega) _).setNew (by omega) _).more (by omega)⟩
  have hy3 : ((y : Int) == 3) = false := by rw [beq_eq_false_iff_ne]; omega
  obtain ⟨u0, u1, uf0, uf1, ul⟩ := he5.facts
  obtain ⟨z0, z1, zf0, zf1, zl⟩ := hr5.facts
  have Hof := Lib.hid hf5
  have Hru := Lib.hid (RuO.mono (km_end hg5 (by omega) hk5) hb2)
  have Hst := Lib.hid hst05
  clear x0 x1 xf0 xf1 xl
  go_wp2_with fail
  refine bodyPost_ret (v := .agg #[.slice b1 fs.length d1, .slice a3 rs.length c3]) (by simp [results, Tryz.results26, go_sem, *]) rfl ?_
  exact ⟨_, _, fs, rs, _, rfl, ownsF_mono (ownsF_set (ownsF_set Hof.out (by omega) 0 _) (by omega) 1 _) (by omega), ((Hru.out.setCell (by omega) 0 _).setCell (by omega) 1 _).mono (by omega), hsh, by omega, (fun x hx => by have := hsm x hx; exact ⟨this.1, this.2.1, this.2.2.1, by omega⟩), by omega, ((Hst.out.setNew (by omega) _).setNew (by omega) _).more (by omega)⟩
end Go.Proofs.YtceiafncpimihaaGreat
