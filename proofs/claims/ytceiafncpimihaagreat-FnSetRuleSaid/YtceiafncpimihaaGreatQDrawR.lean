/-
  l3Target and l3Project: what they draw.
-/
import Derived.Test.YtceiafncpimihaaGreatQDrawE3
import Derived.Test.YtceiafncpimihaaGreatGone
import Derived.Deep.RegionLaw
namespace Go.Proofs.YtceiafncpimihaaGreat
set_option linter.unusedVariables false
set_option linter.unusedSimpArgs false
open Go.RowKit

set_option maxHeartbeats 400000 in
theorem target_any {n c p B R : Nat} {a : Option Addr} {w : World} (h : Rd w B R a n c p) (hp : p ≤ 1073741824) :
    Calls Tryz.prog 59 #[.pointer (some ⟨R, 0, none⟩)] w fun e w' => DrawPost (fun s => s.size ≤ 10) w B R a n c p 1 e w' := by
  have hR := h.lt
  go_enter Tryz.func59, Tryz.ntmps59
  go_wp2_with fail
  refine (of_new (fun s => s.size ≤ 10) 7 h hp (by omega) (by omega) rfl ?_).mono ?_
  · simp; decide
  rintro e w1 ⟨⟨s, rfl, hq⟩, hst⟩
  go_wp2_with fail
  go_ret
  exact ⟨s, _, rfl, hq, (((Step.refl h).alloc _).trans hst).more (by omega)⟩
theorem OwnsF.step {w w' : World} {base B R n c p q k : Nat} {a : Option Addr} {v : Value} {fs : List Fl} (h : OwnsF w base v fs) (hR : R < base) (hs : Step w w' B R a n c p q k) : OwnsF w' base v fs :=
  World.ownsRow.kept h hs.grown (by
    cases hv : v.ownBlock with
    | none => exact .inl rfl
    | some g => exact .inr fun e => by injection e with e; have := World.ownsRow.lt h g hv; omega)
theorem ownsF_set {w : World} {base g : Nat} {v : Value} {fs : List Fl} (h : OwnsF w base v fs) (hg : g < base) (i : Nat) (u : Value) : OwnsF (w.setCell ⟨g, i, none⟩ u) base v fs :=
  World.ownsRow.kept h (grown_set (p := ⟨g, i, none⟩) (World.grownBy.refl w _) (.inl rfl) u) (by
    cases hv : v.ownBlock with
    | none => exact .inl rfl
    | some b => exact .inr fun e => by have h1 := World.ownsRow.lt h b hv; have h2 : g = b := (by first | exact Option.some.inj e | exact (Option.some.inj e).symm); omega)
theorem ownsF_mono {w : World} {base base' : Nat} {v : Value} {fs : List Fl} (h : OwnsF w base v fs) (hb : base' ≤ base) : OwnsF w base' v fs := World.ownsRow.mono h hb
theorem bxP_step {w w' : World} {B R n c p q k g : Nat} {a : Option Addr} {u v : Value} {T : TypeId} (h : BxP w g u v T) (hs : Step w w' B R a n c p q k) (hne : g ≠ R) : BxP w' g u v T := (hs.grown.block g (blk_lt h) (fun e => hne (by injection e))).trans h
theorem strs5 {W : World} {g : Nat} {T : TypeId} (h : W.heap[g]? = some (.cells #[.string ⟨#[97]⟩, .string ⟨#[98]⟩, .string ⟨#[99]⟩, .string ⟨#[97, 98]⟩, .string ⟨#[97]⟩] T (0, 0))) : StrsAt W (fun s => s.size ≤ 10) g 5 := StrsAt.of_block (Q := fun s => s.size ≤ 10) h (by simp; decide)
theorem strs7 {W : World} {g : Nat} {T : TypeId} (h : W.heap[g]? = some (.cells #[.string ⟨#[97]⟩, .string ⟨#[98]⟩, .string ⟨#[120]⟩, .string ⟨#[]⟩, .string ⟨#[97, 98]⟩, .string ⟨#[121]⟩, .string ⟨#[99, 32, 100]⟩] T (0, 0))) : StrsAt W (fun s => s.size ≤ 10) g 7 := StrsAt.of_block (Q := fun s => s.size ≤ 10) h (by simp; decide)
theorem heap_two (W : World) (o o' : Obj) : ((W.alloc o).alloc o').heap[W.heap.size + 1]? = some o' := by
  have := heap_alloc_new (W.alloc o) o'
  simpa using this
theorem ownsF_al {w : World} {base : Nat} {v : Value} {fs : List Fl} (h : OwnsF w base v fs) (o : Obj) : OwnsF (w.alloc o) base v fs := World.ownsRow.alloc h o
theorem ownsF_bel {w w' : World} {base : Nat} {v : Value} {fs : List Fl} (h : OwnsF w base v fs) (hB : Below w.heap.size w w') : OwnsF w' base v fs :=
  World.ownsRow.kept (row := none) h ⟨hB.os, hB.tape, hB.output, hB.size, fun i hi _ => hB.block i hi⟩ (by cases v.ownBlock <;> simp)
/-- an own list of rules whose trees lie in plain blocks of its own -/
def RuO (w : World) (base : Nat) (v : Value) (rs : List Ru) : Prop := OwnG (fun ks a => KP w base w.heap.size ks a ks.len) w base v rs
theorem RuO.grown {w w' : World} {base : Nat} {v : Value} {rs : List Ru} {r : Option Nat} (h : RuO w base v rs) (hg : w.grownBy w' r) (hr : ∀ g, r = some g → g < base) : RuO w' base v rs :=
  (OwnG.grown h hg fun g e => .inl (hr g e)).imp fun ks a hk => hk.keep (Nat.le_refl _) hg.size fun g h1 h2 => hg.block g h2 (fun e => by have := hr g e.symm; omega)
theorem RuO.step {w w' : World} {base B R n c p q k : Nat} {a : Option Addr} {v : Value} {rs : List Ru} (h : RuO w base v rs) (hR : R < base) (hs : Step w w' B R a n c p q k) : RuO w' base v rs :=
  h.grown hs.grown fun g e => by injection e with e; omega
theorem RuO.below {w w' : World} {base : Nat} {v : Value} {rs : List Ru} (h : RuO w base v rs) (hb : Below w.heap.size w w') : RuO w' base v rs :=
  h.grown (r := none) ⟨hb.os, hb.tape, hb.output, hb.size, fun i hi _ => hb.block i hi⟩ fun g e => by cases e
theorem RuO.setCell {w : World} {base g : Nat} {v : Value} {rs : List Ru} (h : RuO w base v rs) (hg : g < base) (i : Nat) (u : Value) : RuO (w.setCell ⟨g, i, none⟩ u) base v rs :=
  h.grown (r := some g) (grown_set (World.grownBy.refl w _) (.inl rfl) u) fun j e => by injection e with e; omega
theorem RuO.alloc {w : World} {base : Nat} {v : Value} {rs : List Ru} (h : RuO w base v rs) (o : Obj) : RuO (w.alloc o) base v rs := h.grown (World.grownBy_alloc w o none) fun g e => by cases e
theorem RuO.mono {w : World} {base base' : Nat} {v : Value} {rs : List Ru} (h : RuO w base v rs) (hb : base' ≤ base) : RuO w base' v rs :=
  (OwnG.mono h hb).imp fun ks a hk => hk.more hb (Nat.le_refl _)
theorem RuO.nil {w : World} {base : Nat} (h : base ≤ w.heap.size) : RuO w base (.slice none 0 0) [] := OwnG.nil _ w h
/-- what drawn rules are like -/
def RuSm (z : Nat) (rs : List Ru) : Prop := ∀ x ∈ rs, x.1.size ≤ 10 ∧ x.2.2.1.size ≤ 100 ∧ x.2.2.2.Fits ∧ x.2.2.2.size ≤ z
theorem RuSm.ins {z : Nat} {r : Ru} {rs : List Ru} (h : RuSm z rs) (hr : r.1.size ≤ 10 ∧ r.2.2.1.size ≤ 100 ∧ r.2.2.2.Fits ∧ r.2.2.2.size ≤ z) : RuSm z (insR r (delRu r.1 rs)) := fun y hy => by
  rcases mem_insR.1 hy with rfl | hy
  · exact hr
  · exact h y (mem_delRu.1 hy).1
/-- between two rounds of l3Project's second loop -/
def PjI2 (w : World) (B R : Nat) (a : Option Addr) (n c p E : Nat) (v1 : Value) (fs : List Fl) (i : Value) (wr : World) : Prop :=
  ∃ (j q : Nat) (v2 : Value) (rs : List Ru), i = .int .i64 j ∧ OwnsF wr (E + 1) v1 fs ∧ RuO wr (E + 1) v2 rs ∧ BxP wr E v1 v2 26 ∧ BxP wr w.heap.size (.slice none 0 0) (.slice none 0 0) 26 ∧ RuSm 1000 rs ∧ rs.length + j ≤ 5 ∧ Step w wr B R a n c p q (20 + 10002 * (5 - j))
/-- what a drawn project is: each of its lists in memory of its own -/
def ProjPost (w : World) (B R : Nat) (a : Option Addr) (n c p l m z : Nat) (e : Ending) (w' : World) : Prop :=
  ∃ v1 v2 fs rs q, e = .returned (.agg #[v1, v2]) ∧ OwnsF w' (w.heap.size + 1) v1 fs ∧ RuO w' (w.heap.size + 1) v2 rs ∧ Short 10 fs ∧ fs.length ≤ m ∧ RuSm z rs ∧ rs.length ≤ m ∧ Step w w' B R a n c p q l
/-- between two rounds of l3Project's first loop -/
def PjI1 (w : World) (B R : Nat) (a : Option Addr) (n c p E : Nat) (i : Value) (wr : World) : Prop :=
  ∃ (j q : Nat) (v : Value) (fs : List Fl), i = .int .i64 j ∧ OwnsF wr (E + 1) v fs ∧ BxP wr E v (.slice none 0 0) 26 ∧ BxP wr w.heap.size (.slice none 0 0) (.slice none 0 0) 26 ∧ Short 10 fs ∧ fs.length + j ≤ 5 ∧ Step w wr B R a n c p q (1 + 2 * (5 - j))

set_option maxRecDepth 100000 in
set_option maxHeartbeats 4000000 in
theorem project_any {n c p B R : Nat} {a : Option Addr} {w : World} (h : Rd w B R a n c p) (hp : p ≤ 800000000) :
    Calls Tryz.prog 27 #[.pointer (some ⟨R, 0, none⟩)] w (ProjPost w B R a n c p 60000 5 1000) := by
  have hR := h.lt
  have h0 := ((Step.refl h).alloc (.cells #[.slice none 0 0, .slice none 0 0] 26)).alloc (.cells #[.slice none 0 0, .slice none 0 0] 26)
  have hb0 := (BxP.new w (.slice none 0 0) (.slice none 0 0) 26).alloc (.cells #[.slice none 0 0, .slice none 0 0] 26)
  have he0 := BxP.new (w.alloc (.cells #[.slice none 0 0, .slice none 0 0] 26)) (.slice none 0 0) (.slice none 0 0) 26
  rw [World.size_alloc] at he0
  go_enter Tryz.func27, Tryz.ntmps27
  have hs0 : ((w.alloc (.cells #[.slice none 0 0, .slice none 0 0] 26)).alloc (.cells #[.slice none 0 0, .slice none 0 0] 26)).heap.size = w.heap.size + 1 + 1 := by simp
  go_wp2_with fail
  rw [← hs0]
  refine (num_new (fun s => 2 ≤ s ∧ s ≤ 5) 4 h0.rd (by omega) (by omega) (by omega) rfl ?_).mono ?_
  · intro u hu
    have hu' : u = .int .i64 3 ∨ u = .int .i64 4 ∨ u = .int .i64 2 ∨ u = .int .i64 5 := by simpa using hu
    rcases hu' with rfl | rfl | rfl | rfl <;> exact ⟨_, rfl, by omega, by omega⟩
  rintro e w1 ⟨⟨m, rfl, hm0, hm1⟩, hst⟩
  obtain ⟨m, rfl⟩ := Int.eq_ofNat_of_zero_le (show 0 ≤ m by omega)
  have hst1 := (h0.alloc _).trans hst
  have hb1 := bxP_step (hb0.alloc _) hst (by omega)
  have he1 := bxP_step (he0.alloc _) hst (by omega)
  clear hst h0 hb0 he0 hs0
  go_wp2_with fail
  go_loopw [4] (fun i wr => PjI1 w B R a n c p (w.heap.size + 1) i wr) (fun i _ => (intOf i).toNat)
  case atStart => exact ⟨m, _, _, [], rfl, World.ownsRow_nil _ _ _ _, he1, hb1, fun f hf => by simp at hf, by simp; omega, hst1.more (by omega)⟩
  case round =>
    obtain ⟨j, q, v, fs, rfl, hof, he, hb, hsh, hlj, hst⟩ := hrel
    have hhi := hst.hi
    by_cases hj : 0 < j
    · have hjj : (0 : Int) < (j : Int) := by omega
      obtain ⟨j, rfl⟩ : ∃ i, j = i + 1 := ⟨j - 1, by omega⟩
      have hrd := hst.rd
      obtain ⟨b1, d1, rfl, hf1⟩ := hof.form
      obtain ⟨x0, x1, xf0, xf1, xl⟩ := he.facts
      have xl2 : w.heap.size + 1 < wr.heap.size + 1 := by omega
      have xl3 : w.heap.size < wr.heap.size := by omega
      go_wp2_with fail
      --REGION5
      have HK0 := Lib.hid (show True from trivial)
      refine wp_region_held_drew (S := (fun _ => True)) (by kernel_rfl) HK0.out (fun hHeld => ?_)
      refine wpAnyH_take (i := 0) (oi := { dst := some 17, op := Op.fieldAddr 26 (Operand.tmp 3) 0, type := 0, pos := "l3_project.go:211", after := #[], guard := none }) (v := ?vq1_0) rfl (by kernel_rfl) (by kernel_rfl) (by kernel_rfl) (fun _ _ _ h => h) (Or.inl ⟨by rfl, ?hyq1_0⟩) (by assumption) ?_
      case hyq1_0 =>
        intro W hSW
        try dsimp only at hSW
        go_simp
        try with_reducible rfl
      try simp only [Act.put, List.setIfInBounds_toArray, List.set_cons_zero, List.set_cons_succ]
      refine wpAnyH_take (i := 2) (oi := { dst := some 19, op := Op.move (Operand.tmp 0), type := 53, pos := "l3_project.go:211", after := #[], guard := none }) (v := ?vq2_2) rfl (by kernel_rfl) (by kernel_rfl) (by kernel_rfl) (fun _ _ _ h => h) (Or.inl ⟨by rfl, ?hyq2_2⟩) (by assumption) ?_
      case hyq2_2 =>
        intro W hSW
        try dsimp only at hSW
        go_simp
        try with_reducible rfl
      try simp only [Act.put, List.setIfInBounds_toArray, List.set_cons_zero, List.set_cons_succ]
      refine wpAnyH_take (i := 5) (oi := { dst := some 22, op := Op.move (Operand.tmp 0), type := 53, pos := "l3_project.go:211", after := #[], guard := none }) (v := ?vq3_5) rfl (by kernel_rfl) (by kernel_rfl) (by kernel_rfl) (fun _ _ _ h => h) (Or.inl ⟨by rfl, ?hyq3_5⟩) (by assumption) ?_
      case hyq3_5 =>
        intro W hSW
        try dsimp only at hSW
        go_simp
        try with_reducible rfl
      try simp only [Act.put, List.setIfInBounds_toArray, List.set_cons_zero, List.set_cons_succ]
      refine wpAnyH_ready (rs := [1, 3, 6]) (by kernel_rfl) (by simp) ?_
      refine AllReadyH.cons (o := { dst := some 18, op := Op.load 23 (Operand.tmp 17), type := 23, pos := "l3_project.go:211", after := #[{ on := 0, ground := Ground.data }], guard := none }) rfl (fun K hK => ?_) (AllReadyH.cons (o := { dst := some 20, op := Op.buildSlice 58 5 #[(0, Operand.const (Value.string { data := #[97] })), (1, Operand.const (Value.string { data := #[98] })), (2, Operand.const (Value.string { data := #[99] })), (3, Operand.const (Value.string { data := #[97, 98] })), (4, Operand.const (Value.string { data := #[97] }))], type := 58, pos := "l3_project.go:211", after := #[], guard := none }) rfl (fun K hK => ?_) (AllReadyH.cons (o := { dst := some 23, op := Op.buildSlice 58 7 #[(0, Operand.const (Value.string { data := #[97] })), (1, Operand.const (Value.string { data := #[98] })), (2, Operand.const (Value.string { data := #[120] })), (3, Operand.const (Value.string { data := #[] })), (4, Operand.const (Value.string { data := #[97, 98] })), (5, Operand.const (Value.string { data := #[121] })), (6, Operand.const (Value.string { data := #[99, 32, 100] }))], type := 58, pos := "l3_project.go:211", after := #[], guard := none }) rfl (fun K hK => ?_) AllReadyH.nil))
      · go_simp
        clear hHeld
        try dsimp only
        refine hK.out _ _ trivial (fun hHeld => ?_)
        clear hK K
        try simp only [Act.put, List.setIfInBounds_toArray, List.set_cons_zero, List.set_cons_succ]
        refine wpAnyH_ready (rs := [3, 6]) (by kernel_rfl) (by simp) ?_
        refine AllReadyH.cons (o := { dst := some 20, op := Op.buildSlice 58 5 #[(0, Operand.const (Value.string { data := #[97] })), (1, Operand.const (Value.string { data := #[98] })), (2, Operand.const (Value.string { data := #[99] })), (3, Operand.const (Value.string { data := #[97, 98] })), (4, Operand.const (Value.string { data := #[97] }))], type := 58, pos := "l3_project.go:211", after := #[], guard := none }) rfl (fun K hK => ?_) (AllReadyH.cons (o := { dst := some 23, op := Op.buildSlice 58 7 #[(0, Operand.const (Value.string { data := #[97] })), (1, Operand.const (Value.string { data := #[98] })), (2, Operand.const (Value.string { data := #[120] })), (3, Operand.const (Value.string { data := #[] })), (4, Operand.const (Value.string { data := #[97, 98] })), (5, Operand.const (Value.string { data := #[121] })), (6, Operand.const (Value.string { data := #[99, 32, 100] }))], type := 58, pos := "l3_project.go:211", after := #[], guard := none }) rfl (fun K hK => ?_) AllReadyH.nil)
        · go_simp
          clear hHeld
          try dsimp only
          refine hK.out _ _ trivial (fun hHeld => ?_)
          clear hK K
          try simp only [Act.put, List.setIfInBounds_toArray, List.set_cons_zero, List.set_cons_succ]
          refine wpAnyH_ready (rs := [4, 6]) (by kernel_rfl) (by simp) ?_
          refine AllReadyH.cons (o := { dst := some 21, op := Op.call { callee := Callee.value (Operand.func 28), args := #[Operand.tmp 19, Operand.tmp 20], argTypes := #[53, 58] }, type := 9, pos := "l3_project.go:211", after := #[{ on := 2, ground := Ground.data }, { on := 3, ground := Ground.data }], guard := none }) rfl (fun K hK => ?_) (AllReadyH.cons (o := { dst := some 23, op := Op.buildSlice 58 7 #[(0, Operand.const (Value.string { data := #[97] })), (1, Operand.const (Value.string { data := #[98] })), (2, Operand.const (Value.string { data := #[120] })), (3, Operand.const (Value.string { data := #[] })), (4, Operand.const (Value.string { data := #[97, 98] })), (5, Operand.const (Value.string { data := #[121] })), (6, Operand.const (Value.string { data := #[99, 32, 100] }))], type := 58, pos := "l3_project.go:211", after := #[], guard := none }) rfl (fun K hK => ?_) AllReadyH.nil)
          · go_simp
            refine Calls.mono (of_any (m := 5) (Q := fun s => s.size ≤ 10) (by first | exact (hrd.drewN 1).alloc _ | exact ((hrd.drewN 1).alloc _).alloc _) (by omega) (by omega) (by omega) (by first | omega | (simp; omega)) (by first | exact strs5 (heap_alloc_new _ _) | exact strs5 (heap_two _ _ _) | exact strs5 ((Below.heap_alloc _ _ _ (by simp)).trans (heap_alloc_new _ _)))) ?_
            rintro e w4 ⟨⟨s1, rfl, hq1⟩, hst4⟩
            have hg4 : Step wr w4 B R a n c q (q + 1) (0 + 1) := (by first | exact (((Step.refl hrd).drewN 1).alloc _).trans hst4 | exact ((((Step.refl hrd).drewN 1).alloc _).alloc _).trans hst4)
            have hl4 := hg4.grown.size
            obtain ⟨y0, y1, yf0, yf1, yl⟩ := (bxP_step he hg4 (by omega)).facts
            clear hHeld
            try dsimp only
            refine hK.out _ _ trivial (fun hHeld => ?_)
            clear hK K
            try simp only [Act.put, List.setIfInBounds_toArray, List.set_cons_zero, List.set_cons_succ]
            refine wpAnyH_ready (rs := [6]) (by kernel_rfl) (by simp) ?_
            refine AllReadyH.cons (o := { dst := some 23, op := Op.buildSlice 58 7 #[(0, Operand.const (Value.string { data := #[97] })), (1, Operand.const (Value.string { data := #[98] })), (2, Operand.const (Value.string { data := #[120] })), (3, Operand.const (Value.string { data := #[] })), (4, Operand.const (Value.string { data := #[97, 98] })), (5, Operand.const (Value.string { data := #[121] })), (6, Operand.const (Value.string { data := #[99, 32, 100] }))], type := 58, pos := "l3_project.go:211", after := #[], guard := none }) rfl (fun K hK => ?_) AllReadyH.nil
            go_simp
            clear hHeld
            try dsimp only
            refine hK.out _ _ trivial (fun hHeld => ?_)
            clear hK K
            try simp only [Act.put, List.setIfInBounds_toArray, List.set_cons_zero, List.set_cons_succ]
            refine wpAnyH_ready (rs := [7]) (by kernel_rfl) (by simp) ?_
            refine AllReadyH.cons (o := { dst := some 24, op := Op.call { callee := Callee.value (Operand.func 28), args := #[Operand.tmp 22, Operand.tmp 23], argTypes := #[53, 58] }, type := 9, pos := "l3_project.go:211", after := #[{ on := 5, ground := Ground.data }, { on := 6, ground := Ground.data }, { on := 4, ground := Ground.chain }], guard := none }) rfl (fun K hK => ?_) AllReadyH.nil
            go_simp
            refine Calls.mono (of_any (m := 7) (Q := fun s => s.size ≤ 10) (by first | exact hst4.rd | exact hst4.rd.alloc _) (by omega) (by omega) (by omega) (by first | omega | (simp; omega)) (by first | exact strs7 (heap_alloc_new w4 _) | (refine StrsAt.step ?_ hst4 ?_ ?_ <;> first | exact strs7 (heap_two _ _ _) | exact strs7 ((Below.heap_alloc _ _ _ (by simp)).trans (heap_alloc_new _ _)) | omega | (simp; done) | (simp; omega)))) ?_
            rintro e w5 ⟨⟨s2, rfl, hq2⟩, hst5⟩
            have hg5 : Step wr w5 B R a n c q (q + 1 + 1) (0 + 1 + 1) := (by first | exact hg4.trans hst5 | exact (hg4.alloc _).trans hst5)
            have he5 := bxP_step he hg5 (by omega)
            have hof5 := hof.step (by omega) hg5
            obtain ⟨b5, d5, hbd5, hf5⟩ := hof5.form
            cases hbd5
            obtain ⟨u0, u1, uf0, uf1, ul⟩ := he5.facts
            clear hHeld
            try dsimp only
            refine hK.out _ _ trivial (fun hHeld => ?_)
            clear hK K
            try simp only [Act.put, List.setIfInBounds_toArray, List.set_cons_zero, List.set_cons_succ]
            refine wpAnyH_take (i := 8) (oi := { dst := some 25, op := Op.build 28 #[(0, Operand.tmp 21), (1, Operand.tmp 24)], type := 28, pos := "l3_project.go:211", after := #[{ on := 4, ground := Ground.data }, { on := 7, ground := Ground.data }], guard := none }) (v := ?vq4_8) rfl (by kernel_rfl) (by kernel_rfl) (by kernel_rfl) (fun _ _ _ h => h) (Or.inl ⟨by rfl, ?hyq4_8⟩) (by assumption) ?_
            case hyq4_8 =>
              intro W hSW
              try dsimp only at hSW
              go_simp
              try with_reducible rfl
            try simp only [Act.put, List.setIfInBounds_toArray, List.set_cons_zero, List.set_cons_succ]
            refine wpAnyH_ready (rs := [9]) (by kernel_rfl) (by simp) ?_
            refine AllReadyH.cons (o := { dst := some 26, op := Op.call { callee := Callee.value (Operand.func 36), args := #[Operand.tmp 18, Operand.tmp 25], argTypes := #[23, 28] }, type := 23, pos := "l3_project.go:211", after := #[{ on := 1, ground := Ground.data }, { on := 8, ground := Ground.data }, { on := 7, ground := Ground.chain }], guard := none }) rfl (fun K hK => ?_) AllReadyH.nil
            go_simp
            refine Calls.mono (put_any b1 fs.length d1 fs s1 s2 w5 hf5 (by omega)) ?_
            rintro e w6 ⟨v6, rfl, hown6, hB6⟩
            obtain ⟨b6, d6, rfl, hf6⟩ := hown6.form
            obtain ⟨z0, z1, zf0, zf1, zl⟩ := (he5.next hB6).facts
            clear hHeld
            try dsimp only
            refine hK.out _ _ trivial (fun hHeld => ?_)
            clear hK K
            try simp only [Act.put, List.setIfInBounds_toArray, List.set_cons_zero, List.set_cons_succ]
            refine wpAnyH_take (i := 10) (oi := { dst := some 27, op := Op.fieldAddr 26 (Operand.tmp 3) 0, type := 0, pos := "l3_project.go:211", after := #[{ on := 0, ground := Ground.phase }, { on := 1, ground := Ground.phase }, { on := 2, ground := Ground.phase }, { on := 3, ground := Ground.phase }, { on := 4, ground := Ground.phase }, { on := 5, ground := Ground.phase }, { on := 6, ground := Ground.phase }, { on := 7, ground := Ground.phase }, { on := 8, ground := Ground.phase }, { on := 9, ground := Ground.phase }], guard := none }) (v := ?vq5_10) rfl (by kernel_rfl) (by kernel_rfl) (by kernel_rfl) (fun _ _ _ h => h) (Or.inl ⟨by rfl, ?hyq5_10⟩) (by assumption) ?_
            case hyq5_10 =>
              intro W hSW
              try dsimp only at hSW
              go_simp
              try with_reducible rfl
            try simp only [Act.put, List.setIfInBounds_toArray, List.set_cons_zero, List.set_cons_succ]
            refine wpAnyH_ready (rs := [11]) (by kernel_rfl) (by simp) ?_
            refine AllReadyH.cons (o := { dst := none, op := Op.store 23 (Operand.tmp 27) (Operand.tmp 26), type := 0, pos := "l3_project.go:211", after := #[{ on := 10, ground := Ground.data }, { on := 9, ground := Ground.data }, { on := 9, ground := Ground.chain }, { on := 0, ground := Ground.phase }, { on := 1, ground := Ground.phase }, { on := 2, ground := Ground.phase }, { on := 3, ground := Ground.phase }, { on := 4, ground := Ground.phase }, { on := 5, ground := Ground.phase }, { on := 6, ground := Ground.phase }, { on := 7, ground := Ground.phase }, { on := 8, ground := Ground.phase }, { on := 9, ground := Ground.phase }], guard := none }) rfl (fun K hK => ?_) AllReadyH.nil
            go_simp
            clear hHeld
            try dsimp only
            refine hK.out _ _ trivial (fun hHeld => ?_)
            clear hK K
            try simp only [Act.put, List.setIfInBounds_toArray, List.set_cons_zero, List.set_cons_succ]
            refine wpAnyH_done (by kernel_rfl) ?_ _
            have hl5 := hg5.grown.size
            have hln := putF_length (s1, s2) fs
            have hsh6 := hsh.put (f := (s1, s2)) ⟨hq1, hq2⟩
            have hown7 := ownsF_set (ownsF_mono (base' := w.heap.size + 1 + 1) hown6 (by omega)) (g := w.heap.size + 1) (by omega) 0 (.slice b6 (putF (s1, s2) fs).length d6)
            have he6 := (he5.next hB6).set0 (.slice b6 (putF (s1, s2) fs).length d6)
            have hb6 := ((bxP_step hb hg5 (by omega)).next hB6).other (g' := w.heap.size + 1) (by omega) 0 (.slice b6 (putF (s1, s2) fs).length d6)
            have hst6 := ((hst.trans hg5).below hB6).setNew (g := w.heap.size + 1) (j := 0) (by omega) (.slice b6 (putF (s1, s2) fs).length d6)
            clear z0 z1 zf0 zf1 zl y0 y1 yf0 yf1 yl x0 x1 xf0 xf1 xl u0 u1 uf0 uf1 ul hf6 hown6 hst4 hst5 hg4 hg5 he5 hof5 hf5
            go_wp2_with fail
            exact ⟨⟨j, _, _, _, by go_num, hown7, he6, hb6, hsh6, by omega, hst6.more (by omega)⟩, by simp [intOf]⟩
          · go_simp
            clear hHeld
            try dsimp only
            refine hK.out _ _ trivial (fun hHeld => ?_)
            clear hK K
            try simp only [Act.put, List.setIfInBounds_toArray, List.set_cons_zero, List.set_cons_succ]
            refine wpAnyH_ready (rs := [4]) (by kernel_rfl) (by simp) ?_
            refine AllReadyH.cons (o := { dst := some 21, op := Op.call { callee := Callee.value (Operand.func 28), args := #[Operand.tmp 19, Operand.tmp 20], argTypes := #[53, 58] }, type := 9, pos := "l3_project.go:211", after := #[{ on := 2, ground := Ground.data }, { on := 3, ground := Ground.data }], guard := none }) rfl (fun K hK => ?_) AllReadyH.nil
            go_simp
            refine Calls.mono (of_any (m := 5) (Q := fun s => s.size ≤ 10) (by first | exact (hrd.drewN 1).alloc _ | exact ((hrd.drewN 1).alloc _).alloc _) (by omega) (by omega) (by omega) (by first | omega | (simp; omega)) (by first | exact strs5 (heap_alloc_new _ _) | exact strs5 (heap_two _ _ _) | exact strs5 ((Below.heap_alloc _ _ _ (by simp)).trans (heap_alloc_new _ _)))) ?_
            rintro e w4 ⟨⟨s1, rfl, hq1⟩, hst4⟩
            have hg4 : Step wr w4 B R a n c q (q + 1) (0 + 1) := (by first | exact (((Step.refl hrd).drewN 1).alloc _).trans hst4 | exact ((((Step.refl hrd).drewN 1).alloc _).alloc _).trans hst4)
            have hl4 := hg4.grown.size
            obtain ⟨y0, y1, yf0, yf1, yl⟩ := (bxP_step he hg4 (by omega)).facts
            clear hHeld
            try dsimp only
            refine hK.out _ _ trivial (fun hHeld => ?_)
            clear hK K
            try simp only [Act.put, List.setIfInBounds_toArray, List.set_cons_zero, List.set_cons_succ]
            refine wpAnyH_ready (rs := [7]) (by kernel_rfl) (by simp) ?_
            refine AllReadyH.cons (o := { dst := some 24, op := Op.call { callee := Callee.value (Operand.func 28), args := #[Operand.tmp 22, Operand.tmp 23], argTypes := #[53, 58] }, type := 9, pos := "l3_project.go:211", after := #[{ on := 5, ground := Ground.data }, { on := 6, ground := Ground.data }, { on := 4, ground := Ground.chain }], guard := none }) rfl (fun K hK => ?_) AllReadyH.nil
            go_simp
            refine Calls.mono (of_any (m := 7) (Q := fun s => s.size ≤ 10) (by first | exact hst4.rd | exact hst4.rd.alloc _) (by omega) (by omega) (by omega) (by first | omega | (simp; omega)) (by first | exact strs7 (heap_alloc_new w4 _) | (refine StrsAt.step ?_ hst4 ?_ ?_ <;> first | exact strs7 (heap_two _ _ _) | exact strs7 ((Below.heap_alloc _ _ _ (by simp)).trans (heap_alloc_new _ _)) | omega | (simp; done) | (simp; omega)))) ?_
            rintro e w5 ⟨⟨s2, rfl, hq2⟩, hst5⟩
            have hg5 : Step wr w5 B R a n c q (q + 1 + 1) (0 + 1 + 1) := (by first | exact hg4.trans hst5 | exact (hg4.alloc _).trans hst5)
            have he5 := bxP_step he hg5 (by omega)
            have hof5 := hof.step (by omega) hg5
            obtain ⟨b5, d5, hbd5, hf5⟩ := hof5.form
            cases hbd5
            obtain ⟨u0, u1, uf0, uf1, ul⟩ := he5.facts
            clear hHeld
            try dsimp only
            refine hK.out _ _ trivial (fun hHeld => ?_)
            clear hK K
            try simp only [Act.put, List.setIfInBounds_toArray, List.set_cons_zero, List.set_cons_succ]
            refine wpAnyH_take (i := 8) (oi := { dst := some 25, op := Op.build 28 #[(0, Operand.tmp 21), (1, Operand.tmp 24)], type := 28, pos := "l3_project.go:211", after := #[{ on := 4, ground := Ground.data }, { on := 7, ground := Ground.data }], guard := none }) (v := ?vq6_8) rfl (by kernel_rfl) (by kernel_rfl) (by kernel_rfl) (fun _ _ _ h => h) (Or.inl ⟨by rfl, ?hyq6_8⟩) (by assumption) ?_
            case hyq6_8 =>
              intro W hSW
              try dsimp only at hSW
              go_simp
              try with_reducible rfl
            try simp only [Act.put, List.setIfInBounds_toArray, List.set_cons_zero, List.set_cons_succ]
            refine wpAnyH_ready (rs := [9]) (by kernel_rfl) (by simp) ?_
            refine AllReadyH.cons (o := { dst := some 26, op := Op.call { callee := Callee.value (Operand.func 36), args := #[Operand.tmp 18, Operand.tmp 25], argTypes := #[23, 28] }, type := 23, pos := "l3_project.go:211", after := #[{ on := 1, ground := Ground.data }, { on := 8, ground := Ground.data }, { on := 7, ground := Ground.chain }], guard := none }) rfl (fun K hK => ?_) AllReadyH.nil
            go_simp
            refine Calls.mono (put_any b1 fs.length d1 fs s1 s2 w5 hf5 (by omega)) ?_
            rintro e w6 ⟨v6, rfl, hown6, hB6⟩
            obtain ⟨b6, d6, rfl, hf6⟩ := hown6.form
            obtain ⟨z0, z1, zf0, zf1, zl⟩ := (he5.next hB6).facts
            clear hHeld
            try dsimp only
            refine hK.out _ _ trivial (fun hHeld => ?_)
            clear hK K
            try simp only [Act.put, List.setIfInBounds_toArray, List.set_cons_zero, List.set_cons_succ]
            refine wpAnyH_take (i := 10) (oi := { dst := some 27, op := Op.fieldAddr 26 (Operand.tmp 3) 0, type := 0, pos := "l3_project.go:211", after := #[{ on := 0, ground := Ground.phase }, { on := 1, ground := Ground.phase }, { on := 2, ground := Ground.phase }, { on := 3, ground := Ground.phase }, { on := 4, ground := Ground.phase }, { on := 5, ground := Ground.phase }, { on := 6, ground := Ground.phase }, { on := 7, ground := Ground.phase }, { on := 8, ground := Ground.phase }, { on := 9, ground := Ground.phase }], guard := none }) (v := ?vq7_10) rfl (by kernel_rfl) (by kernel_rfl) (by kernel_rfl) (fun _ _ _ h => h) (Or.inl ⟨by rfl, ?hyq7_10⟩) (by assumption) ?_
            case hyq7_10 =>
              intro W hSW
              try dsimp only at hSW
              go_simp
              try with_reducible rfl
            try simp only [Act.put, List.setIfInBounds_toArray, List.set_cons_zero, List.set_cons_succ]
            refine wpAnyH_ready (rs := [11]) (by kernel_rfl) (by simp) ?_
            refine AllReadyH.cons (o := { dst := none, op := Op.store 23 (Operand.tmp 27) (Operand.tmp 26), type := 0, pos := "l3_project.go:211", after := #[{ on := 10, ground := Ground.data }, { on := 9, ground := Ground.data }, { on := 9, ground := Ground.chain }, { on := 0, ground := Ground.phase }, { on := 1, ground := Ground.phase }, { on := 2, ground := Ground.phase }, { on := 3, ground := Ground.phase }, { on := 4, ground := Ground.phase }, { on := 5, ground := Ground.phase }, { on := 6, ground := Ground.phase }, { on := 7, ground := Ground.phase }, { on := 8, ground := Ground.phase }, { on := 9, ground := Ground.phase }], guard := none }) rfl (fun K hK => ?_) AllReadyH.nil
            go_simp
            clear hHeld
            try dsimp only
            refine hK.out _ _ trivial (fun hHeld => ?_)
            clear hK K
            try simp only [Act.put, List.setIfInBounds_toArray, List.set_cons_zero, List.set_cons_succ]
            refine wpAnyH_done (by kernel_rfl) ?_ _
            have hl5 := hg5.grown.size
            have hln := putF_length (s1, s2) fs
            have hsh6 := hsh.put (f := (s1, s2)) ⟨hq1, hq2⟩
            have hown7 := ownsF_set (ownsF_mono (base' := w.heap.size + 1 + 1) hown6 (by omega)) (g := w.heap.size + 1) (by omega) 0 (.slice b6 (putF (s1, s2) fs).length d6)
            have he6 := (he5.next hB6).set0 (.slice b6 (putF (s1, s2) fs).length d6)
            have hb6 := ((bxP_step hb hg5 (by omega)).next hB6).other (g' := w.heap.size + 1) (by omega) 0 (.slice b6 (putF (s1, s2) fs).length d6)
            have hst6 := ((hst.trans hg5).below hB6).setNew (g := w.heap.size + 1) (j := 0) (by omega) (.slice b6 (putF (s1, s2) fs).length d6)
            clear z0 z1 zf0 zf1 zl y0 y1 yf0 yf1 yl x0 x1 xf0 xf1 xl u0 u1 uf0 uf1 ul hf6 hown6 hst4 hst5 hg4 hg5 he5 hof5 hf5
            go_wp2_with fail
            exact ⟨⟨j, _, _, _, by go_num, hown7, he6, hb6, hsh6, by omega, hst6.more (by omega)⟩, by simp [intOf]⟩
        · go_simp
          clear hHeld
          try dsimp only
          refine hK.out _ _ trivial (fun hHeld => ?_)
          clear hK K
          try simp only [Act.put, List.setIfInBounds_toArray, List.set_cons_zero, List.set_cons_succ]
          refine wpAnyH_ready (rs := [3]) (by kernel_rfl) (by simp) ?_
          refine AllReadyH.cons (o := { dst := some 20, op := Op.buildSlice 58 5 #[(0, Operand.const (Value.string { data := #[97] })), (1, Operand.const (Value.string { data := #[98] })), (2, Operand.const (Value.string { data := #[99] })), (3, Operand.const (Value.string { data := #[97, 98] })), (4, Operand.const (Value.string { data := #[97] }))], type := 58, pos := "l3_project.go:211", after := #[], guard := none }) rfl (fun K hK => ?_) AllReadyH.nil
          go_simp
          clear hHeld
          try dsimp only
          refine hK.out _ _ trivial (fun hHeld => ?_)
          clear hK K
          try simp only [Act.put, List.setIfInBounds_toArray, List.set_cons_zero, List.set_cons_succ]
          refine wpAnyH_ready (rs := [4]) (by kernel_rfl) (by simp) ?_
          refine AllReadyH.cons (o := { dst := some 21, op := Op.call { callee := Callee.value (Operand.func 28), args := #[Operand.tmp 19, Operand.tmp 20], argTypes := #[53, 58] }, type := 9, pos := "l3_project.go:211", after := #[{ on := 2, ground := Ground.data }, { on := 3, ground := Ground.data }], guard := none }) rfl (fun K hK => ?_) AllReadyH.nil
          go_simp
          refine Calls.mono (of_any (m := 5) (Q := fun s => s.size ≤ 10) (by first | exact (hrd.drewN 1).alloc _ | exact ((hrd.drewN 1).alloc _).alloc _) (by omega) (by omega) (by omega) (by first | omega | (simp; omega)) (by first | exact strs5 (heap_alloc_new _ _) | exact strs5 (heap_two _ _ _) | exact strs5 ((Below.heap_alloc _ _ _ (by simp)).trans (heap_alloc_new _ _)))) ?_
          rintro e w4 ⟨⟨s1, rfl, hq1⟩, hst4⟩
          have hg4 : Step wr w4 B R a n c q (q + 1) (0 + 1) := (by first | exact (((Step.refl hrd).drewN 1).alloc _).trans hst4 | exact ((((Step.refl hrd).drewN 1).alloc _).alloc _).trans hst4)
          have hl4 := hg4.grown.size
          obtain ⟨y0, y1, yf0, yf1, yl⟩ := (bxP_step he hg4 (by omega)).facts
          clear hHeld
          try dsimp only
          refine hK.out _ _ trivial (fun hHeld => ?_)
          clear hK K
          try simp only [Act.put, List.setIfInBounds_toArray, List.set_cons_zero, List.set_cons_succ]
          refine wpAnyH_ready (rs := [7]) (by kernel_rfl) (by simp) ?_
          refine AllReadyH.cons (o := { dst := some 24, op := Op.call { callee := Callee.value (Operand.func 28), args := #[Operand.tmp 22, Operand.tmp 23], argTypes := #[53, 58] }, type := 9, pos := "l3_project.go:211", after := #[{ on := 5, ground := Ground.data }, { on := 6, ground := Ground.data }, { on := 4, ground := Ground.chain }], guard := none }) rfl (fun K hK => ?_) AllReadyH.nil
          go_simp
          refine Calls.mono (of_any (m := 7) (Q := fun s => s.size ≤ 10) (by first | exact hst4.rd | exact hst4.rd.alloc _) (by omega) (by omega) (by omega) (by first | omega | (simp; omega)) (by first | exact strs7 (heap_alloc_new w4 _) | (refine StrsAt.step ?_ hst4 ?_ ?_ <;> first | exact strs7 (heap_two _ _ _) | exact strs7 ((Below.heap_alloc _ _ _ (by simp)).trans (heap_alloc_new _ _)) | omega | (simp; done) | (simp; omega)))) ?_
          rintro e w5 ⟨⟨s2, rfl, hq2⟩, hst5⟩
          have hg5 : Step wr w5 B R a n c q (q + 1 + 1) (0 + 1 + 1) := (by first | exact hg4.trans hst5 | exact (hg4.alloc _).trans hst5)
          have he5 := bxP_step he hg5 (by omega)
          have hof5 := hof.step (by omega) hg5
          obtain ⟨b5, d5, hbd5, hf5⟩ := hof5.form
          cases hbd5
          obtain ⟨u0, u1, uf0, uf1, ul⟩ := he5.facts
          clear hHeld
          try dsimp only
          refine hK.out _ _ trivial (fun hHeld => ?_)
          clear hK K
          try simp only [Act.put, List.setIfInBounds_toArray, List.set_cons_zero, List.set_cons_succ]
          refine wpAnyH_take (i := 8) (oi := { dst := some 25, op := Op.build 28 #[(0, Operand.tmp 21), (1, Operand.tmp 24)], type := 28, pos := "l3_project.go:211", after := #[{ on := 4, ground := Ground.data }, { on := 7, ground := Ground.data }], guard := none }) (v := ?vq8_8) rfl (by kernel_rfl) (by kernel_rfl) (by kernel_rfl) (fun _ _ _ h => h) (Or.inl ⟨by rfl, ?hyq8_8⟩) (by assumption) ?_
          case hyq8_8 =>
            intro W hSW
            try dsimp only at hSW
            go_simp
            try with_reducible rfl
          try simp only [Act.put, List.setIfInBounds_toArray, List.set_cons_zero, List.set_cons_succ]
          refine wpAnyH_ready (rs := [9]) (by kernel_rfl) (by simp) ?_
          refine AllReadyH.cons (o := { dst := some 26, op := Op.call { callee := Callee.value (Operand.func 36), args := #[Operand.tmp 18, Operand.tmp 25], argTypes := #[23, 28] }, type := 23, pos := "l3_project.go:211", after := #[{ on := 1, ground := Ground.data }, { on := 8, ground := Ground.data }, { on := 7, ground := Ground.chain }], guard := none }) rfl (fun K hK => ?_) AllReadyH.nil
          go_simp
          refine Calls.mono (put_any b1 fs.length d1 fs s1 s2 w5 hf5 (by omega)) ?_
          rintro e w6 ⟨v6, rfl, hown6, hB6⟩
          obtain ⟨b6, d6, rfl, hf6⟩ := hown6.form
          obtain ⟨z0, z1, zf0, zf1, zl⟩ := (he5.next hB6).facts
          clear hHeld
          try dsimp only
          refine hK.out _ _ trivial (fun hHeld => ?_)
          clear hK K
          try simp only [Act.put, List.setIfInBounds_toArray, List.set_cons_zero, List.set_cons_succ]
          refine wpAnyH_take (i := 10) (oi := { dst := some 27, op := Op.fieldAddr 26 (Operand.tmp 3) 0, type := 0, pos := "l3_project.go:211", after := #[{ on := 0, ground := Ground.phase }, { on := 1, ground := Ground.phase }, { on := 2, ground := Ground.phase }, { on := 3, ground := Ground.phase }, { on := 4, ground := Ground.phase }, { on := 5, ground := Ground.phase }, { on := 6, ground := Ground.phase }, { on := 7, ground := Ground.phase }, { on := 8, ground := Ground.phase }, { on := 9, ground := Ground.phase }], guard := none }) (v := ?vq9_10) rfl (by kernel_rfl) (by kernel_rfl) (by kernel_rfl) (fun _ _ _ h => h) (Or.inl ⟨by rfl, ?hyq9_10⟩) (by assumption) ?_
          case hyq9_10 =>
            intro W hSW
            try dsimp only at hSW
            go_simp
            try with_reducible rfl
          try simp only [Act.put, List.setIfInBounds_toArray, List.set_cons_zero, List.set_cons_succ]
          refine wpAnyH_ready (rs := [11]) (by kernel_rfl) (by simp) ?_
          refine AllReadyH.cons (o := { dst := none, op := Op.store 23 (Operand.tmp 27) (Operand.tmp 26), type := 0, pos := "l3_project.go:211", after := #[{ on := 10, ground := Ground.data }, { on := 9, ground := Ground.data }, { on := 9, ground := Ground.chain }, { on := 0, ground := Ground.phase }, { on := 1, ground := Ground.phase }, { on := 2, ground := Ground.phase }, { on := 3, ground := Ground.phase }, { on := 4, ground := Ground.phase }, { on := 5, ground := Ground.phase }, { on := 6, ground := Ground.phase }, { on := 7, ground := Ground.phase }, { on := 8, ground := Ground.phase }, { on := 9, ground := Ground.phase }], guard := none }) rfl (fun K hK => ?_) AllReadyH.nil
          go_simp
          clear hHeld
          try dsimp only
          refine hK.out _ _ trivial (fun hHeld => ?_)
          clear hK K
          try simp only [Act.put, List.setIfInBounds_toArray, List.set_cons_zero, List.set_cons_succ]
          refine wpAnyH_done (by kernel_rfl) ?_ _
          have hl5 := hg5.grown.size
          have hln := putF_length (s1, s2) fs
          have hsh6 := hsh.put (f := (s1, s2)) ⟨hq1, hq2⟩
          have hown7 := ownsF_set (ownsF_mono (base' := w.heap.size + 1 + 1) hown6 (by omega)) (g := w.heap.size + 1) (by omega) 0 (.slice b6 (putF (s1, s2) fs).length d6)
          have he6 := (he5.next hB6).set0 (.slice b6 (putF (s1, s2) fs).length d6)
          have hb6 := ((bxP_step hb hg5 (by omega)).next hB6).other (g' := w.heap.size + 1) (by omega) 0 (.slice b6 (putF (s1, s2) fs).length d6)
          have hst6 := ((hst.trans hg5).below hB6).setNew (g := w.heap.size + 1) (j := 0) (by omega) (.slice b6 (putF (s1, s2) fs).length d6)
          clear z0 z1 zf0 zf1 zl y0 y1 yf0 yf1 yl x0 x1 xf0 xf1 xl u0 u1 uf0 uf1 ul hf6 hown6 hst4 hst5 hg4 hg5 he5 hof5 hf5
          go_wp2_with fail
          exact ⟨⟨j, _, _, _, by go_num, hown7, he6, hb6, hsh6, by omega, hst6.more (by omega)⟩, by simp [intOf]⟩
      · go_simp
        clear hHeld
        try dsimp only
        refine hK.out _ _ trivial (fun hHeld => ?_)
        clear hK K
        try simp only [Act.put, List.setIfInBounds_toArray, List.set_cons_zero, List.set_cons_succ]
        refine wpAnyH_ready (rs := [1, 4, 6]) (by kernel_rfl) (by simp) ?_
        refine AllReadyH.cons (o := { dst := some 18, op := Op.load 23 (Operand.tmp 17), type := 23, pos := "l3_project.go:211", after := #[{ on := 0, ground := Ground.data }], guard := none }) rfl (fun K hK => ?_) (AllReadyH.cons (o := { dst := some 21, op := Op.call { callee := Callee.value (Operand.func 28), args := #[Operand.tmp 19, Operand.tmp 20], argTypes := #[53, 58] }, type := 9, pos := "l3_project.go:211", after := #[{ on := 2, ground := Ground.data }, { on := 3, ground := Ground.data }], guard := none }) rfl (fun K hK => ?_) (AllReadyH.cons (o := { dst := some 23, op := Op.buildSlice 58 7 #[(0, Operand.const (Value.string { data := #[97] })), (1, Operand.const (Value.string { data := #[98] })), (2, Operand.const (Value.string { data := #[120] })), (3, Operand.const (Value.string { data := #[] })), (4, Operand.const (Value.string { data := #[97, 98] })), (5, Operand.const (Value.string { data := #[121] })), (6, Operand.const (Value.string { data := #[99, 32, 100] }))], type := 58, pos := "l3_project.go:211", after := #[], guard := none }) rfl (fun K hK => ?_) AllReadyH.nil))
        · go_simp
          clear hHeld
          try dsimp only
          refine hK.out _ _ trivial (fun hHeld => ?_)
          clear hK K
          try simp only [Act.put, List.setIfInBounds_toArray, List.set_cons_zero, List.set_cons_succ]
          refine wpAnyH_ready (rs := [4, 6]) (by kernel_rfl) (by simp) ?_
          refine AllReadyH.cons (o := { dst := some 21, op := Op.call { callee := Callee.value (Operand.func 28), args := #[Operand.tmp 19, Operand.tmp 20], argTypes := #[53, 58] }, type := 9, pos := "l3_project.go:211", after := #[{ on := 2, ground := Ground.data }, { on := 3, ground := Ground.data }], guard := none }) rfl (fun K hK => ?_) (AllReadyH.cons (o := { dst := some 23, op := Op.buildSlice 58 7 #[(0, Operand.const (Value.string { data := #[97] })), (1, Operand.const (Value.string { data := #[98] })), (2, Operand.const (Value.string { data := #[120] })), (3, Operand.const (Value.string { data := #[] })), (4, Operand.const (Value.string { data := #[97, 98] })), (5, Operand.const (Value.string { data := #[121] })), (6, Operand.const (Value.string { data := #[99, 32, 100] }))], type := 58, pos := "l3_project.go:211", after := #[], guard := none }) rfl (fun K hK => ?_) AllReadyH.nil)
          · go_simp
            refine Calls.mono (of_any (m := 5) (Q := fun s => s.size ≤ 10) (by first | exact (hrd.drewN 1).alloc _ | exact ((hrd.drewN 1).alloc _).alloc _) (by omega) (by omega) (by omega) (by first | omega | (simp; omega)) (by first | exact strs5 (heap_alloc_new _ _) | exact strs5 (heap_two _ _ _) | exact strs5 ((Below.heap_alloc _ _ _ (by simp)).trans (heap_alloc_new _ _)))) ?_
            rintro e w4 ⟨⟨s1, rfl, hq1⟩, hst4⟩
            have hg4 : Step wr w4 B R a n c q (q + 1) (0 + 1) := (by first | exact (((Step.refl hrd).drewN 1).alloc _).trans hst4 | exact ((((Step.refl hrd).drewN 1).alloc _).alloc _).trans hst4)
            have hl4 := hg4.grown.size
            obtain ⟨y0, y1, yf0, yf1, yl⟩ := (bxP_step he hg4 (by omega)).facts
            clear hHeld
            try dsimp only
            refine hK.out _ _ trivial (fun hHeld => ?_)
            clear hK K
            try simp only [Act.put, List.setIfInBounds_toArray, List.set_cons_zero, List.set_cons_succ]
            refine wpAnyH_ready (rs := [6]) (by kernel_rfl) (by simp) ?_
            refine AllReadyH.cons (o := { dst := some 23, op := Op.buildSlice 58 7 #[(0, Operand.const (Value.string { data := #[97] })), (1, Operand.const (Value.string { data := #[98] })), (2, Operand.const (Value.string { data := #[120] })), (3, Operand.const (Value.string { data := #[] })), (4, Operand.const (Value.string { data := #[97, 98] })), (5, Operand.const (Value.string { data := #[121] })), (6, Operand.const (Value.string { data := #[99, 32, 100] }))], type := 58, pos := "l3_project.go:211", after := #[], guard := none }) rfl (fun K hK => ?_) AllReadyH.nil
            go_simp
            clear hHeld
            try dsimp only
            refine hK.out _ _ trivial (fun hHeld => ?_)
            clear hK K
            try simp only [Act.put, List.setIfInBounds_toArray, List.set_cons_zero, List.set_cons_succ]
            refine wpAnyH_ready (rs := [7]) (by kernel_rfl) (by simp) ?_
            refine AllReadyH.cons (o := { dst := some 24, op := Op.call { callee := Callee.value (Operand.func 28), args := #[Operand.tmp 22, Operand.tmp 23], argTypes := #[53, 58] }, type := 9, pos := "l3_project.go:211", after := #[{ on := 5, ground := Ground.data }, { on := 6, ground := Ground.data }, { on := 4, ground := Ground.chain }], guard := none }) rfl (fun K hK => ?_) AllReadyH.nil
            go_simp
            refine Calls.mono (of_any (m := 7) (Q := fun s => s.size ≤ 10) (by first | exact hst4.rd | exact hst4.rd.alloc _) (by omega) (by omega) (by omega) (by first | omega | (simp; omega)) (by first | exact strs7 (heap_alloc_new w4 _) | (refine StrsAt.step ?_ hst4 ?_ ?_ <;> first | exact strs7 (heap_two _ _ _) | exact strs7 ((Below.heap_alloc _ _ _ (by simp)).trans (heap_alloc_new _ _)) | omega | (simp; done) | (simp; omega)))) ?_
            rintro e w5 ⟨⟨s2, rfl, hq2⟩, hst5⟩
            have hg5 : Step wr w5 B R a n c q (q + 1 + 1) (0 + 1 + 1) := (by first | exact hg4.trans hst5 | exact (hg4.alloc _).trans hst5)
            have he5 := bxP_step he hg5 (by omega)
            have hof5 := hof.step (by omega) hg5
            obtain ⟨b5, d5, hbd5, hf5⟩ := hof5.form
            cases hbd5
            obtain ⟨u0, u1, uf0, uf1, ul⟩ := he5.facts
            clear hHeld
            try dsimp only
            refine hK.out _ _ trivial (fun hHeld => ?_)
            clear hK K
            try simp only [Act.put, List.setIfInBounds_toArray, List.set_cons_zero, List.set_cons_succ]
            refine wpAnyH_take (i := 8) (oi := { dst := some 25, op := Op.build 28 #[(0, Operand.tmp 21), (1, Operand.tmp 24)], type := 28, pos := "l3_project.go:211", after := #[{ on := 4, ground := Ground.data }, { on := 7, ground := Ground.data }], guard := none }) (v := ?vq10_8) rfl (by kernel_rfl) (by kernel_rfl) (by kernel_rfl) (fun _ _ _ h => h) (Or.inl ⟨by rfl, ?hyq10_8⟩) (by assumption) ?_
            case hyq10_8 =>
              intro W hSW
              try dsimp only at hSW
              go_simp
              try with_reducible rfl
            try simp only [Act.put, List.setIfInBounds_toArray, List.set_cons_zero, List.set_cons_succ]
            refine wpAnyH_ready (rs := [9]) (by kernel_rfl) (by simp) ?_
            refine AllReadyH.cons (o := { dst := some 26, op := Op.call { callee := Callee.value (Operand.func 36), args := #[Operand.tmp 18, Operand.tmp 25], argTypes := #[23, 28] }, type := 23, pos := "l3_project.go:211", after := #[{ on := 1, ground := Ground.data }, { on := 8, ground := Ground.data }, { on := 7, ground := Ground.chain }], guard := none }) rfl (fun K hK => ?_) AllReadyH.nil
            go_simp
            refine Calls.mono (put_any b1 fs.length d1 fs s1 s2 w5 hf5 (by omega)) ?_
            rintro e w6 ⟨v6, rfl, hown6, hB6⟩
            obtain ⟨b6, d6, rfl, hf6⟩ := hown6.form
            obtain ⟨z0, z1, zf0, zf1, zl⟩ := (he5.next hB6).facts
            clear hHeld
            try dsimp only
            refine hK.out _ _ trivial (fun hHeld => ?_)
            clear hK K
            try simp only [Act.put, List.setIfInBounds_toArray, List.set_cons_zero, List.set_cons_succ]
            refine wpAnyH_take (i := 10) (oi := { dst := some 27, op := Op.fieldAddr 26 (Operand.tmp 3) 0, type := 0, pos := "l3_project.go:211", after := #[{ on := 0, ground := Ground.phase }, { on := 1, ground := Ground.phase }, { on := 2, ground := Ground.phase }, { on := 3, ground := Ground.phase }, { on := 4, ground := Ground.phase }, { on := 5, ground := Ground.phase }, { on := 6, ground := Ground.phase }, { on := 7, ground := Ground.phase }, { on := 8, ground := Ground.phase }, { on := 9, ground := Ground.phase }], guard := none }) (v := ?vq11_10) rfl (by kernel_rfl) (by kernel_rfl) (by kernel_rfl) (fun _ _ _ h => h) (Or.inl ⟨by rfl, ?hyq11_10⟩) (by assumption) ?_
            case hyq11_10 =>
              intro W hSW
              try dsimp only at hSW
              go_simp
              try with_reducible rfl
            try simp only [Act.put, List.setIfInBounds_toArray, List.set_cons_zero, List.set_cons_succ]
            refine wpAnyH_ready (rs := [11]) (by kernel_rfl) (by simp) ?_
            refine AllReadyH.cons (o := { dst := none, op := Op.store 23 (Operand.tmp 27) (Operand.tmp 26), type := 0, pos := "l3_project.go:211", after := #[{ on := 10, ground := Ground.data }, { on := 9, ground := Ground.data }, { on := 9, ground := Ground.chain }, { on := 0, ground := Ground.phase }, { on := 1, ground := Ground.phase }, { on := 2, ground := Ground.phase }, { on := 3, ground := Ground.phase }, { on := 4, ground := Ground.phase }, { on := 5, ground := Ground.phase }, { on := 6, ground := Ground.phase }, { on := 7, ground := Ground.phase }, { on := 8, ground := Ground.phase }, { on := 9, ground := Ground.phase }], guard := none }) rfl (fun K hK => ?_) AllReadyH.nil
            go_simp
            clear hHeld
            try dsimp only
            refine hK.out _ _ trivial (fun hHeld => ?_)
            clear hK K
            try simp only [Act.put, List.setIfInBounds_toArray, List.set_cons_zero, List.set_cons_succ]
            refine wpAnyH_done (by kernel_rfl) ?_ _
            have hl5 := hg5.grown.size
            have hln := putF_length (s1, s2) fs
            have hsh6 := hsh.put (f := (s1, s2)) ⟨hq1, hq2⟩
            have hown7 := ownsF_set (ownsF_mono (base' := w.heap.size + 1 + 1) hown6 (by omega)) (g := w.heap.size + 1) (by omega) 0 (.slice b6 (putF (s1, s2) fs).length d6)
            have he6 := (he5.next hB6).set0 (.slice b6 (putF (s1, s2) fs).length d6)
            have hb6 := ((bxP_step hb hg5 (by omega)).next hB6).other (g' := w.heap.size + 1) (by omega) 0 (.slice b6 (putF (s1, s2) fs).length d6)
            have hst6 := ((hst.trans hg5).below hB6).setNew (g := w.heap.size + 1) (j := 0) (by omega) (.slice b6 (putF (s1, s2) fs).length d6)
            clear z0 z1 zf0 zf1 zl y0 y1 yf0 yf1 yl x0 x1 xf0 xf1 xl u0 u1 uf0 uf1 ul hf6 hown6 hst4 hst5 hg4 hg5 he5 hof5 hf5
            go_wp2_with fail
            exact ⟨⟨j, _, _, _, by go_num, hown7, he6, hb6, hsh6, by omega, hst6.more (by omega)⟩, by simp [intOf]⟩
          · go_simp
            clear hHeld
            try dsimp only
            refine hK.out _ _ trivial (fun hHeld => ?_)
            clear hK K
            try simp only [Act.put, List.setIfInBounds_toArray, List.set_cons_zero, List.set_cons_succ]
            refine wpAnyH_ready (rs := [4]) (by kernel_rfl) (by simp) ?_
            refine AllReadyH.cons (o := { dst := some 21, op := Op.call { callee := Callee.value (Operand.func 28), args := #[Operand.tmp 19, Operand.tmp 20], argTypes := #[53, 58] }, type := 9, pos := "l3_project.go:211", after := #[{ on := 2, ground := Ground.data }, { on := 3, ground := Ground.data }], guard := none }) rfl (fun K hK => ?_) AllReadyH.nil
            go_simp
            refine Calls.mono (of_any (m := 5) (Q := fun s => s.size ≤ 10) (by first | exact (hrd.drewN 1).alloc _ | exact ((hrd.drewN 1).alloc _).alloc _) (by omega) (by omega) (by omega) (by first | omega | (simp; omega)) (by first | exact strs5 (heap_alloc_new _ _) | exact strs5 (heap_two _ _ _) | exact strs5 ((Below.heap_alloc _ _ _ (by simp)).trans (heap_alloc_new _ _)))) ?_
            rintro e w4 ⟨⟨s1, rfl, hq1⟩, hst4⟩
            have hg4 : Step wr w4 B R a n c q (q + 1) (0 + 1) := (by first | exact (((Step.refl hrd).drewN 1).alloc _).trans hst4 | exact ((((Step.refl hrd).drewN 1).alloc _).alloc _).trans hst4)
            have hl4 := hg4.grown.size
            obtain ⟨y0, y1, yf0, yf1, yl⟩ := (bxP_step he hg4 (by omega)).facts
            clear hHeld
            try dsimp only
            refine hK.out _ _ trivial (fun hHeld => ?_)
            clear hK K
            try simp only [Act.put, List.setIfInBounds_toArray, List.set_cons_zero, List.set_cons_succ]
            refine wpAnyH_ready (rs := [7]) (by kernel_rfl) (by simp) ?_
            refine AllReadyH.cons (o := { dst := some 24, op := Op.call { callee := Callee.value (Operand.func 28), args := #[Operand.tmp 22, Operand.tmp 23], argTypes := #[53, 58] }, type := 9, pos := "l3_project.go:211", after := #[{ on := 5, ground := Ground.data }, { on := 6, ground := Ground.data }, { on := 4, ground := Ground.chain }], guard := none }) rfl (fun K hK => ?_) AllReadyH.nil
            go_simp
            refine Calls.mono (of_any (m := 7) (Q := fun s => s.size ≤ 10) (by first | exact hst4.rd | exact hst4.rd.alloc _) (by omega) (by omega) (by omega) (by first | omega | (simp; omega)) (by first | exact strs7 (heap_alloc_new w4 _) | (refine StrsAt.step ?_ hst4 ?_ ?_ <;> first | exact strs7 (heap_two _ _ _) | exact strs7 ((Below.heap_alloc _ _ _ (by simp)).trans (heap_alloc_new _ _)) | omega | (simp; done) | (simp; omega)))) ?_
            rintro e w5 ⟨⟨s2, rfl, hq2⟩, hst5⟩
            have hg5 : Step wr w5 B R a n c q (q + 1 + 1) (0 + 1 + 1) := (by first | exact hg4.trans hst5 | exact (hg4.alloc _).trans hst5)
            have he5 := bxP_step he hg5 (by omega)
            have hof5 := hof.step (by omega) hg5
            obtain ⟨b5, d5, hbd5, hf5⟩ := hof5.form
            cases hbd5
            obtain ⟨u0, u1, uf0, uf1, ul⟩ := he5.facts
            clear hHeld
            try dsimp only
            refine hK.out _ _ trivial (fun hHeld => ?_)
            clear hK K
            try simp only [Act.put, List.setIfInBounds_toArray, List.set_cons_zero, List.set_cons_succ]
            refine wpAnyH_take (i := 8) (oi := { dst := some 25, op := Op.build 28 #[(0, Operand.tmp 21), (1, Operand.tmp 24)], type := 28, pos := "l3_project.go:211", after := #[{ on := 4, ground := Ground.data }, { on := 7, ground := Ground.data }], guard := none }) (v := ?vq12_8) rfl (by kernel_rfl) (by kernel_rfl) (by kernel_rfl) (fun _ _ _ h => h) (Or.inl ⟨by rfl, ?hyq12_8⟩) (by assumption) ?_
            case hyq12_8 =>
              intro W hSW
              try dsimp only at hSW
              go_simp
              try with_reducible rfl
            try simp only [Act.put, List.setIfInBounds_toArray, List.set_cons_zero, List.set_cons_succ]
            refine wpAnyH_ready (rs := [9]) (by kernel_rfl) (by simp) ?_
            refine AllReadyH.cons (o := { dst := some 26, op := Op.call { callee := Callee.value (Operand.func 36), args := #[Operand.tmp 18, Operand.tmp 25], argTypes := #[23, 28] }, type := 23, pos := "l3_project.go:211", after := #[{ on := 1, ground := Ground.data }, { on := 8, ground := Ground.data }, { on := 7, ground := Ground.chain }], guard := none }) rfl (fun K hK => ?_) AllReadyH.nil
            go_simp
            refine Calls.mono (put_any b1 fs.length d1 fs s1 s2 w5 hf5 (by omega)) ?_
            rintro e w6 ⟨v6, rfl, hown6, hB6⟩
            obtain ⟨b6, d6, rfl, hf6⟩ := hown6.form
            obtain ⟨z0, z1, zf0, zf1, zl⟩ := (he5.next hB6).facts
            clear hHeld
            try dsimp only
            refine hK.out _ _ trivial (fun hHeld => ?_)
            clear hK K
            try simp only [Act.put, List.setIfInBounds_toArray, List.set_cons_zero, List.set_cons_succ]
            refine wpAnyH_take (i := 10) (oi := { dst := some 27, op := Op.fieldAddr 26 (Operand.tmp 3) 0, type := 0, pos := "l3_project.go:211", after := #[{ on := 0, ground := Ground.phase }, { on := 1, ground := Ground.phase }, { on := 2, ground := Ground.phase }, { on := 3, ground := Ground.phase }, { on := 4, ground := Ground.phase }, { on := 5, ground := Ground.phase }, { on := 6, ground := Ground.phase }, { on := 7, ground := Ground.phase }, { on := 8, ground := Ground.phase }, { on := 9, ground := Ground.phase }], guard := none }) (v := ?vq13_10) rfl (by kernel_rfl) (by kernel_rfl) (by kernel_rfl) (fun _ _ _ h => h) (Or.inl ⟨by rfl, ?hyq13_10⟩) (by assumption) ?_
            case hyq13_10 =>
              intro W hSW
              try dsimp only at hSW
              go_simp
              try with_reducible rfl
            try simp only [Act.put, List.setIfInBounds_toArray, List.set_cons_zero, List.set_cons_succ]
            refine wpAnyH_ready (rs := [11]) (by kernel_rfl) (by simp) ?_
            refine AllReadyH.cons (o := { dst := none, op := Op.store 23 (Operand.tmp 27) (Operand.tmp 26), type := 0, pos := "l3_project.go:211", after := #[{ on := 10, ground := Ground.data }, { on := 9, ground := Ground.data }, { on := 9, ground := Ground.chain }, { on := 0, ground := Ground.phase }, { on := 1, ground := Ground.phase }, { on := 2, ground := Ground.phase }, { on := 3, ground := Ground.phase }, { on := 4, ground := Ground.phase }, { on := 5, ground := Ground.phase }, { on := 6, ground := Ground.phase }, { on := 7, ground := Ground.phase }, { on := 8, ground := Ground.phase }, { on := 9, ground := Ground.phase }], guard := none }) rfl (fun K hK => ?_) AllReadyH.nil
            go_simp
            clear hHeld
            try dsimp only
            refine hK.out _ _ trivial (fun hHeld => ?_)
            clear hK K
            try simp only [Act.put, List.setIfInBounds_toArray, List.set_cons_zero, List.set_cons_succ]
            refine wpAnyH_done (by kernel_rfl) ?_ _
            have hl5 := hg5.grown.size
            have hln := putF_length (s1, s2) fs
            have hsh6 := hsh.put (f := (s1, s2)) ⟨hq1, hq2⟩
            have hown7 := ownsF_set (ownsF_mono (base' := w.heap.size + 1 + 1) hown6 (by omega)) (g := w.heap.size + 1) (by omega) 0 (.slice b6 (putF (s1, s2) fs).length d6)
            have he6 := (he5.next hB6).set0 (.slice b6 (putF (s1, s2) fs).length d6)
            have hb6 := ((bxP_step hb hg5 (by omega)).next hB6).other (g' := w.heap.size + 1) (by omega) 0 (.slice b6 (putF (s1, s2) fs).length d6)
            have hst6 := ((hst.trans hg5).below hB6).setNew (g := w.heap.size + 1) (j := 0) (by omega) (.slice b6 (putF (s1, s2) fs).length d6)
            clear z0 z1 zf0 zf1 zl y0 y1 yf0 yf1 yl x0 x1 xf0 xf1 xl u0 u1 uf0 uf1 ul hf6 hown6 hst4 hst5 hg4 hg5 he5 hof5 hf5
            go_wp2_with fail
            exact ⟨⟨j, _, _, _, by go_num, hown7, he6, hb6, hsh6, by omega, hst6.more (by omega)⟩, by simp [intOf]⟩
        · go_simp
          refine Calls.mono (of_any (m := 5) (Q := fun s => s.size ≤ 10) (by first | exact (hrd.drewN 1).alloc _ | exact ((hrd.drewN 1).alloc _).alloc _) (by omega) (by omega) (by omega) (by first | omega | (simp; omega)) (by first | exact strs5 (heap_alloc_new _ _) | exact strs5 (heap_two _ _ _) | exact strs5 ((Below.heap_alloc _ _ _ (by simp)).trans (heap_alloc_new _ _)))) ?_
          rintro e w4 ⟨⟨s1, rfl, hq1⟩, hst4⟩
          have hg4 : Step wr w4 B R a n c q (q + 1) (0 + 1) := (by first | exact (((Step.refl hrd).drewN 1).alloc _).trans hst4 | exact ((((Step.refl hrd).drewN 1).alloc _).alloc _).trans hst4)
          have hl4 := hg4.grown.size
          obtain ⟨y0, y1, yf0, yf1, yl⟩ := (bxP_step he hg4 (by omega)).facts
          clear hHeld
          try dsimp only
          refine hK.out _ _ trivial (fun hHeld => ?_)
          clear hK K
          try simp only [Act.put, List.setIfInBounds_toArray, List.set_cons_zero, List.set_cons_succ]
          refine wpAnyH_ready (rs := [1, 6]) (by kernel_rfl) (by simp) ?_
          refine AllReadyH.cons (o := { dst := some 18, op := Op.load 23 (Operand.tmp 17), type := 23, pos := "l3_project.go:211", after := #[{ on := 0, ground := Ground.data }], guard := none }) rfl (fun K hK => ?_) (AllReadyH.cons (o := { dst := some 23, op := Op.buildSlice 58 7 #[(0, Operand.const (Value.string { data := #[97] })), (1, Operand.const (Value.string { data := #[98] })), (2, Operand.const (Value.string { data := #[120] })), (3, Operand.const (Value.string { data := #[] })), (4, Operand.const (Value.string { data := #[97, 98] })), (5, Operand.const (Value.string { data := #[121] })), (6, Operand.const (Value.string { data := #[99, 32, 100] }))], type := 58, pos := "l3_project.go:211", after := #[], guard := none }) rfl (fun K hK => ?_) AllReadyH.nil)
          · go_simp
            clear hHeld
            try dsimp only
            refine hK.out _ _ trivial (fun hHeld => ?_)
            clear hK K
            try simp only [Act.put, List.setIfInBounds_toArray, List.set_cons_zero, List.set_cons_succ]
            refine wpAnyH_ready (rs := [6]) (by kernel_rfl) (by simp) ?_
            refine AllReadyH.cons (o := { dst := some 23, op := Op.buildSlice 58 7 #[(0, Operand.const (Value.string { data := #[97] })), (1, Operand.const (Value.string { data := #[98] })), (2, Operand.const (Value.string { data := #[120] })), (3, Operand.const (Value.string { data := #[] })), (4, Operand.const (Value.string { data := #[97, 98] })), (5, Operand.const (Value.string { data := #[121] })), (6, Operand.const (Value.string { data := #[99, 32, 100] }))], type := 58, pos := "l3_project.go:211", after := #[], guard := none }) rfl (fun K hK => ?_) AllReadyH.nil
            go_simp
            clear hHeld
            try dsimp only
            refine hK.out _ _ trivial (fun hHeld => ?_)
            clear hK K
            try simp only [Act.put, List.setIfInBounds_toArray, List.set_cons_zero, List.set_cons_succ]
            refine wpAnyH_ready (rs := [7]) (by kernel_rfl) (by simp) ?_
            refine AllReadyH.cons (o := { dst := some 24, op := Op.call { callee := Callee.value (Operand.func 28), args := #[Operand.tmp 22, Operand.tmp 23], argTypes := #[53, 58] }, type := 9, pos := "l3_project.go:211", after := #[{ on := 5, ground := Ground.data }, { on := 6, ground := Ground.data }, { on := 4, ground := Ground.chain }], guard := none }) rfl (fun K hK => ?_) AllReadyH.nil
            go_simp
            refine Calls.mono (of_any (m := 7) (Q := fun s => s.size ≤ 10) (by first | exact hst4.rd | exact hst4.rd.alloc _) (by omega) (by omega) (by omega) (by first | omega | (simp; omega)) (by first | exact strs7 (heap_alloc_new w4 _) | (refine StrsAt.step ?_ hst4 ?_ ?_ <;> first | exact strs7 (heap_two _ _ _) | exact strs7 ((Below.heap_alloc _ _ _ (by simp)).trans (heap_alloc_new _ _)) | omega | (simp; done) | (simp; omega)))) ?_
            rintro e w5 ⟨⟨s2, rfl, hq2⟩, hst5⟩
            have hg5 : Step wr w5 B R a n c q (q + 1 + 1) (0 + 1 + 1) := (by first | exact hg4.trans hst5 | exact (hg4.alloc _).trans hst5)
            have he5 := bxP_step he hg5 (by omega)
            have hof5 := hof.step (by omega) hg5
            obtain ⟨b5, d5, hbd5, hf5⟩ := hof5.form
            cases hbd5
            obtain ⟨u0, u1, uf0, uf1, ul⟩ := he5.facts
            clear hHeld
            try dsimp only
            refine hK.out _ _ trivial (fun hHeld => ?_)
            clear hK K
            try simp only [Act.put, List.setIfInBounds_toArray, List.set_cons_zero, List.set_cons_succ]
            refine wpAnyH_take (i := 8) (oi := { dst := some 25, op := Op.build 28 #[(0, Operand.tmp 21), (1, Operand.tmp 24)], type := 28, pos := "l3_project.go:211", after := #[{ on := 4, ground := Ground.data }, { on := 7, ground := Ground.data }], guard := none }) (v := ?vq14_8) rfl (by kernel_rfl) (by kernel_rfl) (by kernel_rfl) (fun _ _ _ h => h) (Or.inl ⟨by rfl, ?hyq14_8⟩) (by assumption) ?_
            case hyq14_8 =>
              intro W hSW
              try dsimp only at hSW
              go_simp
              try with_reducible rfl
            try simp only [Act.put, List.setIfInBounds_toArray, List.set_cons_zero, List.set_cons_succ]
            refine wpAnyH_ready (rs := [9]) (by kernel_rfl) (by simp) ?_
            refine AllReadyH.cons (o := { dst := some 26, op := Op.call { callee := Callee.value (Operand.func 36), args := #[Operand.tmp 18, Operand.tmp 25], argTypes := #[23, 28] }, type := 23, pos := "l3_project.go:211", after := #[{ on := 1, ground := Ground.data }, { on := 8, ground := Ground.data }, { on := 7, ground := Ground.chain }], guard := none }) rfl (fun K hK => ?_) AllReadyH.nil
            go_simp
            refine Calls.mono (put_any b1 fs.length d1 fs s1 s2 w5 hf5 (by omega)) ?_
            rintro e w6 ⟨v6, rfl, hown6, hB6⟩
            obtain ⟨b6, d6, rfl, hf6⟩ := hown6.form
            obtain ⟨z0, z1, zf0, zf1, zl⟩ := (he5.next hB6).facts
            clear hHeld
            try dsimp only
            refine hK.out _ _ trivial (fun hHeld => ?_)
            clear hK K
            try simp only [Act.put, List.setIfInBounds_toArray, List.set_cons_zero, List.set_cons_succ]
            refine wpAnyH_take (i := 10) (oi := { dst := some 27, op := Op.fieldAddr 26 (Operand.tmp 3) 0, type := 0, pos := "l3_project.go:211", after := #[{ on := 0, ground := Ground.phase }, { on := 1, ground := Ground.phase }, { on := 2, ground := Ground.phase }, { on := 3, ground := Ground.phase }, { on := 4, ground := Ground.phase }, { on := 5, ground := Ground.phase }, { on := 6, ground := Ground.phase }, { on := 7, ground := Ground.phase }, { on := 8, ground := Ground.phase }, { on := 9, ground := Ground.phase }], guard := none }) (v := ?vq15_10) rfl (by kernel_rfl) (by kernel_rfl) (by kernel_rfl) (fun _ _ _ h => h) (Or.inl ⟨by rfl, ?hyq15_10⟩) (by assumption) ?_
            case hyq15_10 =>
              intro W hSW
              try dsimp only at hSW
              go_simp
              try with_reducible rfl
            try simp only [Act.put, List.setIfInBounds_toArray, List.set_cons_zero, List.set_cons_succ]
            refine wpAnyH_ready (rs := [11]) (by kernel_rfl) (by simp) ?_
            refine AllReadyH.cons (o := { dst := none, op := Op.store 23 (Operand.tmp 27) (Operand.tmp 26), type := 0, pos := "l3_project.go:211", after := #[{ on := 10, ground := Ground.data }, { on := 9, ground := Ground.data }, { on := 9, ground := Ground.chain }, { on := 0, ground := Ground.phase }, { on := 1, ground := Ground.phase }, { on := 2, ground := Ground.phase }, { on := 3, ground := Ground.phase }, { on := 4, ground := Ground.phase }, { on := 5, ground := Ground.phase }, { on := 6, ground := Ground.phase }, { on := 7, ground := Ground.phase }, { on := 8, ground := Ground.phase }, { on := 9, ground := Ground.phase }], guard := none }) rfl (fun K hK => ?_) AllReadyH.nil
            go_simp
            clear hHeld
            try dsimp only
            refine hK.out _ _ trivial (fun hHeld => ?_)
            clear hK K
            try simp only [Act.put, List.setIfInBounds_toArray, List.set_cons_zero, List.set_cons_succ]
            refine wpAnyH_done (by kernel_rfl) ?_ _
            have hl5 := hg5.grown.size
            have hln := putF_length (s1, s2) fs
            have hsh6 := hsh.put (f := (s1, s2)) ⟨hq1, hq2⟩
            have hown7 := ownsF_set (ownsF_mono (base' := w.heap.size + 1 + 1) hown6 (by omega)) (g := w.heap.size + 1) (by omega) 0 (.slice b6 (putF (s1, s2) fs).length d6)
            have he6 := (he5.next hB6).set0 (.slice b6 (putF (s1, s2) fs).length d6)
            have hb6 := ((bxP_step hb hg5 (by omega)).next hB6).other (g' := w.heap.size + 1) (by omega) 0 (.slice b6 (putF (s1, s2) fs).length d6)
            have hst6 := ((hst.trans hg5).below hB6).setNew (g := w.heap.size + 1) (j := 0) (by omega) (.slice b6 (putF (s1, s2) fs).length d6)
            clear z0 z1 zf0 zf1 zl y0 y1 yf0 yf1 yl x0 x1 xf0 xf1 xl u0 u1 uf0 uf1 ul hf6 hown6 hst4 hst5 hg4 hg5 he5 hof5 hf5
            go_wp2_with fail
            exact ⟨⟨j, _, _, _, by go_num, hown7, he6, hb6, hsh6, by omega, hst6.more (by omega)⟩, by simp [intOf]⟩
          · go_simp
            clear hHeld
            try dsimp only
            refine hK.out _ _ trivial (fun hHeld => ?_)
            clear hK K
            try simp only [Act.put, List.setIfInBounds_toArray, List.set_cons_zero, List.set_cons_succ]
            refine wpAnyH_ready (rs := [1, 7]) (by kernel_rfl) (by simp) ?_
            refine AllReadyH.cons (o := { dst := some 18, op := Op.load 23 (Operand.tmp 17), type := 23, pos := "l3_project.go:211", after := #[{ on := 0, ground := Ground.data }], guard := none }) rfl (fun K hK => ?_) (AllReadyH.cons (o := { dst := some 24, op := Op.call { callee := Callee.value (Operand.func 28), args := #[Operand.tmp 22, Operand.tmp 23], argTypes := #[53, 58] }, type := 9, pos := "l3_project.go:211", after := #[{ on := 5, ground := Ground.data }, { on := 6, ground := Ground.data }, { on := 4, ground := Ground.chain }], guard := none }) rfl (fun K hK => ?_) AllReadyH.nil)
            · go_simp
              clear hHeld
              try dsimp only
              refine hK.out _ _ trivial (fun hHeld => ?_)
              clear hK K
              try simp only [Act.put, List.setIfInBounds_toArray, List.set_cons_zero, List.set_cons_succ]
              refine wpAnyH_ready (rs := [7]) (by kernel_rfl) (by simp) ?_
              refine AllReadyH.cons (o := { dst := some 24, op := Op.call { callee := Callee.value (Operand.func 28), args := #[Operand.tmp 22, Operand.tmp 23], argTypes := #[53, 58] }, type := 9, pos := "l3_project.go:211", after := #[{ on := 5, ground := Ground.data }, { on := 6, ground := Ground.data }, { on := 4, ground := Ground.chain }], guard := none }) rfl (fun K hK => ?_) AllReadyH.nil
              go_simp
              refine Calls.mono (of_any (m := 7) (Q := fun s => s.size ≤ 10) (by first | exact hst4.rd | exact hst4.rd.alloc _) (by omega) (by omega) (by omega) (by first | omega | (simp; omega)) (by first | exact strs7 (heap_alloc_new w4 _) | (refine StrsAt.step ?_ hst4 ?_ ?_ <;> first | exact strs7 (heap_two _ _ _) | exact strs7 ((Below.heap_alloc _ _ _ (by simp)).trans (heap_alloc_new _ _)) | omega | (simp; done) | (simp; omega)))) ?_
              rintro e w5 ⟨⟨s2, rfl, hq2⟩, hst5⟩
              have hg5 : Step wr w5 B R a n c q (q + 1 + 1) (0 + 1 + 1) := (by first | exact hg4.trans hst5 | exact (hg4.alloc _).trans hst5)
              have he5 := bxP_step he hg5 (by omega)
              have hof5 := hof.step (by omega) hg5
              obtain ⟨b5, d5, hbd5, hf5⟩ := hof5.form
              cases hbd5
              obtain ⟨u0, u1, uf0, uf1, ul⟩ := he5.facts
              clear hHeld
              try dsimp only
              refine hK.out _ _ trivial (fun hHeld => ?_)
              clear hK K
              try simp only [Act.put, List.setIfInBounds_toArray, List.set_cons_zero, List.set_cons_succ]
              refine wpAnyH_take (i := 8) (oi := { dst := some 25, op := Op.build 28 #[(0, Operand.tmp 21), (1, Operand.tmp 24)], type := 28, pos := "l3_project.go:211", after := #[{ on := 4, ground := Ground.data }, { on := 7, ground := Ground.data }], guard := none }) (v := ?vq16_8) rfl (by kernel_rfl) (by kernel_rfl) (by kernel_rfl) (fun _ _ _ h => h) (Or.inl ⟨by rfl, ?hyq16_8⟩) (by assumption) ?_
              case hyq16_8 =>
                intro W hSW
                try dsimp only at hSW
                go_simp
                try with_reducible rfl
              try simp only [Act.put, List.setIfInBounds_toArray, List.set_cons_zero, List.set_cons_succ]
              refine wpAnyH_ready (rs := [9]) (by kernel_rfl) (by simp) ?_
              refine AllReadyH.cons (o := { dst := some 26, op := Op.call { callee := Callee.value (Operand.func 36), args := #[Operand.tmp 18, Operand.tmp 25], argTypes := #[23, 28] }, type := 23, pos := "l3_project.go:211", after := #[{ on := 1, ground := Ground.data }, { on := 8, ground := Ground.data }, { on := 7, ground := Ground.chain }], guard := none }) rfl (fun K hK => ?_) AllReadyH.nil
              go_simp
              refine Calls.mono (put_any b1 fs.length d1 fs s1 s2 w5 hf5 (by omega)) ?_
              rintro e w6 ⟨v6, rfl, hown6, hB6⟩
              obtain ⟨b6, d6, rfl, hf6⟩ := hown6.form
              obtain ⟨z0, z1, zf0, zf1, zl⟩ := (he5.next hB6).facts
              clear hHeld
              try dsimp only
              refine hK.out _ _ trivial (fun hHeld => ?_)
              clear hK K
              try simp only [Act.put, List.setIfInBounds_toArray, List.set_cons_zero, List.set_cons_succ]
              refine wpAnyH_take (i := 10) (oi := { dst := some 27, op := Op.fieldAddr 26 (Operand.tmp 3) 0, type := 0, pos := "l3_project.go:211", after := #[{ on := 0, ground := Ground.phase }, { on := 1, ground := Ground.phase }, { on := 2, ground := Ground.phase }, { on := 3, ground := Ground.phase }, { on := 4, ground := Ground.phase }, { on := 5, ground := Ground.phase }, { on := 6, ground := Ground.phase }, { on := 7, ground := Ground.phase }, { on := 8, ground := Ground.phase }, { on := 9, ground := Ground.phase }], guard := none }) (v := ?vq17_10) rfl (by kernel_rfl) (by kernel_rfl) (by kernel_rfl) (fun _ _ _ h => h) (Or.inl ⟨by rfl, ?hyq17_10⟩) (by assumption) ?_
              case hyq17_10 =>
                intro W hSW
                try dsimp only at hSW
                go_simp
                try with_reducible rfl
              try simp only [Act.put, List.setIfInBounds_toArray, List.set_cons_zero, List.set_cons_succ]
              refine wpAnyH_ready (rs := [11]) (by kernel_rfl) (by simp) ?_
              refine AllReadyH.cons (o := { dst := none, op := Op.store 23 (Operand.tmp 27) (Operand.tmp 26), type := 0, pos := "l3_project.go:211", after := #[{ on := 10, ground := Ground.data }, { on := 9, ground := Ground.data }, { on := 9, ground := Ground.chain }, { on := 0, ground := Ground.phase }, { on := 1, ground := Ground.phase }, { on := 2, ground := Ground.phase }, { on := 3, ground := Ground.phase }, { on := 4, ground := Ground.phase }, { on := 5, ground := Ground.phase }, { on := 6, ground := Ground.phase }, { on := 7, ground := Ground.phase }, { on := 8, ground := Ground.phase }, { on := 9, ground := Ground.phase }], guard := none }) rfl (fun K hK => ?_) AllReadyH.nil
              go_simp
              clear hHeld
              try dsimp only
              refine hK.out _ _ trivial (fun hHeld => ?_)
              clear hK K
              try simp only [Act.put, List.setIfInBounds_toArray, List.set_cons_zero, List.set_cons_succ]
              refine wpAnyH_done (by kernel_rfl) ?_ _
              have hl5 := hg5.grown.size
              have hln := putF_length (s1, s2) fs
              have hsh6 := hsh.put (f := (s1, s2)) ⟨hq1, hq2⟩
              have hown7 := ownsF_set (ownsF_mono (base' := w.heap.size + 1 + 1) hown6 (by omega)) (g := w.heap.size + 1) (by omega) 0 (.slice b6 (putF (s1, s2) fs).length d6)
              have he6 := (he5.next hB6).set0 (.slice b6 (putF (s1, s2) fs).length d6)
              have hb6 := ((bxP_step hb hg5 (by omega)).next hB6).other (g' := w.heap.size + 1) (by omega) 0 (.slice b6 (putF (s1, s2) fs).length d6)
              have hst6 := ((hst.trans hg5).below hB6).setNew (g := w.heap.size + 1) (j := 0) (by omega) (.slice b6 (putF (s1, s2) fs).length d6)
              clear z0 z1 zf0 zf1 zl y0 y1 yf0 yf1 yl x0 x1 xf0 xf1 xl u0 u1 uf0 uf1 ul hf6 hown6 hst4 hst5 hg4 hg5 he5 hof5 hf5
              go_wp2_with fail
              exact ⟨⟨j, _, _, _, by go_num, hown7, he6, hb6, hsh6, by omega, hst6.more (by omega)⟩, by simp [intOf]⟩
            · go_simp
              refine Calls.mono (of_any (m := 7) (Q := fun s => s.size ≤ 10) (by first | exact hst4.rd | exact hst4.rd.alloc _) (by omega) (by omega) (by omega) (by first | omega | (simp; omega)) (by first | exact strs7 (heap_alloc_new w4 _) | (refine StrsAt.step ?_ hst4 ?_ ?_ <;> first | exact strs7 (heap_two _ _ _) | exact strs7 ((Below.heap_alloc _ _ _ (by simp)).trans (heap_alloc_new _ _)) | omega | (simp; done) | (simp; omega)))) ?_
              rintro e w5 ⟨⟨s2, rfl, hq2⟩, hst5⟩
              have hg5 : Step wr w5 B R a n c q (q + 1 + 1) (0 + 1 + 1) := (by first | exact hg4.trans hst5 | exact (hg4.alloc _).trans hst5)
              have he5 := bxP_step he hg5 (by omega)
              have hof5 := hof.step (by omega) hg5
              obtain ⟨b5, d5, hbd5, hf5⟩ := hof5.form
              cases hbd5
              obtain ⟨u0, u1, uf0, uf1, ul⟩ := he5.facts
              clear hHeld
              try dsimp only
              refine hK.out _ _ trivial (fun hHeld => ?_)
              clear hK K
              try simp only [Act.put, List.setIfInBounds_toArray, List.set_cons_zero, List.set_cons_succ]
              refine wpAnyH_take (i := 8) (oi := { dst := some 25, op := Op.build 28 #[(0, Operand.tmp 21), (1, Operand.tmp 24)], type := 28, pos := "l3_project.go:211", after := #[{ on := 4, ground := Ground.data }, { on := 7, ground := Ground.data }], guard := none }) (v := ?vq18_8) rfl (by kernel_rfl) (by kernel_rfl) (by kernel_rfl) (fun _ _ _ h => h) (Or.inl ⟨by rfl, ?hyq18_8⟩) (by assumption) ?_
              case hyq18_8 =>
                intro W hSW
                try dsimp only at hSW
                go_simp
                try with_reducible rfl
              try simp only [Act.put, List.setIfInBounds_toArray, List.set_cons_zero, List.set_cons_succ]
              refine wpAnyH_ready (rs := [1]) (by kernel_rfl) (by simp) ?_
              refine AllReadyH.cons (o := { dst := some 18, op := Op.load 23 (Operand.tmp 17), type := 23, pos := "l3_project.go:211", after := #[{ on := 0, ground := Ground.data }], guard := none }) rfl (fun K hK => ?_) AllReadyH.nil
              go_simp
              clear hHeld
              try dsimp only
              refine hK.out _ _ trivial (fun hHeld => ?_)
              clear hK K
              try simp only [Act.put, List.setIfInBounds_toArray, List.set_cons_zero, List.set_cons_succ]
              refine wpAnyH_ready (rs := [9]) (by kernel_rfl) (by simp) ?_
              refine AllReadyH.cons (o := { dst := some 26, op := Op.call { callee := Callee.value (Operand.func 36), args := #[Operand.tmp 18, Operand.tmp 25], argTypes := #[23, 28] }, type := 23, pos := "l3_project.go:211", after := #[{ on := 1, ground := Ground.data }, { on := 8, ground := Ground.data }, { on := 7, ground := Ground.chain }], guard := none }) rfl (fun K hK => ?_) AllReadyH.nil
              go_simp
              refine Calls.mono (put_any b1 fs.length d1 fs s1 s2 w5 hf5 (by omega)) ?_
              rintro e w6 ⟨v6, rfl, hown6, hB6⟩
              obtain ⟨b6, d6, rfl, hf6⟩ := hown6.form
              obtain ⟨z0, z1, zf0, zf1, zl⟩ := (he5.next hB6).facts
              clear hHeld
              try dsimp only
              refine hK.out _ _ trivial (fun hHeld => ?_)
              clear hK K
              try simp only [Act.put, List.setIfInBounds_toArray, List.set_cons_zero, List.set_cons_succ]
              refine wpAnyH_take (i := 10) (oi := { dst := some 27, op := Op.fieldAddr 26 (Operand.tmp 3) 0, type := 0, pos := "l3_project.go:211", after := #[{ on := 0, ground := Ground.phase }, { on := 1, ground := Ground.phase }, { on := 2, ground := Ground.phase }, { on := 3, ground := Ground.phase }, { on := 4, ground := Ground.phase }, { on := 5, ground := Ground.phase }, { on := 6, ground := Ground.phase }, { on := 7, ground := Ground.phase }, { on := 8, ground := Ground.phase }, { on := 9, ground := Ground.phase }], guard := none }) (v := ?vq19_10) rfl (by kernel_rfl) (by kernel_rfl) (by kernel_rfl) (fun _ _ _ h => h) (Or.inl ⟨by rfl, ?hyq19_10⟩) (by assumption) ?_
              case hyq19_10 =>
                intro W hSW
                try dsimp only at hSW
                go_simp
                try with_reducible rfl
              try simp only [Act.put, List.setIfInBounds_toArray, List.set_cons_zero, List.set_cons_succ]
              refine wpAnyH_ready (rs := [11]) (by kernel_rfl) (by simp) ?_
              refine AllReadyH.cons (o := { dst := none, op := Op.store 23 (Operand.tmp 27) (Operand.tmp 26), type := 0, pos := "l3_project.go:211", after := #[{ on := 10, ground := Ground.data }, { on := 9, ground := Ground.data }, { on := 9, ground := Ground.chain }, { on := 0, ground := Ground.phase }, { on := 1, ground := Ground.phase }, { on := 2, ground := Ground.phase }, { on := 3, ground := Ground.phase }, { on := 4, ground := Ground.phase }, { on := 5, ground := Ground.phase }, { on := 6, ground := Ground.phase }, { on := 7, ground := Ground.phase }, { on := 8, ground := Ground.phase }, { on := 9, ground := Ground.phase }], guard := none }) rfl (fun K hK => ?_) AllReadyH.nil
              go_simp
              clear hHeld
              try dsimp only
              refine hK.out _ _ trivial (fun hHeld => ?_)
              clear hK K
              try simp only [Act.put, List.setIfInBounds_toArray, List.set_cons_zero, List.set_cons_succ]
              refine wpAnyH_done (by kernel_rfl) ?_ _
              have hl5 := hg5.grown.size
              have hln := putF_length (s1, s2) fs
              have hsh6 := hsh.put (f := (s1, s2)) ⟨hq1, hq2⟩
              have hown7 := ownsF_set (ownsF_mono (base' := w.heap.size + 1 + 1) hown6 (by omega)) (g := w.heap.size + 1) (by omega) 0 (.slice b6 (putF (s1, s2) fs).length d6)
              have he6 := (he5.next hB6).set0 (.slice b6 (putF (s1, s2) fs).length d6)
              have hb6 := ((bxP_step hb hg5 (by omega)).next hB6).other (g' := w.heap.size + 1) (by omega) 0 (.slice b6 (putF (s1, s2) fs).length d6)
              have hst6 := ((hst.trans hg5).below hB6).setNew (g := w.heap.size + 1) (j := 0) (by omega) (.slice b6 (putF (s1, s2) fs).length d6)
              clear z0 z1 zf0 zf1 zl y0 y1 yf0 yf1 yl x0 x1 xf0 xf1 xl u0 u1 uf0 uf1 ul hf6 hown6 hst4 hst5 hg4 hg5 he5 hof5 hf5
              go_wp2_with fail
              exact ⟨⟨j, _, _, _, by go_num, hown7, he6, hb6, hsh6, by omega, hst6.more (by omega)⟩, by simp [intOf]⟩
        · go_simp
          clear hHeld
          try dsimp only
          refine hK.out _ _ trivial (fun hHeld => ?_)
          clear hK K
          try simp only [Act.put, List.setIfInBounds_toArray, List.set_cons_zero, List.set_cons_succ]
          refine wpAnyH_ready (rs := [1, 4]) (by kernel_rfl) (by simp) ?_
          refine AllReadyH.cons (o := { dst := some 18, op := Op.load 23 (Operand.tmp 17), type := 23, pos := "l3_project.go:211", after := #[{ on := 0, ground := Ground.data }], guard := none }) rfl (fun K hK => ?_) (AllReadyH.cons (o := { dst := some 21, op := Op.call { callee := Callee.value (Operand.func 28), args := #[Operand.tmp 19, Operand.tmp 20], argTypes := #[53, 58] }, type := 9, pos := "l3_project.go:211", after := #[{ on := 2, ground := Ground.data }, { on := 3, ground := Ground.data }], guard := none }) rfl (fun K hK => ?_) AllReadyH.nil)
          · go_simp
            clear hHeld
            try dsimp only
            refine hK.out _ _ trivial (fun hHeld => ?_)
            clear hK K
            try simp only [Act.put, List.setIfInBounds_toArray, List.set_cons_zero, List.set_cons_succ]
            refine wpAnyH_ready (rs := [4]) (by kernel_rfl) (by simp) ?_
            refine AllReadyH.cons (o := { dst := some 21, op := Op.call { callee := Callee.value (Operand.func 28), args := #[Operand.tmp 19, Operand.tmp 20], argTypes := #[53, 58] }, type := 9, pos := "l3_project.go:211", after := #[{ on := 2, ground := Ground.data }, { on := 3, ground := Ground.data }], guard := none }) rfl (fun K hK => ?_) AllReadyH.nil
            go_simp
            refine Calls.mono (of_any (m := 5) (Q := fun s => s.size ≤ 10) (by first | exact (hrd.drewN 1).alloc _ | exact ((hrd.drewN 1).alloc _).alloc _) (by omega) (by omega) (by omega) (by first | omega | (simp; omega)) (by first | exact strs5 (heap_alloc_new _ _) | exact strs5 (heap_two _ _ _) | exact strs5 ((Below.heap_alloc _ _ _ (by simp)).trans (heap_alloc_new _ _)))) ?_
            rintro e w4 ⟨⟨s1, rfl, hq1⟩, hst4⟩
            have hg4 : Step wr w4 B R a n c q (q + 1) (0 + 1) := (by first | exact (((Step.refl hrd).drewN 1).alloc _).trans hst4 | exact ((((Step.refl hrd).drewN 1).alloc _).alloc _).trans hst4)
            have hl4 := hg4.grown.size
            obtain ⟨y0, y1, yf0, yf1, yl⟩ := (bxP_step he hg4 (by omega)).facts
            clear hHeld
            try dsimp only
            refine hK.out _ _ trivial (fun hHeld => ?_)
            clear hK K
            try simp only [Act.put, List.setIfInBounds_toArray, List.set_cons_zero, List.set_cons_succ]
            refine wpAnyH_ready (rs := [7]) (by kernel_rfl) (by simp) ?_
            refine AllReadyH.cons (o := { dst := some 24, op := Op.call { callee := Callee.value (Operand.func 28), args := #[Operand.tmp 22, Operand.tmp 23], argTypes := #[53, 58] }, type := 9, pos := "l3_project.go:211", after := #[{ on := 5, ground := Ground.data }, { on := 6, ground := Ground.data }, { on := 4, ground := Ground.chain }], guard := none }) rfl (fun K hK => ?_) AllReadyH.nil
            go_simp
            refine Calls.mono (of_any (m := 7) (Q := fun s => s.size ≤ 10) (by first | exact hst4.rd | exact hst4.rd.alloc _) (by omega) (by omega) (by omega) (by first | omega | (simp; omega)) (by first | exact strs7 (heap_alloc_new w4 _) | (refine StrsAt.step ?_ hst4 ?_ ?_ <;> first | exact strs7 (heap_two _ _ _) | exact strs7 ((Below.heap_alloc _ _ _ (by simp)).trans (heap_alloc_new _ _)) | omega | (simp; done) | (simp; omega)))) ?_
            rintro e w5 ⟨⟨s2, rfl, hq2⟩, hst5⟩
            have hg5 : Step wr w5 B R a n c q (q + 1 + 1) (0 + 1 + 1) := (by first | exact hg4.trans hst5 | exact (hg4.alloc _).trans hst5)
            have he5 := bxP_step he hg5 (by omega)
            have hof5 := hof.step (by omega) hg5
            obtain ⟨b5, d5, hbd5, hf5⟩ := hof5.form
            cases hbd5
            obtain ⟨u0, u1, uf0, uf1, ul⟩ := he5.facts
            clear hHeld
            try dsimp only
            refine hK.out _ _ trivial (fun hHeld => ?_)
            clear hK K
            try simp only [Act.put, List.setIfInBounds_toArray, List.set_cons_zero, List.set_cons_succ]
            refine wpAnyH_take (i := 8) (oi := { dst := some 25, op := Op.build 28 #[(0, Operand.tmp 21), (1, Operand.tmp 24)], type := 28, pos := "l3_project.go:211", after := #[{ on := 4, ground := Ground.data }, { on := 7, ground := Ground.data }], guard := none }) (v := ?vq20_8) rfl (by kernel_rfl) (by kernel_rfl) (by kernel_rfl) (fun _ _ _ h => h) (Or.inl ⟨by rfl, ?hyq20_8⟩) (by assumption) ?_
            case hyq20_8 =>
              intro W hSW
              try dsimp only at hSW
              go_simp
              try with_reducible rfl
            try simp only [Act.put, List.setIfInBounds_toArray, List.set_cons_zero, List.set_cons_succ]
            refine wpAnyH_ready (rs := [9]) (by kernel_rfl) (by simp) ?_
            refine AllReadyH.cons (o := { dst := some 26, op := Op.call { callee := Callee.value (Operand.func 36), args := #[Operand.tmp 18, Operand.tmp 25], argTypes := #[23, 28] }, type := 23, pos := "l3_project.go:211", after := #[{ on := 1, ground := Ground.data }, { on := 8, ground := Ground.data }, { on := 7, ground := Ground.chain }], guard := none }) rfl (fun K hK => ?_) AllReadyH.nil
            go_simp
            refine Calls.mono (put_any b1 fs.length d1 fs s1 s2 w5 hf5 (by omega)) ?_
            rintro e w6 ⟨v6, rfl, hown6, hB6⟩
            obtain ⟨b6, d6, rfl, hf6⟩ := hown6.form
            obtain ⟨z0, z1, zf0, zf1, zl⟩ := (he5.next hB6).facts
            clear hHeld
            try dsimp only
            refine hK.out _ _ trivial (fun hHeld => ?_)
            clear hK K
            try simp only [Act.put, List.setIfInBounds_toArray, List.set_cons_zero, List.set_cons_succ]
            refine wpAnyH_take (i := 10) (oi := { dst := some 27, op := Op.fieldAddr 26 (Operand.tmp 3) 0, type := 0, pos := "l3_project.go:211", after := #[{ on := 0, ground := Ground.phase }, { on := 1, ground := Ground.phase }, { on := 2, ground := Ground.phase }, { on := 3, ground := Ground.phase }, { on := 4, ground := Ground.phase }, { on := 5, ground := Ground.phase }, { on := 6, ground := Ground.phase }, { on := 7, ground := Ground.phase }, { on := 8, ground := Ground.phase }, { on := 9, ground := Ground.phase }], guard := none }) (v := ?vq21_10) rfl (by kernel_rfl) (by kernel_rfl) (by kernel_rfl) (fun _ _ _ h => h) (Or.inl ⟨by rfl, ?hyq21_10⟩) (by assumption) ?_
            case hyq21_10 =>
              intro W hSW
              try dsimp only at hSW
              go_simp
              try with_reducible rfl
            try simp only [Act.put, List.setIfInBounds_toArray, List.set_cons_zero, List.set_cons_succ]
            refine wpAnyH_ready (rs := [11]) (by kernel_rfl) (by simp) ?_
            refine AllReadyH.cons (o := { dst := none, op := Op.store 23 (Operand.tmp 27) (Operand.tmp 26), type := 0, pos := "l3_project.go:211", after := #[{ on := 10, ground := Ground.data }, { on := 9, ground := Ground.data }, { on := 9, ground := Ground.chain }, { on := 0, ground := Ground.phase }, { on := 1, ground := Ground.phase }, { on := 2, ground := Ground.phase }, { on := 3, ground := Ground.phase }, { on := 4, ground := Ground.phase }, { on := 5, ground := Ground.phase }, { on := 6, ground := Ground.phase }, { on := 7, ground := Ground.phase }, { on := 8, ground := Ground.phase }, { on := 9, ground := Ground.phase }], guard := none }) rfl (fun K hK => ?_) AllReadyH.nil
            go_simp
            clear hHeld
            try dsimp only
            refine hK.out _ _ trivial (fun hHeld => ?_)
            clear hK K
            try simp only [Act.put, List.setIfInBounds_toArray, List.set_cons_zero, List.set_cons_succ]
            refine wpAnyH_done (by kernel_rfl) ?_ _
            have hl5 := hg5.grown.size
            have hln := putF_length (s1, s2) fs
            have hsh6 := hsh.put (f := (s1, s2)) ⟨hq1, hq2⟩
            have hown7 := ownsF_set (ownsF_mono (base' := w.heap.size + 1 + 1) hown6 (by omega)) (g := w.heap.size + 1) (by omega) 0 (.slice b6 (putF (s1, s2) fs).length d6)
            have he6 := (he5.next hB6).set0 (.slice b6 (putF (s1, s2) fs).length d6)
            have hb6 := ((bxP_step hb hg5 (by omega)).next hB6).other (g' := w.heap.size + 1) (by omega) 0 (.slice b6 (putF (s1, s2) fs).length d6)
            have hst6 := ((hst.trans hg5).below hB6).setNew (g := w.heap.size + 1) (j := 0) (by omega) (.slice b6 (putF (s1, s2) fs).length d6)
            clear z0 z1 zf0 zf1 zl y0 y1 yf0 yf1 yl x0 x1 xf0 xf1 xl u0 u1 uf0 uf1 ul hf6 hown6 hst4 hst5 hg4 hg5 he5 hof5 hf5
            go_wp2_with fail
            exact ⟨⟨j, _, _, _, by go_num, hown7, he6, hb6, hsh6, by omega, hst6.more (by omega)⟩, by simp [intOf]⟩
          · go_simp
            refine Calls.mono (of_any (m := 5) (Q := fun s => s.size ≤ 10) (by first | exact (hrd.drewN 1).alloc _ | exact ((hrd.drewN 1).alloc _).alloc _) (by omega) (by omega) (by omega) (by first | omega | (simp; omega)) (by first | exact strs5 (heap_alloc_new _ _) | exact strs5 (heap_two _ _ _) | exact strs5 ((Below.heap_alloc _ _ _ (by simp)).trans (heap_alloc_new _ _)))) ?_
            rintro e w4 ⟨⟨s1, rfl, hq1⟩, hst4⟩
            have hg4 : Step wr w4 B R a n c q (q + 1) (0 + 1) := (by first | exact (((Step.refl hrd).drewN 1).alloc _).trans hst4 | exact ((((Step.refl hrd).drewN 1).alloc _).alloc _).trans hst4)
            have hl4 := hg4.grown.size
            obtain ⟨y0, y1, yf0, yf1, yl⟩ := (bxP_step he hg4 (by omega)).facts
            clear hHeld
            try dsimp only
            refine hK.out _ _ trivial (fun hHeld => ?_)
            clear hK K
            try simp only [Act.put, List.setIfInBounds_toArray, List.set_cons_zero, List.set_cons_succ]
            refine wpAnyH_ready (rs := [1, 7]) (by kernel_rfl) (by simp) ?_
            refine AllReadyH.cons (o := { dst := some 18, op := Op.load 23 (Operand.tmp 17), type := 23, pos := "l3_project.go:211", after := #[{ on := 0, ground := Ground.data }], guard := none }) rfl (fun K hK => ?_) (AllReadyH.cons (o := { dst := some 24, op := Op.call { callee := Callee.value (Operand.func 28), args := #[Operand.tmp 22, Operand.tmp 23], argTypes := #[53, 58] }, type := 9, pos := "l3_project.go:211", after := #[{ on := 5, ground := Ground.data }, { on := 6, ground := Ground.data }, { on := 4, ground := Ground.chain }], guard := none }) rfl (fun K hK => ?_) AllReadyH.nil)
            · go_simp
              clear hHeld
              try dsimp only
              refine hK.out _ _ trivial (fun hHeld => ?_)
              clear hK K
              try simp only [Act.put, List.setIfInBounds_toArray, List.set_cons_zero, List.set_cons_succ]
              refine wpAnyH_ready (rs := [7]) (by kernel_rfl) (by simp) ?_
              refine AllReadyH.cons (o := { dst := some 24, op := Op.call { callee := Callee.value (Operand.func 28), args := #[Operand.tmp 22, Operand.tmp 23], argTypes := #[53, 58] }, type := 9, pos := "l3_project.go:211", after := #[{ on := 5, ground := Ground.data }, { on := 6, ground := Ground.data }, { on := 4, ground := Ground.chain }], guard := none }) rfl (fun K hK => ?_) AllReadyH.nil
              go_simp
              refine Calls.mono (of_any (m := 7) (Q := fun s => s.size ≤ 10) (by first | exact hst4.rd | exact hst4.rd.alloc _) (by omega) (by omega) (by omega) (by first | omega | (simp; omega)) (by first | exact strs7 (heap_alloc_new w4 _) | (refine StrsAt.step ?_ hst4 ?_ ?_ <;> first | exact strs7 (heap_two _ _ _) | exact strs7 ((Below.heap_alloc _ _ _ (by simp)).trans (heap_alloc_new _ _)) | omega | (simp; done) | (simp; omega)))) ?_
              rintro e w5 ⟨⟨s2, rfl, hq2⟩, hst5⟩
              have hg5 : Step wr w5 B R a n c q (q + 1 + 1) (0 + 1 + 1) := (by first | exact hg4.trans hst5 | exact (hg4.alloc _).trans hst5)
              have he5 := bxP_step he hg5 (by omega)
              have hof5 := hof.step (by omega) hg5
              obtain ⟨b5, d5, hbd5, hf5⟩ := hof5.form
              cases hbd5
              obtain ⟨u0, u1, uf0, uf1, ul⟩ := he5.facts
              clear hHeld
              try dsimp only
              refine hK.out _ _ trivial (fun hHeld => ?_)
              clear hK K
              try simp only [Act.put, List.setIfInBounds_toArray, List.set_cons_zero, List.set_cons_succ]
              refine wpAnyH_take (i := 8) (oi := { dst := some 25, op := Op.build 28 #[(0, Operand.tmp 21), (1, Operand.tmp 24)], type := 28, pos := "l3_project.go:211", after := #[{ on := 4, ground := Ground.data }, { on := 7, ground := Ground.data }], guard := none }) (v := ?vq22_8) rfl (by kernel_rfl) (by kernel_rfl) (by kernel_rfl) (fun _ _ _ h => h) (Or.inl ⟨by rfl, ?hyq22_8⟩) (by assumption) ?_
              case hyq22_8 =>
                intro W hSW
                try dsimp only at hSW
                go_simp
                try with_reducible rfl
              try simp only [Act.put, List.setIfInBounds_toArray, List.set_cons_zero, List.set_cons_succ]
              refine wpAnyH_ready (rs := [9]) (by kernel_rfl) (by simp) ?_
              refine AllReadyH.cons (o := { dst := some 26, op := Op.call { callee := Callee.value (Operand.func 36), args := #[Operand.tmp 18, Operand.tmp 25], argTypes := #[23, 28] }, type := 23, pos := "l3_project.go:211", after := #[{ on := 1, ground := Ground.data }, { on := 8, ground := Ground.data }, { on := 7, ground := Ground.chain }], guard := none }) rfl (fun K hK => ?_) AllReadyH.nil
              go_simp
              refine Calls.mono (put_any b1 fs.length d1 fs s1 s2 w5 hf5 (by omega)) ?_
              rintro e w6 ⟨v6, rfl, hown6, hB6⟩
              obtain ⟨b6, d6, rfl, hf6⟩ := hown6.form
              obtain ⟨z0, z1, zf0, zf1, zl⟩ := (he5.next hB6).facts
              clear hHeld
              try dsimp only
              refine hK.out _ _ trivial (fun hHeld => ?_)
              clear hK K
              try simp only [Act.put, List.setIfInBounds_toArray, List.set_cons_zero, List.set_cons_succ]
              refine wpAnyH_take (i := 10) (oi := { dst := some 27, op := Op.fieldAddr 26 (Operand.tmp 3) 0, type := 0, pos := "l3_project.go:211", after := #[{ on := 0, ground := Ground.phase }, { on := 1, ground := Ground.phase }, { on := 2, ground := Ground.phase }, { on := 3, ground := Ground.phase }, { on := 4, ground := Ground.phase }, { on := 5, ground := Ground.phase }, { on := 6, ground := Ground.phase }, { on := 7, ground := Ground.phase }, { on := 8, ground := Ground.phase }, { on := 9, ground := Ground.phase }], guard := none }) (v := ?vq23_10) rfl (by kernel_rfl) (by kernel_rfl) (by kernel_rfl) (fun _ _ _ h => h) (Or.inl ⟨by rfl, ?hyq23_10⟩) (by assumption) ?_
              case hyq23_10 =>
                intro W hSW
                try dsimp only at hSW
                go_simp
                try with_reducible rfl
              try simp only [Act.put, List.setIfInBounds_toArray, List.set_cons_zero, List.set_cons_succ]
              refine wpAnyH_ready (rs := [11]) (by kernel_rfl) (by simp) ?_
              refine AllReadyH.cons (o := { dst := none, op := Op.store 23 (Operand.tmp 27) (Operand.tmp 26), type := 0, pos := "l3_project.go:211", after := #[{ on := 10, ground := Ground.data }, { on := 9, ground := Ground.data }, { on := 9, ground := Ground.chain }, { on := 0, ground := Ground.phase }, { on := 1, ground := Ground.phase }, { on := 2, ground := Ground.phase }, { on := 3, ground := Ground.phase }, { on := 4, ground := Ground.phase }, { on := 5, ground := Ground.phase }, { on := 6, ground := Ground.phase }, { on := 7, ground := Ground.phase }, { on := 8, ground := Ground.phase }, { on := 9, ground := Ground.phase }], guard := none }) rfl (fun K hK => ?_) AllReadyH.nil
              go_simp
              clear hHeld
              try dsimp only
              refine hK.out _ _ trivial (fun hHeld => ?_)
              clear hK K
              try simp only [Act.put, List.setIfInBounds_toArray, List.set_cons_zero, List.set_cons_succ]
              refine wpAnyH_done (by kernel_rfl) ?_ _
              have hl5 := hg5.grown.size
              have hln := putF_length (s1, s2) fs
              have hsh6 := hsh.put (f := (s1, s2)) ⟨hq1, hq2⟩
              have hown7 := ownsF_set (ownsF_mono (base' := w.heap.size + 1 + 1) hown6 (by omega)) (g := w.heap.size + 1) (by omega) 0 (.slice b6 (putF (s1, s2) fs).length d6)
              have he6 := (he5.next hB6).set0 (.slice b6 (putF (s1, s2) fs).length d6)
              have hb6 := ((bxP_step hb hg5 (by omega)).next hB6).other (g' := w.heap.size + 1) (by omega) 0 (.slice b6 (putF (s1, s2) fs).length d6)
              have hst6 := ((hst.trans hg5).below hB6).setNew (g := w.heap.size + 1) (j := 0) (by omega) (.slice b6 (putF (s1, s2) fs).length d6)
              clear z0 z1 zf0 zf1 zl y0 y1 yf0 yf1 yl x0 x1 xf0 xf1 xl u0 u1 uf0 uf1 ul hf6 hown6 hst4 hst5 hg4 hg5 he5 hof5 hf5
              go_wp2_with fail
              exact ⟨⟨j, _, _, _, by go_num, hown7, he6, hb6, hsh6, by omega, hst6.more (by omega)⟩, by simp [intOf]⟩
            · go_simp
              refine Calls.mono (of_any (m := 7) (Q := fun s => s.size ≤ 10) (by first | exact hst4.rd | exact hst4.rd.alloc _) (by omega) (by omega) (by omega) (by first | omega | (simp; omega)) (by first | exact strs7 (heap_alloc_new w4 _) | (refine StrsAt.step ?_ hst4 ?_ ?_ <;> first | exact strs7 (heap_two _ _ _) | exact strs7 ((Below.heap_alloc _ _ _ (by simp)).trans (heap_alloc_new _ _)) | omega | (simp; done) | (simp; omega)))) ?_
              rintro e w5 ⟨⟨s2, rfl, hq2⟩, hst5⟩
              have hg5 : Step wr w5 B R a n c q (q + 1 + 1) (0 + 1 + 1) := (by first | exact hg4.trans hst5 | exact (hg4.alloc _).trans hst5)
              have he5 := bxP_step he hg5 (by omega)
              have hof5 := hof.step (by omega) hg5
              obtain ⟨b5, d5, hbd5, hf5⟩ := hof5.form
              cases hbd5
              obtain ⟨u0, u1, uf0, uf1, ul⟩ := he5.facts
              clear hHeld
              try dsimp only
              refine hK.out _ _ trivial (fun hHeld => ?_)
              clear hK K
              try simp only [Act.put, List.setIfInBounds_toArray, List.set_cons_zero, List.set_cons_succ]
              refine wpAnyH_take (i := 8) (oi := { dst := some 25, op := Op.build 28 #[(0, Operand.tmp 21), (1, Operand.tmp 24)], type := 28, pos := "l3_project.go:211", after := #[{ on := 4, ground := Ground.data }, { on := 7, ground := Ground.data }], guard := none }) (v := ?vq24_8) rfl (by kernel_rfl) (by kernel_rfl) (by kernel_rfl) (fun _ _ _ h => h) (Or.inl ⟨by rfl, ?hyq24_8⟩) (by assumption) ?_
              case hyq24_8 =>
                intro W hSW
                try dsimp only at hSW
                go_simp
                try with_reducible rfl
              try simp only [Act.put, List.setIfInBounds_toArray, List.set_cons_zero, List.set_cons_succ]
              refine wpAnyH_ready (rs := [1]) (by kernel_rfl) (by simp) ?_
              refine AllReadyH.cons (o := { dst := some 18, op := Op.load 23 (Operand.tmp 17), type := 23, pos := "l3_project.go:211", after := #[{ on := 0, ground := Ground.data }], guard := none }) rfl (fun K hK => ?_) AllReadyH.nil
              go_simp
              clear hHeld
              try dsimp only
              refine hK.out _ _ trivial (fun hHeld => ?_)
              clear hK K
              try simp only [Act.put, List.setIfInBounds_toArray, List.set_cons_zero, List.set_cons_succ]
              refine wpAnyH_ready (rs := [9]) (by kernel_rfl) (by simp) ?_
              refine AllReadyH.cons (o := { dst := some 26, op := Op.call { callee := Callee.value (Operand.func 36), args := #[Operand.tmp 18, Operand.tmp 25], argTypes := #[23, 28] }, type := 23, pos := "l3_project.go:211", after := #[{ on := 1, ground := Ground.data }, { on := 8, ground := Ground.data }, { on := 7, ground := Ground.chain }], guard := none }) rfl (fun K hK => ?_) AllReadyH.nil
              go_simp
              refine Calls.mono (put_any b1 fs.length d1 fs s1 s2 w5 hf5 (by omega)) ?_
              rintro e w6 ⟨v6, rfl, hown6, hB6⟩
              obtain ⟨b6, d6, rfl, hf6⟩ := hown6.form
              obtain ⟨z0, z1, zf0, zf1, zl⟩ := (he5.next hB6).facts
              clear hHeld
              try dsimp only
              refine hK.out _ _ trivial (fun hHeld => ?_)
              clear hK K
              try simp only [Act.put, List.setIfInBounds_toArray, List.set_cons_zero, List.set_cons_succ]
              refine wpAnyH_take (i := 10) (oi := { dst := some 27, op := Op.fieldAddr 26 (Operand.tmp 3) 0, type := 0, pos := "l3_project.go:211", after := #[{ on := 0, ground := Ground.phase }, { on := 1, ground := Ground.phase }, { on := 2, ground := Ground.phase }, { on := 3, ground := Ground.phase }, { on := 4, ground := Ground.phase }, { on := 5, ground := Ground.phase }, { on := 6, ground := Ground.phase }, { on := 7, ground := Ground.phase }, { on := 8, ground := Ground.phase }, { on := 9, ground := Ground.phase }], guard := none }) (v := ?vq25_10) rfl (by kernel_rfl) (by kernel_rfl) (by kernel_rfl) (fun _ _ _ h => h) (Or.inl ⟨by rfl, ?hyq25_10⟩) (by assumption) ?_
              case hyq25_10 =>
                intro W hSW
                try dsimp only at hSW
                go_simp
                try with_reducible rfl
              try simp only [Act.put, List.setIfInBounds_toArray, List.set_cons_zero, List.set_cons_succ]
              refine wpAnyH_ready (rs := [11]) (by kernel_rfl) (by simp) ?_
              refine AllReadyH.cons (o := { dst := none, op := Op.store 23 (Operand.tmp 27) (Operand.tmp 26), type := 0, pos := "l3_project.go:211", after := #[{ on := 10, ground := Ground.data }, { on := 9, ground := Ground.data }, { on := 9, ground := Ground.chain }, { on := 0, ground := Ground.phase }, { on := 1, ground := Ground.phase }, { on := 2, ground := Ground.phase }, { on := 3, ground := Ground.phase }, { on := 4, ground := Ground.phase }, { on := 5, ground := Ground.phase }, { on := 6, ground := Ground.phase }, { on := 7, ground := Ground.phase }, { on := 8, ground := Ground.phase }, { on := 9, ground := Ground.phase }], guard := none }) rfl (fun K hK => ?_) AllReadyH.nil
              go_simp
              clear hHeld
              try dsimp only
              refine hK.out _ _ trivial (fun hHeld => ?_)
              clear hK K
              try simp only [Act.put, List.setIfInBounds_toArray, List.set_cons_zero, List.set_cons_succ]
              refine wpAnyH_done (by kernel_rfl) ?_ _
              have hl5 := hg5.grown.size
              have hln := putF_length (s1, s2) fs
              have hsh6 := hsh.put (f := (s1, s2)) ⟨hq1, hq2⟩
              have hown7 := ownsF_set (ownsF_mono (base' := w.heap.size + 1 + 1) hown6 (by omega)) (g := w.heap.size + 1) (by omega) 0 (.slice b6 (putF (s1, s2) fs).length d6)
              have he6 := (he5.next hB6).set0 (.slice b6 (putF (s1, s2) fs).length d6)
              have hb6 := ((bxP_step hb hg5 (by omega)).next hB6).other (g' := w.heap.size + 1) (by omega) 0 (.slice b6 (putF (s1, s2) fs).length d6)
              have hst6 := ((hst.trans hg5).below hB6).setNew (g := w.heap.size + 1) (j := 0) (by omega) (.slice b6 (putF (s1, s2) fs).length d6)
              clear z0 z1 zf0 zf1 zl y0 y1 yf0 yf1 yl x0 x1 xf0 xf1 xl u0 u1 uf0 uf1 ul hf6 hown6 hst4 hst5 hg4 hg5 he5 hof5 hf5
              go_wp2_with fail
              exact ⟨⟨j, _, _, _, by go_num, hown7, he6, hb6, hsh6, by omega, hst6.more (by omega)⟩, by simp [intOf]⟩
      · go_simp
        clear hHeld
        try dsimp only
        refine hK.out _ _ trivial (fun hHeld => ?_)
        clear hK K
        try simp only [Act.put, List.setIfInBounds_toArray, List.set_cons_zero, List.set_cons_succ]
        refine wpAnyH_ready (rs := [1, 3]) (by kernel_rfl) (by simp) ?_
        refine AllReadyH.cons (o := { dst := some 18, op := Op.load 23 (Operand.tmp 17), type := 23, pos := "l3_project.go:211", after := #[{ on := 0, ground := Ground.data }], guard := none }) rfl (fun K hK => ?_) (AllReadyH.cons (o := { dst := some 20, op := Op.buildSlice 58 5 #[(0, Operand.const (Value.string { data := #[97] })), (1, Operand.const (Value.string { data := #[98] })), (2, Operand.const (Value.string { data := #[99] })), (3, Operand.const (Value.string { data := #[97, 98] })), (4, Operand.const (Value.string { data := #[97] }))], type := 58, pos := "l3_project.go:211", after := #[], guard := none }) rfl (fun K hK => ?_) AllReadyH.nil)
        · go_simp
          clear hHeld
          try dsimp only
          refine hK.out _ _ trivial (fun hHeld => ?_)
          clear hK K
          try simp only [Act.put, List.setIfInBounds_toArray, List.set_cons_zero, List.set_cons_succ]
          refine wpAnyH_ready (rs := [3]) (by kernel_rfl) (by simp) ?_
          refine AllReadyH.cons (o := { dst := some 20, op := Op.buildSlice 58 5 #[(0, Operand.const (Value.string { data := #[97] })), (1, Operand.const (Value.string { data := #[98] })), (2, Operand.const (Value.string { data := #[99] })), (3, Operand.const (Value.string { data := #[97, 98] })), (4, Operand.const (Value.string { data := #[97] }))], type := 58, pos := "l3_project.go:211", after := #[], guard := none }) rfl (fun K hK => ?_) AllReadyH.nil
          go_simp
          clear hHeld
          try dsimp only
          refine hK.out _ _ trivial (fun hHeld => ?_)
          clear hK K
          try simp only [Act.put, List.setIfInBounds_toArray, List.set_cons_zero, List.set_cons_succ]
          refine wpAnyH_ready (rs := [4]) (by kernel_rfl) (by simp) ?_
          refine AllReadyH.cons (o := { dst := some 21, op := Op.call { callee := Callee.value (Operand.func 28), args := #[Operand.tmp 19, Operand.tmp 20], argTypes := #[53, 58] }, type := 9, pos := "l3_project.go:211", after := #[{ on := 2, ground := Ground.data }, { on := 3, ground := Ground.data }], guard := none }) rfl (fun K hK => ?_) AllReadyH.nil
          go_simp
          refine Calls.mono (of_any (m := 5) (Q := fun s => s.size ≤ 10) (by first | exact (hrd.drewN 1).alloc _ | exact ((hrd.drewN 1).alloc _).alloc _) (by omega) (by omega) (by omega) (by first | omega | (simp; omega)) (by first | exact strs5 (heap_alloc_new _ _) | exact strs5 (heap_two _ _ _) | exact strs5 ((Below.heap_alloc _ _ _ (by simp)).trans (heap_alloc_new _ _)))) ?_
          rintro e w4 ⟨⟨s1, rfl, hq1⟩, hst4⟩
          have hg4 : Step wr w4 B R a n c q (q + 1) (0 + 1) := (by first | exact (((Step.refl hrd).drewN 1).alloc _).trans hst4 | exact ((((Step.refl hrd).drewN 1).alloc _).alloc _).trans hst4)
          have hl4 := hg4.grown.size
          obtain ⟨y0, y1, yf0, yf1, yl⟩ := (bxP_step he hg4 (by omega)).facts
          clear hHeld
          try dsimp only
          refine hK.out _ _ trivial (fun hHeld => ?_)
          clear hK K
          try simp only [Act.put, List.setIfInBounds_toArray, List.set_cons_zero, List.set_cons_succ]
          refine wpAnyH_ready (rs := [7]) (by kernel_rfl) (by simp) ?_
          refine AllReadyH.cons (o := { dst := some 24, op := Op.call { callee := Callee.value (Operand.func 28), args := #[Operand.tmp 22, Operand.tmp 23], argTypes := #[53, 58] }, type := 9, pos := "l3_project.go:211", after := #[{ on := 5, ground := Ground.data }, { on := 6, ground := Ground.data }, { on := 4, ground := Ground.chain }], guard := none }) rfl (fun K hK => ?_) AllReadyH.nil
          go_simp
          refine Calls.mono (of_any (m := 7) (Q := fun s => s.size ≤ 10) (by first | exact hst4.rd | exact hst4.rd.alloc _) (by omega) (by omega) (by omega) (by first | omega | (simp; omega)) (by first | exact strs7 (heap_alloc_new w4 _) | (refine StrsAt.step ?_ hst4 ?_ ?_ <;> first | exact strs7 (heap_two _ _ _) | exact strs7 ((Below.heap_alloc _ _ _ (by simp)).trans (heap_alloc_new _ _)) | omega | (simp; done) | (simp; omega)))) ?_
          rintro e w5 ⟨⟨s2, rfl, hq2⟩, hst5⟩
          have hg5 : Step wr w5 B R a n c q (q + 1 + 1) (0 + 1 + 1) := (by first | exact hg4.trans hst5 | exact (hg4.alloc _).trans hst5)
          have he5 := bxP_step he hg5 (by omega)
          have hof5 := hof.step (by omega) hg5
          obtain ⟨b5, d5, hbd5, hf5⟩ := hof5.form
          cases hbd5
          obtain ⟨u0, u1, uf0, uf1, ul⟩ := he5.facts
          clear hHeld
          try dsimp only
          refine hK.out _ _ trivial (fun hHeld => ?_)
          clear hK K
          try simp only [Act.put, List.setIfInBounds_toArray, List.set_cons_zero, List.set_cons_succ]
          refine wpAnyH_take (i := 8) (oi := { dst := some 25, op := Op.build 28 #[(0, Operand.tmp 21), (1, Operand.tmp 24)], type := 28, pos := "l3_project.go:211", after := #[{ on := 4, ground := Ground.data }, { on := 7, ground := Ground.data }], guard := none }) (v := ?vq26_8) rfl (by kernel_rfl) (by kernel_rfl) (by kernel_rfl) (fun _ _ _ h => h) (Or.inl ⟨by rfl, ?hyq26_8⟩) (by assumption) ?_
          case hyq26_8 =>
            intro W hSW
            try dsimp only at hSW
            go_simp
            try with_reducible rfl
          try simp only [Act.put, List.setIfInBounds_toArray, List.set_cons_zero, List.set_cons_succ]
          refine wpAnyH_ready (rs := [9]) (by kernel_rfl) (by simp) ?_
          refine AllReadyH.cons (o := { dst := some 26, op := Op.call { callee := Callee.value (Operand.func 36), args := #[Operand.tmp 18, Operand.tmp 25], argTypes := #[23, 28] }, type := 23, pos := "l3_project.go:211", after := #[{ on := 1, ground := Ground.data }, { on := 8, ground := Ground.data }, { on := 7, ground := Ground.chain }], guard := none }) rfl (fun K hK => ?_) AllReadyH.nil
          go_simp
          refine Calls.mono (put_any b1 fs.length d1 fs s1 s2 w5 hf5 (by omega)) ?_
          rintro e w6 ⟨v6, rfl, hown6, hB6⟩
          obtain ⟨b6, d6, rfl, hf6⟩ := hown6.form
          obtain ⟨z0, z1, zf0, zf1, zl⟩ := (he5.next hB6).facts
          clear hHeld
          try dsimp only
          refine hK.out _ _ trivial (fun hHeld => ?_)
          clear hK K
          try simp only [Act.put, List.setIfInBounds_toArray, List.set_cons_zero, List.set_cons_succ]
          refine wpAnyH_take (i := 10) (oi := { dst := some 27, op := Op.fieldAddr 26 (Operand.tmp 3) 0, type := 0, pos := "l3_project.go:211", after := #[{ on := 0, ground := Ground.phase }, { on := 1, ground := Ground.phase }, { on := 2, ground := Ground.phase }, { on := 3, ground := Ground.phase }, { on := 4, ground := Ground.phase }, { on := 5, ground := Ground.phase }, { on := 6, ground := Ground.phase }, { on := 7, ground := Ground.phase }, { on := 8, ground := Ground.phase }, { on := 9, ground := Ground.phase }], guard := none }) (v := ?vq27_10) rfl (by kernel_rfl) (by kernel_rfl) (by kernel_rfl) (fun _ _ _ h => h) (Or.inl ⟨by rfl, ?hyq27_10⟩) (by assumption) ?_
          case hyq27_10 =>
            intro W hSW
            try dsimp only at hSW
            go_simp
            try with_reducible rfl
          try simp only [Act.put, List.setIfInBounds_toArray, List.set_cons_zero, List.set_cons_succ]
          refine wpAnyH_ready (rs := [11]) (by kernel_rfl) (by simp) ?_
          refine AllReadyH.cons (o := { dst := none, op := Op.store 23 (Operand.tmp 27) (Operand.tmp 26), type := 0, pos := "l3_project.go:211", after := #[{ on := 10, ground := Ground.data }, { on := 9, ground := Ground.data }, { on := 9, ground := Ground.chain }, { on := 0, ground := Ground.phase }, { on := 1, ground := Ground.phase }, { on := 2, ground := Ground.phase }, { on := 3, ground := Ground.phase }, { on := 4, ground := Ground.phase }, { on := 5, ground := Ground.phase }, { on := 6, ground := Ground.phase }, { on := 7, ground := Ground.phase }, { on := 8, ground := Ground.phase }, { on := 9, ground := Ground.phase }], guard := none }) rfl (fun K hK => ?_) AllReadyH.nil
          go_simp
          clear hHeld
          try dsimp only
          refine hK.out _ _ trivial (fun hHeld => ?_)
          clear hK K
          try simp only [Act.put, List.setIfInBounds_toArray, List.set_cons_zero, List.set_cons_succ]
          refine wpAnyH_done (by kernel_rfl) ?_ _
          have hl5 := hg5.grown.size
          have hln := putF_length (s1, s2) fs
          have hsh6 := hsh.put (f := (s1, s2)) ⟨hq1, hq2⟩
          have hown7 := ownsF_set (ownsF_mono (base' := w.heap.size + 1 + 1) hown6 (by omega)) (g := w.heap.size + 1) (by omega) 0 (.slice b6 (putF (s1, s2) fs).length d6)
          have he6 := (he5.next hB6).set0 (.slice b6 (putF (s1, s2) fs).length d6)
          have hb6 := ((bxP_step hb hg5 (by omega)).next hB6).other (g' := w.heap.size + 1) (by omega) 0 (.slice b6 (putF (s1, s2) fs).length d6)
          have hst6 := ((hst.trans hg5).below hB6).setNew (g := w.heap.size + 1) (j := 0) (by omega) (.slice b6 (putF (s1, s2) fs).length d6)
          clear z0 z1 zf0 zf1 zl y0 y1 yf0 yf1 yl x0 x1 xf0 xf1 xl u0 u1 uf0 uf1 ul hf6 hown6 hst4 hst5 hg4 hg5 he5 hof5 hf5
          go_wp2_with fail
          exact ⟨⟨j, _, _, _, by go_num, hown7, he6, hb6, hsh6, by omega, hst6.more (by omega)⟩, by simp [intOf]⟩
        · go_simp
          clear hHeld
          try dsimp only
          refine hK.out _ _ trivial (fun hHeld => ?_)
          clear hK K
          try simp only [Act.put, List.setIfInBounds_toArray, List.set_cons_zero, List.set_cons_succ]
          refine wpAnyH_ready (rs := [1, 4]) (by kernel_rfl) (by simp) ?_
          refine AllReadyH.cons (o := { dst := some 18, op := Op.load 23 (Operand.tmp 17), type := 23, pos := "l3_project.go:211", after := #[{ on := 0, ground := Ground.data }], guard := none }) rfl (fun K hK => ?_) (AllReadyH.cons (o := { dst := some 21, op := Op.call { callee := Callee.value (Operand.func 28), args := #[Operand.tmp 19, Operand.tmp 20], argTypes := #[53, 58] }, type := 9, pos := "l3_project.go:211", after := #[{ on := 2, ground := Ground.data }, { on := 3, ground := Ground.data }], guard := none }) rfl (fun K hK => ?_) AllReadyH.nil)
          · go_simp
            clear hHeld
            try dsimp only
            refine hK.out _ _ trivial (fun hHeld => ?_)
            clear hK K
            try simp only [Act.put, List.setIfInBounds_toArray, List.set_cons_zero, List.set_cons_succ]
            refine wpAnyH_ready (rs := [4]) (by kernel_rfl) (by simp) ?_
            refine AllReadyH.cons (o := { dst := some 21, op := Op.call { callee := Callee.value (Operand.func 28), args := #[Operand.tmp 19, Operand.tmp 20], argTypes := #[53, 58] }, type := 9, pos := "l3_project.go:211", after := #[{ on := 2, ground := Ground.data }, { on := 3, ground := Ground.data }], guard := none }) rfl (fun K hK => ?_) AllReadyH.nil
            go_simp
            refine Calls.mono (of_any (m := 5) (Q := fun s => s.size ≤ 10) (by first | exact (hrd.drewN 1).alloc _ | exact ((hrd.drewN 1).alloc _).alloc _) (by omega) (by omega) (by omega) (by first | omega | (simp; omega)) (by first | exact strs5 (heap_alloc_new _ _) | exact strs5 (heap_two _ _ _) | exact strs5 ((Below.heap_alloc _ _ _ (by simp)).trans (heap_alloc_new _ _)))) ?_
            rintro e w4 ⟨⟨s1, rfl, hq1⟩, hst4⟩
            have hg4 : Step wr w4 B R a n c q (q + 1) (0 + 1) := (by first | exact (((Step.refl hrd).drewN 1).alloc _).trans hst4 | exact ((((Step.refl hrd).drewN 1).alloc _).alloc _).trans hst4)
            have hl4 := hg4.grown.size
            obtain ⟨y0, y1, yf0, yf1, yl⟩ := (bxP_step he hg4 (by omega)).facts
            clear hHeld
            try dsimp only
            refine hK.out _ _ trivial (fun hHeld => ?_)
            clear hK K
            try simp only [Act.put, List.setIfInBounds_toArray, List.set_cons_zero, List.set_cons_succ]
            refine wpAnyH_ready (rs := [7]) (by kernel_rfl) (by simp) ?_
            refine AllReadyH.cons (o := { dst := some 24, op := Op.call { callee := Callee.value (Operand.func 28), args := #[Operand.tmp 22, Operand.tmp 23], argTypes := #[53, 58] }, type := 9, pos := "l3_project.go:211", after := #[{ on := 5, ground := Ground.data }, { on := 6, ground := Ground.data }, { on := 4, ground := Ground.chain }], guard := none }) rfl (fun K hK => ?_) AllReadyH.nil
            go_simp
            refine Calls.mono (of_any (m := 7) (Q := fun s => s.size ≤ 10) (by first | exact hst4.rd | exact hst4.rd.alloc _) (by omega) (by omega) (by omega) (by first | omega | (simp; omega)) (by first | exact strs7 (heap_alloc_new w4 _) | (refine StrsAt.step ?_ hst4 ?_ ?_ <;> first | exact strs7 (heap_two _ _ _) | exact strs7 ((Below.heap_alloc _ _ _ (by simp)).trans (heap_alloc_new _ _)) | omega | (simp; done) | (simp; omega)))) ?_
            rintro e w5 ⟨⟨s2, rfl, hq2⟩, hst5⟩
            have hg5 : Step wr w5 B R a n c q (q + 1 + 1) (0 + 1 + 1) := (by first | exact hg4.trans hst5 | exact (hg4.alloc _).trans hst5)
            have he5 := bxP_step he hg5 (by omega)
            have hof5 := hof.step (by omega) hg5
            obtain ⟨b5, d5, hbd5, hf5⟩ := hof5.form
            cases hbd5
            obtain ⟨u0, u1, uf0, uf1, ul⟩ := he5.facts
            clear hHeld
            try dsimp only
            refine hK.out _ _ trivial (fun hHeld => ?_)
            clear hK K
            try simp only [Act.put, List.setIfInBounds_toArray, List.set_cons_zero, List.set_cons_succ]
            refine wpAnyH_take (i := 8) (oi := { dst := some 25, op := Op.build 28 #[(0, Operand.tmp 21), (1, Operand.tmp 24)], type := 28, pos := "l3_project.go:211", after := #[{ on := 4, ground := Ground.data }, { on := 7, ground := Ground.data }], guard := none }) (v := ?vq28_8) rfl (by kernel_rfl) (by kernel_rfl) (by kernel_rfl) (fun _ _ _ h => h) (Or.inl ⟨by rfl, ?hyq28_8⟩) (by assumption) ?_
            case hyq28_8 =>
              intro W hSW
              try dsimp only at hSW
              go_simp
              try with_reducible rfl
            try simp only [Act.put, List.setIfInBounds_toArray, List.set_cons_zero, List.set_cons_succ]
            refine wpAnyH_ready (rs := [9]) (by kernel_rfl) (by simp) ?_
            refine AllReadyH.cons (o := { dst := some 26, op := Op.call { callee := Callee.value (Operand.func 36), args := #[Operand.tmp 18, Operand.tmp 25], argTypes := #[23, 28] }, type := 23, pos := "l3_project.go:211", after := #[{ on := 1, ground := Ground.data }, { on := 8, ground := Ground.data }, { on := 7, ground := Ground.chain }], guard := none }) rfl (fun K hK => ?_) AllReadyH.nil
            go_simp
            refine Calls.mono (put_any b1 fs.length d1 fs s1 s2 w5 hf5 (by omega)) ?_
            rintro e w6 ⟨v6, rfl, hown6, hB6⟩
            obtain ⟨b6, d6, rfl, hf6⟩ := hown6.form
            obtain ⟨z0, z1, zf0, zf1, zl⟩ := (he5.next hB6).facts
            clear hHeld
            try dsimp only
            refine hK.out _ _ trivial (fun hHeld => ?_)
            clear hK K
            try simp only [Act.put, List.setIfInBounds_toArray, List.set_cons_zero, List.set_cons_succ]
            refine wpAnyH_take (i := 10) (oi := { dst := some 27, op := Op.fieldAddr 26 (Operand.tmp 3) 0, type := 0, pos := "l3_project.go:211", after := #[{ on := 0, ground := Ground.phase }, { on := 1, ground := Ground.phase }, { on := 2, ground := Ground.phase }, { on := 3, ground := Ground.phase }, { on := 4, ground := Ground.phase }, { on := 5, ground := Ground.phase }, { on := 6, ground := Ground.phase }, { on := 7, ground := Ground.phase }, { on := 8, ground := Ground.phase }, { on := 9, ground := Ground.phase }], guard := none }) (v := ?vq29_10) rfl (by kernel_rfl) (by kernel_rfl) (by kernel_rfl) (fun _ _ _ h => h) (Or.inl ⟨by rfl, ?hyq29_10⟩) (by assumption) ?_
            case hyq29_10 =>
              intro W hSW
              try dsimp only at hSW
              go_simp
              try with_reducible rfl
            try simp only [Act.put, List.setIfInBounds_toArray, List.set_cons_zero, List.set_cons_succ]
            refine wpAnyH_ready (rs := [11]) (by kernel_rfl) (by simp) ?_
            refine AllReadyH.cons (o := { dst := none, op := Op.store 23 (Operand.tmp 27) (Operand.tmp 26), type := 0, pos := "l3_project.go:211", after := #[{ on := 10, ground := Ground.data }, { on := 9, ground := Ground.data }, { on := 9, ground := Ground.chain }, { on := 0, ground := Ground.phase }, { on := 1, ground := Ground.phase }, { on := 2, ground := Ground.phase }, { on := 3, ground := Ground.phase }, { on := 4, ground := Ground.phase }, { on := 5, ground := Ground.phase }, { on := 6, ground := Ground.phase }, { on := 7, ground := Ground.phase }, { on := 8, ground := Ground.phase }, { on := 9, ground := Ground.phase }], guard := none }) rfl (fun K hK => ?_) AllReadyH.nil
            go_simp
            clear hHeld
            try dsimp only
            refine hK.out _ _ trivial (fun hHeld => ?_)
            clear hK K
            try simp only [Act.put, List.setIfInBounds_toArray, List.set_cons_zero, List.set_cons_succ]
            refine wpAnyH_done (by kernel_rfl) ?_ _
            have hl5 := hg5.grown.size
            have hln := putF_length (s1, s2) fs
            have hsh6 := hsh.put (f := (s1, s2)) ⟨hq1, hq2⟩
            have hown7 := ownsF_set (ownsF_mono (base' := w.heap.size + 1 + 1) hown6 (by omega)) (g := w.heap.size + 1) (by omega) 0 (.slice b6 (putF (s1, s2) fs).length d6)
            have he6 := (he5.next hB6).set0 (.slice b6 (putF (s1, s2) fs).length d6)
            have hb6 := ((bxP_step hb hg5 (by omega)).next hB6).other (g' := w.heap.size + 1) (by omega) 0 (.slice b6 (putF (s1, s2) fs).length d6)
            have hst6 := ((hst.trans hg5).below hB6).setNew (g := w.heap.size + 1) (j := 0) (by omega) (.slice b6 (putF (s1, s2) fs).length d6)
            clear z0 z1 zf0 zf1 zl y0 y1 yf0 yf1 yl x0 x1 xf0 xf1 xl u0 u1 uf0 uf1 ul hf6 hown6 hst4 hst5 hg4 hg5 he5 hof5 hf5
            go_wp2_with fail
            exact ⟨⟨j, _, _, _, by go_num, hown7, he6, hb6, hsh6, by omega, hst6.more (by omega)⟩, by simp [intOf]⟩
          · go_simp
            refine Calls.mono (of_any (m := 5) (Q := fun s => s.size ≤ 10) (by first | exact (hrd.drewN 1).alloc _ | exact ((hrd.drewN 1).alloc _).alloc _) (by omega) (by omega) (by omega) (by first | omega | (simp; omega)) (by first | exact strs5 (heap_alloc_new _ _) | exact strs5 (heap_two _ _ _) | exact strs5 ((Below.heap_alloc _ _ _ (by simp)).trans (heap_alloc_new _ _)))) ?_
            rintro e w4 ⟨⟨s1, rfl, hq1⟩, hst4⟩
            have hg4 : Step wr w4 B R a n c q (q + 1) (0 + 1) := (by first | exact (((Step.refl hrd).drewN 1).alloc _).trans hst4 | exact ((((Step.refl hrd).drewN 1).alloc _).alloc _).trans hst4)
            have hl4 := hg4.grown.size
            obtain ⟨y0, y1, yf0, yf1, yl⟩ := (bxP_step he hg4 (by omega)).facts
            clear hHeld
            try dsimp only
            refine hK.out _ _ trivial (fun hHeld => ?_)
            clear hK K
            try simp only [Act.put, List.setIfInBounds_toArray, List.set_cons_zero, List.set_cons_succ]
            refine wpAnyH_ready (rs := [1, 7]) (by kernel_rfl) (by simp) ?_
            refine AllReadyH.cons (o := { dst := some 18, op := Op.load 23 (Operand.tmp 17), type := 23, pos := "l3_project.go:211", after := #[{ on := 0, ground := Ground.data }], guard := none }) rfl (fun K hK => ?_) (AllReadyH.cons (o := { dst := some 24, op := Op.call { callee := Callee.value (Operand.func 28), args := #[Operand.tmp 22, Operand.tmp 23], argTypes := #[53, 58] }, type := 9, pos := "l3_project.go:211", after := #[{ on := 5, ground := Ground.data }, { on := 6, ground := Ground.data }, { on := 4, ground := Ground.chain }], guard := none }) rfl (fun K hK => ?_) AllReadyH.nil)
            · go_simp
              clear hHeld
              try dsimp only
              refine hK.out _ _ trivial (fun hHeld => ?_)
              clear hK K
              try simp only [Act.put, List.setIfInBounds_toArray, List.set_cons_zero, List.set_cons_succ]
              refine wpAnyH_ready (rs := [7]) (by kernel_rfl) (by simp) ?_
              refine AllReadyH.cons (o := { dst := some 24, op := Op.call { callee := Callee.value (Operand.func 28), args := #[Operand.tmp 22, Operand.tmp 23], argTypes := #[53, 58] }, type := 9, pos := "l3_project.go:211", after := #[{ on := 5, ground := Ground.data }, { on := 6, ground := Ground.data }, { on := 4, ground := Ground.chain }], guard := none }) rfl (fun K hK => ?_) AllReadyH.nil
              go_simp
              refine Calls.mono (of_any (m := 7) (Q := fun s => s.size ≤ 10) (by first | exact hst4.rd | exact hst4.rd.alloc _) (by omega) (by omega) (by omega) (by first | omega | (simp; omega)) (by first | exact strs7 (heap_alloc_new w4 _) | (refine StrsAt.step ?_ hst4 ?_ ?_ <;> first | exact strs7 (heap_two _ _ _) | exact strs7 ((Below.heap_alloc _ _ _ (by simp)).trans (heap_alloc_new _ _)) | omega | (simp; done) | (simp; omega)))) ?_
              rintro e w5 ⟨⟨s2, rfl, hq2⟩, hst5⟩
              have hg5 : Step wr w5 B R a n c q (q + 1 + 1) (0 + 1 + 1) := (by first | exact hg4.trans hst5 | exact (hg4.alloc _).trans hst5)
              have he5 := bxP_step he hg5 (by omega)
              have hof5 := hof.step (by omega) hg5
              obtain ⟨b5, d5, hbd5, hf5⟩ := hof5.form
              cases hbd5
              obtain ⟨u0, u1, uf0, uf1, ul⟩ := he5.facts
              clear hHeld
              try dsimp only
              refine hK.out _ _ trivial (fun hHeld => ?_)
              clear hK K
              try simp only [Act.put, List.setIfInBounds_toArray, List.set_cons_zero, List.set_cons_succ]
              refine wpAnyH_take (i := 8) (oi := { dst := some 25, op := Op.build 28 #[(0, Operand.tmp 21), (1, Operand.tmp 24)], type := 28, pos := "l3_project.go:211", after := #[{ on := 4, ground := Ground.data }, { on := 7, ground := Ground.data }], guard := none }) (v := ?vq30_8) rfl (by kernel_rfl) (by kernel_rfl) (by kernel_rfl) (fun _ _ _ h => h) (Or.inl ⟨by rfl, ?hyq30_8⟩) (by assumption) ?_
              case hyq30_8 =>
                intro W hSW
                try dsimp only at hSW
                go_simp
                try with_reducible rfl
              try simp only [Act.put, List.setIfInBounds_toArray, List.set_cons_zero, List.set_cons_succ]
              refine wpAnyH_ready (rs := [9]) (by kernel_rfl) (by simp) ?_
              refine AllReadyH.cons (o := { dst := some 26, op := Op.call { callee := Callee.value (Operand.func 36), args := #[Operand.tmp 18, Operand.tmp 25], argTypes := #[23, 28] }, type := 23, pos := "l3_project.go:211", after := #[{ on := 1, ground := Ground.data }, { on := 8, ground := Ground.data }, { on := 7, ground := Ground.chain }], guard := none }) rfl (fun K hK => ?_) AllReadyH.nil
              go_simp
              refine Calls.mono (put_any b1 fs.length d1 fs s1 s2 w5 hf5 (by omega)) ?_
              rintro e w6 ⟨v6, rfl, hown6, hB6⟩
              obtain ⟨b6, d6, rfl, hf6⟩ := hown6.form
              obtain ⟨z0, z1, zf0, zf1, zl⟩ := (he5.next hB6).facts
              clear hHeld
              try dsimp only
              refine hK.out _ _ trivial (fun hHeld => ?_)
              clear hK K
              try simp only [Act.put, List.setIfInBounds_toArray, List.set_cons_zero, List.set_cons_succ]
              refine wpAnyH_take (i := 10) (oi := { dst := some 27, op := Op.fieldAddr 26 (Operand.tmp 3) 0, type := 0, pos := "l3_project.go:211", after := #[{ on := 0, ground := Ground.phase }, { on := 1, ground := Ground.phase }, { on := 2, ground := Ground.phase }, { on := 3, ground := Ground.phase }, { on := 4, ground := Ground.phase }, { on := 5, ground := Ground.phase }, { on := 6, ground := Ground.phase }, { on := 7, ground := Ground.phase }, { on := 8, ground := Ground.phase }, { on := 9, ground := Ground.phase }], guard := none }) (v := ?vq31_10) rfl (by kernel_rfl) (by kernel_rfl) (by kernel_rfl) (fun _ _ _ h => h) (Or.inl ⟨by rfl, ?hyq31_10⟩) (by assumption) ?_
              case hyq31_10 =>
                intro W hSW
                try dsimp only at hSW
                go_simp
                try with_reducible rfl
              try simp only [Act.put, List.setIfInBounds_toArray, List.set_cons_zero, List.set_cons_succ]
              refine wpAnyH_ready (rs := [11]) (by kernel_rfl) (by simp) ?_
              refine AllReadyH.cons (o := { dst := none, op := Op.store 23 (Operand.tmp 27) (Operand.tmp 26), type := 0, pos := "l3_project.go:211", after := #[{ on := 10, ground := Ground.data }, { on := 9, ground := Ground.data }, { on := 9, ground := Ground.chain }, { on := 0, ground := Ground.phase }, { on := 1, ground := Ground.phase }, { on := 2, ground := Ground.phase }, { on := 3, ground := Ground.phase }, { on := 4, ground := Ground.phase }, { on := 5, ground := Ground.phase }, { on := 6, ground := Ground.phase }, { on := 7, ground := Ground.phase }, { on := 8, ground := Ground.phase }, { on := 9, ground := Ground.phase }], guard := none }) rfl (fun K hK => ?_) AllReadyH.nil
              go_simp
              clear hHeld
              try dsimp only
              refine hK.out _ _ trivial (fun hHeld => ?_)
              clear hK K
              try simp only [Act.put, List.setIfInBounds_toArray, List.set_cons_zero, List.set_cons_succ]
              refine wpAnyH_done (by kernel_rfl) ?_ _
              have hl5 := hg5.grown.size
              have hln := putF_length (s1, s2) fs
              have hsh6 := hsh.put (f := (s1, s2)) ⟨hq1, hq2⟩
              have hown7 := ownsF_set (ownsF_mono (base' := w.heap.size + 1 + 1) hown6 (by omega)) (g := w.heap.size + 1) (by omega) 0 (.slice b6 (putF (s1, s2) fs).length d6)
              have he6 := (he5.next hB6).set0 (.slice b6 (putF (s1, s2) fs).length d6)
              have hb6 := ((bxP_step hb hg5 (by omega)).next hB6).other (g' := w.heap.size + 1) (by omega) 0 (.slice b6 (putF (s1, s2) fs).length d6)
              have hst6 := ((hst.trans hg5).below hB6).setNew (g := w.heap.size + 1) (j := 0) (by omega) (.slice b6 (putF (s1, s2) fs).length d6)
              clear z0 z1 zf0 zf1 zl y0 y1 yf0 yf1 yl x0 x1 xf0 xf1 xl u0 u1 uf0 uf1 ul hf6 hown6 hst4 hst5 hg4 hg5 he5 hof5 hf5
              go_wp2_with fail
              exact ⟨⟨j, _, _, _, by go_num, hown7, he6, hb6, hsh6, by omega, hst6.more (by omega)⟩, by simp [intOf]⟩
            · go_simp
              refine Calls.mono (of_any (m := 7) (Q := fun s => s.size ≤ 10) (by first | exact hst4.rd | exact hst4.rd.alloc _) (by omega) (by omega) (by omega) (by first | omega | (simp; omega)) (by first | exact strs7 (heap_alloc_new w4 _) | (refine StrsAt.step ?_ hst4 ?_ ?_ <;> first | exact strs7 (heap_two _ _ _) | exact strs7 ((Below.heap_alloc _ _ _ (by simp)).trans (heap_alloc_new _ _)) | omega | (simp; done) | (simp; omega)))) ?_
              rintro e w5 ⟨⟨s2, rfl, hq2⟩, hst5⟩
              have hg5 : Step wr w5 B R a n c q (q + 1 + 1) (0 + 1 + 1) := (by first | exact hg4.trans hst5 | exact (hg4.alloc _).trans hst5)
              have he5 := bxP_step he hg5 (by omega)
              have hof5 := hof.step (by omega) hg5
              obtain ⟨b5, d5, hbd5, hf5⟩ := hof5.form
              cases hbd5
              obtain ⟨u0, u1, uf0, uf1, ul⟩ := he5.facts
              clear hHeld
              try dsimp only
              refine hK.out _ _ trivial (fun hHeld => ?_)
              clear hK K
              try simp only [Act.put, List.setIfInBounds_toArray, List.set_cons_zero, List.set_cons_succ]
              refine wpAnyH_take (i := 8) (oi := { dst := some 25, op := Op.build 28 #[(0, Operand.tmp 21), (1, Operand.tmp 24)], type := 28, pos := "l3_project.go:211", after := #[{ on := 4, ground := Ground.data }, { on := 7, ground := Ground.data }], guard := none }) (v := ?vq32_8) rfl (by kernel_rfl) (by kernel_rfl) (by kernel_rfl) (fun _ _ _ h => h) (Or.inl ⟨by rfl, ?hyq32_8⟩) (by assumption) ?_
              case hyq32_8 =>
                intro W hSW
                try dsimp only at hSW
                go_simp
                try with_reducible rfl
              try simp only [Act.put, List.setIfInBounds_toArray, List.set_cons_zero, List.set_cons_succ]
              refine wpAnyH_ready (rs := [1]) (by kernel_rfl) (by simp) ?_
              refine AllReadyH.cons (o := { dst := some 18, op := Op.load 23 (Operand.tmp 17), type := 23, pos := "l3_project.go:211", after := #[{ on := 0, ground := Ground.data }], guard := none }) rfl (fun K hK => ?_) AllReadyH.nil
              go_simp
              clear hHeld
              try dsimp only
              refine hK.out _ _ trivial (fun hHeld => ?_)
              clear hK K
              try simp only [Act.put, List.setIfInBounds_toArray, List.set_cons_zero, List.set_cons_succ]
              refine wpAnyH_ready (rs := [9]) (by kernel_rfl) (by simp) ?_
              refine AllReadyH.cons (o := { dst := some 26, op := Op.call { callee := Callee.value (Operand.func 36), args := #[Operand.tmp 18, Operand.tmp 25], argTypes := #[23, 28] }, type := 23, pos := "l3_project.go:211", after := #[{ on := 1, ground := Ground.data }, { on := 8, ground := Ground.data }, { on := 7, ground := Ground.chain }], guard := none }) rfl (fun K hK => ?_) AllReadyH.nil
              go_simp
              refine Calls.mono (put_any b1 fs.length d1 fs s1 s2 w5 hf5 (by omega)) ?_
              rintro e w6 ⟨v6, rfl, hown6, hB6⟩
              obtain ⟨b6, d6, rfl, hf6⟩ := hown6.form
              obtain ⟨z0, z1, zf0, zf1, zl⟩ := (he5.next hB6).facts
              clear hHeld
              try dsimp only
              refine hK.out _ _ trivial (fun hHeld => ?_)
              clear hK K
              try simp only [Act.put, List.setIfInBounds_toArray, List.set_cons_zero, List.set_cons_succ]
              refine wpAnyH_take (i := 10) (oi := { dst := some 27, op := Op.fieldAddr 26 (Operand.tmp 3) 0, type := 0, pos := "l3_project.go:211", after := #[{ on := 0, ground := Ground.phase }, { on := 1, ground := Ground.phase }, { on := 2, ground := Ground.phase }, { on := 3, ground := Ground.phase }, { on := 4, ground := Ground.phase }, { on := 5, ground := Ground.phase }, { on := 6, ground := Ground.phase }, { on := 7, ground := Ground.phase }, { on := 8, ground := Ground.phase }, { on := 9, ground := Ground.phase }], guard := none }) (v := ?vq33_10) rfl (by kernel_rfl) (by kernel_rfl) (by kernel_rfl) (fun _ _ _ h => h) (Or.inl ⟨by rfl, ?hyq33_10⟩) (by assumption) ?_
              case hyq33_10 =>
                intro W hSW
                try dsimp only at hSW
                go_simp
                try with_reducible rfl
              try simp only [Act.put, List.setIfInBounds_toArray, List.set_cons_zero, List.set_cons_succ]
              refine wpAnyH_ready (rs := [11]) (by kernel_rfl) (by simp) ?_
              refine AllReadyH.cons (o := { dst := none, op := Op.store 23 (Operand.tmp 27) (Operand.tmp 26), type := 0, pos := "l3_project.go:211", after := #[{ on := 10, ground := Ground.data }, { on := 9, ground := Ground.data }, { on := 9, ground := Ground.chain }, { on := 0, ground := Ground.phase }, { on := 1, ground := Ground.phase }, { on := 2, ground := Ground.phase }, { on := 3, ground := Ground.phase }, { on := 4, ground := Ground.phase }, { on := 5, ground := Ground.phase }, { on := 6, ground := Ground.phase }, { on := 7, ground := Ground.phase }, { on := 8, ground := Ground.phase }, { on := 9, ground := Ground.phase }], guard := none }) rfl (fun K hK => ?_) AllReadyH.nil
              go_simp
              clear hHeld
              try dsimp only
              refine hK.out _ _ trivial (fun hHeld => ?_)
              clear hK K
              try simp only [Act.put, List.setIfInBounds_toArray, List.set_cons_zero, List.set_cons_succ]
              refine wpAnyH_done (by kernel_rfl) ?_ _
              have hl5 := hg5.grown.size
              have hln := putF_length (s1, s2) fs
              have hsh6 := hsh.put (f := (s1, s2)) ⟨hq1, hq2⟩
              have hown7 := ownsF_set (ownsF_mono (base' := w.heap.size + 1 + 1) hown6 (by omega)) (g := w.heap.size + 1) (by omega) 0 (.slice b6 (putF (s1, s2) fs).length d6)
              have he6 := (he5.next hB6).set0 (.slice b6 (putF (s1, s2) fs).length d6)
              have hb6 := ((bxP_step hb hg5 (by omega)).next hB6).other (g' := w.heap.size + 1) (by omega) 0 (.slice b6 (putF (s1, s2) fs).length d6)
              have hst6 := ((hst.trans hg5).below hB6).setNew (g := w.heap.size + 1) (j := 0) (by omega) (.slice b6 (putF (s1, s2) fs).length d6)
              clear z0 z1 zf0 zf1 zl y0 y1 yf0 yf1 yl x0 x1 xf0 xf1 xl u0 u1 uf0 uf1 ul hf6 hown6 hst4 hst5 hg4 hg5 he5 hof5 hf5
              go_wp2_with fail
              exact ⟨⟨j, _, _, _, by go_num, hown7, he6, hb6, hsh6, by omega, hst6.more (by omega)⟩, by simp [intOf]⟩
      --ENDREGION5
    · have hjj : ¬ (0 : Int) < (j : Int) := by omega
      have hl0 := hst.grown.size
      go_wp2_with fail
      refine (num_new (fun s => 1 ≤ s ∧ s ≤ 5) 5 hst.rd (by omega) (by omega) (by omega) rfl ?_).mono ?_
      · intro u hu
        have hu' : u = .int .i64 3 ∨ u = .int .i64 4 ∨ u = .int .i64 2 ∨ u = .int .i64 5 ∨ u = .int .i64 1 := by simpa using hu
        rcases hu' with rfl | rfl | rfl | rfl | rfl <;> exact ⟨_, rfl, by omega, by omega⟩
      rintro e w2 ⟨⟨m2, rfl, hm20, hm21⟩, hst2⟩
      obtain ⟨m2, rfl⟩ := Int.eq_ofNat_of_zero_le (show 0 ≤ m2 by omega)
      have hof2 := (ownsF_al hof _).step (by omega) hst2
      have he2 := bxP_step (he.alloc _) hst2 (by omega)
      have hb2 := bxP_step (hb.alloc _) hst2 (by omega)
      have hst02 := (hst.alloc _).trans hst2
      have hl2 := blk_lt he2
      clear hst2 hst hof he hb hjj hl0 hhi
      go_wp2_with fail
      go_loopw [5] (fun i wr => PjI2 w B R a n c p (w.heap.size + 1) v fs i wr) (fun i _ => (intOf i).toNat)
      case atStart => exact ⟨m2, _, _, [], rfl, hof2, RuO.nil (by omega), he2, hb2, fun x hx => by simp at hx, by simp; omega, hst02.more (by omega)⟩
      case round =>
        obtain ⟨j, q, v2, rs, rfl, hof, hru, he, hb, hsm, hlj, hst⟩ := hrel
        have hhi := hst.hi
        by_cases hj : 0 < j
        · have hjj : (0 : Int) < (j : Int) := by omega
          obtain ⟨j, rfl⟩ : ∃ i, j = i + 1 := ⟨j - 1, by omega⟩
          have hl0 := blk_lt he
          go_wp2_with fail
          refine (target_any hst.rd (by omega)).mono ?_
          rintro e w3 ⟨t, q3, rfl, ht, hst3⟩
          have hof3 := hof.step (by omega) hst3
          have hru3 := hru.step (by omega) hst3
          have he3 := bxP_step he hst3 (by omega)
          have hb3 := bxP_step hb hst3 (by omega)
          have hst03 := hst.trans hst3
          obtain ⟨b1, d1, rfl, hf1⟩ := hof3.form
          obtain ⟨a2, c2, rfl, hc2, hg2⟩ := OwnG.form hru3
          obtain ⟨x0, x1, xf0, xf1, xl⟩ := he3.facts
          clear hst3 hof hru he hb hst
          go_wp2_with fail
          refine (findS0_any b1 fs.length d1 fs t _ hf1 (by unfold maxLen; omega)).mono ?_
          rintro e w4 ⟨rfl, hB4⟩
          have hof4 := ownsF_bel hof3 hB4
          have hru4 := hru3.below hB4
          have he4 := he3.next hB4
          have hb4 := hb3.next hB4
          have hst04 := hst03.below hB4
          have hs4 := hB4.size
          obtain ⟨⟨fx, fb⟩, hfx⟩ : ∃ r, findF fs t = r := ⟨_, rfl⟩
          rw [hfx]
          clear x0 x1 xf0 xf1 xl hB4 hf1 hg2 he3 hb3 hst03 hfx
          cases fb with
          | true =>
            go_wp2_with fail
            exact ⟨⟨j, q3, _, rs, by go_num, hof4, hru4, he4, hb4, hsm, by omega, hst04.more (by omega)⟩, by simp [intOf]⟩
          | false =>
            obtain ⟨a2', c2', e2, _, hg4⟩ := OwnG.form hru4
            cases e2
            obtain ⟨x0, x1, xf0, xf1, xl⟩ := he4.facts
            have hhi4 := hst04.hi
            have hrl := hst04.rd.lt
            go_wp2_with fail
            refine (l3Without_g a2 rs.length c2 rs t w4 hg4 (by omega)).mono ?_
            rintro e w5 ⟨v5, rfl, hown5, hB5⟩
            obtain ⟨a5, c5, rfl, hc5, _⟩ := hown5.form
            have hs5 := hB5.size
            have hst05 := hst04.below hB5
            have he5 := he4.next hB5
            have hdl : (delRu t rs).length ≤ rs.length := List.length_filter_le (fun x : Ru => decide (x.1 ≠ t)) rs
            clear x0 x1 xf0 xf1 xl
            obtain ⟨x0, x1, xf0, xf1, xl⟩ := he5.facts
            go_wp2_with fail
            refine (expr_any hst05.rd (by omega)).mono ?_
            rintro e w6 ⟨k, s, v6, ks, q6, rfl, hown6, hs6, hf6, hz6, hst6⟩
            obtain ⟨a6, d6, rfl, hd6, hm6, hk6⟩ := hown6.form
            have hs6' := hst6.grown.size
            have hR6 := hst05.rd.lt
            have hl5 := blk_lt he5
            have hown5' : OwnG (fun ks a => KP w6 (w.heap.size + 1 + 1) w6.heap.size ks a ks.len) w6 w4.heap.size (.slice a5 (delRu t rs).length c5) (delRu t rs) :=
              (OwnG.grown hown5 hst6.grown (fun g e => by injection e with e; omega)).imp fun ks a hk => hk.keep (Nat.le_refl _) (by omega) fun g h1 h2 => (hst6.grown.block g (by omega) (fun e => by injection e with e; omega)).trans (hB5.block g h2)
            obtain ⟨a5', c5', e5, _, hg6⟩ := hown5'.form
            cases e5
            have he6 := bxP_step he5 hst6 (by omega)
            clear x0 x1 xf0 xf1 xl
            obtain ⟨x0, x1, xf0, xf1, xl⟩ := he6.facts
            go_wp2_with fail
            refine (l3With_g a5 a6 (delRu t rs).length c5 d6 (delRu t rs) t k s ks w6 hg6 (by omega) (hk6.more (by omega) (Nat.le_refl _)) hd6).mono ?_
            rintro e w7 ⟨v7, rfl, hown7, hB7⟩
            have hru7 : RuO w7 (w.heap.size + 1 + 1) v7 (insR (t, k, s, ks) (delRu t rs)) := (OwnG.mono hown7 (by omega)).imp fun ks a hk => hk.keep (Nat.le_refl _) hB7.size fun g h1 h2 => hB7.block g h2
            obtain ⟨a7, c7, rfl, _, _⟩ := OwnG.form hru7
            have he7 := he6.next hB7
            have hof7 := ownsF_set (ownsF_bel ((ownsF_bel hof4 hB5).step (by omega) hst6) hB7) (g := w.heap.size + 1) (by omega) 1 (.slice a7 (insR (t, k, s, ks) (delRu t rs)).length c7)
            have hb7 := ((bxP_step (hb4.next hB5) hst6 (by omega)).next hB7).other (g' := w.heap.size + 1) (by omega) 1 (.slice a7 (insR (t, k, s, ks) (delRu t rs)).length c7)
            have hst7 := ((hst05.trans hst6).below hB7).setNew (g := w.heap.size + 1) (j := 1) (by omega) (.slice a7 (insR (t, k, s, ks) (delRu t rs)).length c7)
            have hln := Lib.hid (insR_tot (t, k, s, ks) (delRu t rs)).1
            have hsm7 := hsm.ins (r := (t, k, s, ks)) ⟨ht, hs6, hf6, hz6⟩
            have hru8 := hru7.setCell (g := w.heap.size + 1) (by omega) 1 (.slice a7 (insR (t, k, s, ks) (delRu t rs)).length c7)
            have he8 := he7.set1 (.slice a7 (insR (t, k, s, ks) (delRu t rs)).length c7)
            clear x0 x1 xf0 xf1 xl hru7 hown7 hB7 hown5 hown5' hB5 hst6 hg6 hk6 hown6
            obtain ⟨x0, x1, xf0, xf1, xl⟩ := he7.facts
            go_wp2_with fail
            exact ⟨⟨j, _, _, _, by go_num, hof7, hru8, he8, hb7, hsm7, by have := hln.out; omega, hst7.more (by omega)⟩, by simp [intOf]⟩
        · have hjj : ¬ (0 : Int) < (j : Int) := by omega
          have hl0 := blk_lt he
          obtain ⟨b1, d1, rfl, hf1⟩ := hof.form
          obtain ⟨a2, c2, rfl, hc2, hg2⟩ := OwnG.form hru
          obtain ⟨x0, x1, xf0, xf1, xl⟩ := he.facts
          obtain ⟨y0, y1, yf0, yf1, yl⟩ := hb.facts
          have hln := hlj
          go_wp2_with fail
          refine bodyPost_ret (v := .agg #[.slice b1 fs.length d1, .slice a2 rs.length c2]) (by simp [results, Tryz.results27, go_sem, *]) rfl ?_
          exact ⟨_, _, fs, rs, q, rfl, ownsF_mono (ownsF_set (ownsF_set hof (by omega) 0 _) (by omega) 1 _) (by omega), ((hru.setCell (by omega) 0 _).setCell (by omega) 1 _).mono (by omega), hsh, by omega, hsm, by omega, ((hst.setNew (Nat.le_refl _) _).setNew (Nat.le_refl _) _).more (by omega)⟩
end Go.Proofs.YtceiafncpimihaaGreat
