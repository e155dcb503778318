/-
  The reference's l3Rules and ProjectValid.
-/
import Derived.Test.YtceiafncpimihaaGreatGone
import Derived.Test.YtceiafncpimihaaGreatQTreeC
import Derived.Test.YtceiafncpimihaaGreatQFValid
import Derived.Test.YtceiafncpimihaaGreatQStr
import Derived.Deep.RegionLaw
import Derived.Deep.RegionHeld3
namespace Go.Proofs.YtceiafncpimihaaGreat
set_option linter.unusedVariables false
set_option linter.unusedSimpArgs false
open Go.RowKit

/-- between two rounds of l3Rules -/
def LrIn (rs : List Ru) (n : Nat) (w : World) (i : Value) (wr : World) : Prop := ∃ j : Nat, j ≤ n ∧ i = .int .i64 j ∧ allTo (fun j => ascAt rs j && bodyAt rs j) j = true ∧ Below w.heap.size w wr
theorem rule_eq {rs : List Ru} {j : Nat} {t s : ByteArray} {k : Int} {ks : Fo} {x : Bool} (hg : rs[j]? = some (t, k, s, ks)) (ha : ascAt rs j = x) : (ascAt rs j && bodyAt rs j) = (x && (pathB t && validE k s ks)) := by
  unfold bodyAt
  rw [ha, ruGet_of hg]

set_option maxRecDepth 100000 in
set_option maxHeartbeats 40000000 in
theorem rulesS_any (rs : List Ru) (a : Option Addr) (n c : Nat) (w : World) (hr : RuAt w 0 w.heap.size rs a n) (hrf : RuFits rs) (hz : RuZ rs) (hn : n ≤ maxLen) :
    Calls Tryz.prog 66 #[.slice a n c] w fun e w' => e = .returned (.bool (rulesB rs)) ∧ Below w.heap.size w w' := by
  unfold maxLen at hn
  have hlen := hr.1
  go_enter Tryz.func66, Tryz.ntmps66
  go_wp2_with fail
  go_loopw [3] (fun i wr => LrIn rs n w i wr) (fun i _ => n - (intOf i).toNat)
  case atStart => exact ⟨0, Nat.zero_le _, rfl, rfl, Below.refl _ _⟩
  case round =>
    obtain ⟨j, hj, rfl, hok, hB⟩ := hrel
    have Hok := Lib.hid hok
    clear hok
    by_cases hlt : j < n
    · obtain ⟨b, off, t, k, s, ks, a', n', c', rfl, _, hb, hg, hc0, hc1, hc2, hc3, hcap, hks⟩ := (hr.next hB).get hlt
      have hjj : (j : Int) < (n : Int) := by omega
      have hj0 : (0 : Int) ≤ (j : Int) := by omega
      have hfit := hrf.get hg
      have hkn := hks.1
      have hksz : ks.size ≤ 1048576 := hz.2 _ (List.mem_of_getElem? hg)
      have Hg := Lib.hid hg
      clear hg
      have BD := hB.drew
      have hbD : b < wr.drew.heap.size := hb
      have hkD : KA wr.drew 0 wr.drew.heap.size ks a' n' := hks.keep (Nat.le_refl _) (Nat.le_refl _) fun _ _ _ => rfl
      cases hp : pathB t with
      | false =>
        have hfalse : (ascAt rs j && bodyAt rs j) = false := by rw [rule_eq Hg.out rfl, hp]; simp
        have Hno := Lib.hid (show rulesB rs = false by unfold rulesB; rw [allTo_false (n := rs.length) (k := j) (by omega) hfalse]; rfl)
        clear hfalse
        go_wp2_with fail
        go_quiet ((go_at_call 85; exact Calls.quiet_of_same (pathS_is t _ hfit.1 hp)))
        go_wp2_with fail
        go_ret
        exact ⟨ret_bool Hno.out.symm, below_drewN hB _⟩
      | true =>
        cases hve : validE k s ks with
        | false =>
          have hfalse : (ascAt rs j && bodyAt rs j) = false := by rw [rule_eq Hg.out rfl, hp, hve]; simp
          have Hno := Lib.hid (show rulesB rs = false by unfold rulesB; rw [allTo_false (n := rs.length) (k := j) (by omega) hfalse]; rfl)
          clear hfalse
          have HK0 := Lib.hid (show wr.drew.cell? ⟨b, off + j * 4, none⟩ = some (.string t) ∧ wr.drew.cell? ⟨b, off + j * 4 + 1, none⟩ = some (.int .i64 k) ∧ wr.drew.cell? ⟨b, off + j * 4 + 2, none⟩ = some (.string s) ∧ wr.drew.cell? ⟨b, off + j * 4 + 3, none⟩ = some (.slice a' n' c') from ⟨hc0, hc1, hc2, hc3⟩)
          go_wp2_with fail
          refine wp_region_held_drew (S := (fun w' => w'.cell? ⟨b, off + j * 4, none⟩ = some (.string t) ∧ w'.cell? ⟨b, off + j * 4 + 1, none⟩ = some (.int .i64 k) ∧ w'.cell? ⟨b, off + j * 4 + 2, none⟩ = some (.string s) ∧ w'.cell? ⟨b, off + j * 4 + 3, none⟩ = some (.slice a' n' c'))) (by kernel_rfl) HK0.out (fun hHeld => ?_)
          refine wpAnyH_take (i := 0) (oi := { dst := some 10, op := Op.move (Operand.tmp 0), type := 24, pos := "l3_project.go:8", after := #[], guard := none }) (v := ?vB0) rfl (by kernel_rfl) (by kernel_rfl) (by kernel_rfl) (fun _ _ _ h => h) (Or.inl ⟨by rfl, ?hyB0⟩) (by assumption) ?_
          case hyB0 =>
            intro W hSW
            try dsimp only at hSW
            go_simp
            try with_reducible rfl
          try simp only [Act.put, List.setIfInBounds_toArray, List.set_cons_zero, List.set_cons_succ]
          refine wpAnyH_take (i := 1) (oi := { dst := some 11, op := Op.move (Operand.tmp 3), type := 3, pos := "l3_project.go:8", after := #[], guard := none }) (v := ?vB1) rfl (by kernel_rfl) (by kernel_rfl) (by kernel_rfl) (fun _ _ _ h => h) (Or.inl ⟨by rfl, ?hyB1⟩) (by assumption) ?_
          case hyB1 =>
            intro W hSW
            try dsimp only at hSW
            go_simp
            try with_reducible rfl
          try simp only [Act.put, List.setIfInBounds_toArray, List.set_cons_zero, List.set_cons_succ]
          refine wpAnyH_take (i := 2) (oi := { dst := some 12, op := Op.indexAddr 24 (Operand.tmp 10) (Operand.tmp 11), type := 0, pos := "l3_project.go:8", after := #[{ on := 0, ground := Ground.data }, { on := 1, ground := Ground.data }], guard := none }) (v := ?vB2) rfl (by kernel_rfl) (by kernel_rfl) (by kernel_rfl) (fun _ _ _ h => h) (Or.inl ⟨by rfl, ?hyB2⟩) (by assumption) ?_
          case hyB2 =>
            intro W hSW
            try dsimp only at hSW
            go_simp
            try with_reducible rfl
          try simp only [Act.put, List.setIfInBounds_toArray, List.set_cons_zero, List.set_cons_succ]
          refine wpAnyH_take (i := 3) (oi := { dst := some 13, op := Op.fieldAddr 45 (Operand.tmp 12) 0, type := 0, pos := "l3_project.go:8", after := #[{ on := 2, ground := Ground.data }], guard := none }) (v := ?vB3) rfl (by kernel_rfl) (by kernel_rfl) (by kernel_rfl) (fun _ _ _ h => h) (Or.inl ⟨by rfl, ?hyB3⟩) (by assumption) ?_
          case hyB3 =>
            intro W hSW
            try dsimp only at hSW
            go_simp
            try with_reducible rfl
          try simp only [Act.put, List.setIfInBounds_toArray, List.set_cons_zero, List.set_cons_succ]
          refine wpAnyH_take (i := 4) (oi := { dst := some 14, op := Op.load 9 (Operand.tmp 13), type := 9, pos := "l3_project.go:8", after := #[{ on := 3, ground := Ground.data }], guard := none }) (v := ?vB4) rfl (by kernel_rfl) (by kernel_rfl) (by kernel_rfl) (fun _ _ _ h => h) (Or.inl ⟨by rfl, ?hyB4⟩) (by assumption) ?_
          case hyB4 =>
            intro W hSW
            try dsimp only at hSW
            go_simp
            try with_reducible rfl
          try simp only [Act.put, List.setIfInBounds_toArray, List.set_cons_zero, List.set_cons_succ]
          refine wpAnyH_ready (rs := [5]) (by kernel_rfl) (by simp) ?_
          refine AllReadyH.cons (o := { dst := some 15, op := Op.call { callee := Callee.value (Operand.func 85), args := #[Operand.tmp 14], argTypes := #[9] }, type := 4, pos := "l3_project.go:8", after := #[{ on := 4, ground := Ground.data }], guard := none }) rfl (fun K hK => ?_) AllReadyH.nil
          go_simp
          refine (pathS_is t _ hfit.1 hp).mono ?_
          rintro e w9 ⟨rfl, rfl⟩
          dsimp only
          refine hK.out _ _ HK0.out (fun _ => ?_)
          clear hK K
          try simp only [Act.put, List.setIfInBounds_toArray, List.set_cons_zero, List.set_cons_succ]
          refine wpAnyH_take (i := 6) (oi := { dst := some 16, op := Op.unOp UnOp.not 4 (Operand.tmp 15), type := 4, pos := "l3_project.go:8", after := #[{ on := 5, ground := Ground.data }], guard := none }) (v := ?vB6) rfl (by kernel_rfl) (by kernel_rfl) (by kernel_rfl) (fun _ _ _ h => h) (Or.inl ⟨by rfl, ?hyB6⟩) (by assumption) ?_
          case hyB6 =>
            intro W hSW
            try dsimp only at hSW
            go_simp
            try with_reducible rfl
          try simp only [Act.put, List.setIfInBounds_toArray, List.set_cons_zero, List.set_cons_succ]
          refine wpAnyH_take (i := 7) (oi := { dst := some 17, op := Op.move (Operand.tmp 16), type := 4, pos := "l3_project.go:8", after := #[{ on := 6, ground := Ground.data }, { on := 5, ground := Ground.chain }], guard := none }) (v := ?vB7) rfl (by kernel_rfl) (by kernel_rfl) (by kernel_rfl) (fun _ _ _ h => h) (Or.inl ⟨by rfl, ?hyB7⟩) (by assumption) ?_
          case hyB7 =>
            intro W hSW
            try dsimp only at hSW
            go_simp
            try with_reducible rfl
          try simp only [Act.put, List.setIfInBounds_toArray, List.set_cons_zero, List.set_cons_succ]
          refine wpAnyH_take (i := 8) (oi := { dst := some 18, op := Op.move (Operand.tmp 0), type := 24, pos := "l3_project.go:8", after := #[{ on := 7, ground := Ground.guard }], guard := some (7, false) }) (v := ?vB8) rfl (by kernel_rfl) (by kernel_rfl) (by kernel_rfl) (fun _ _ _ h => h) (Or.inl ⟨by rfl, ?hyB8⟩) (by assumption) ?_
          case hyB8 =>
            intro W hSW
            try dsimp only at hSW
            go_simp
            try with_reducible rfl
          try simp only [Act.put, List.setIfInBounds_toArray, List.set_cons_zero, List.set_cons_succ]
          refine wpAnyH_take (i := 9) (oi := { dst := some 19, op := Op.move (Operand.tmp 3), type := 3, pos := "l3_project.go:8", after := #[{ on := 7, ground := Ground.guard }], guard := some (7, false) }) (v := ?vB9) rfl (by kernel_rfl) (by kernel_rfl) (by kernel_rfl) (fun _ _ _ h => h) (Or.inl ⟨by rfl, ?hyB9⟩) (by assumption) ?_
          case hyB9 =>
            intro W hSW
            try dsimp only at hSW
            go_simp
            try with_reducible rfl
          try simp only [Act.put, List.setIfInBounds_toArray, List.set_cons_zero, List.set_cons_succ]
          refine wpAnyH_take (i := 10) (oi := { dst := some 20, op := Op.indexAddr 24 (Operand.tmp 18) (Operand.tmp 19), type := 0, pos := "l3_project.go:8", after := #[{ on := 8, ground := Ground.data }, { on := 9, ground := Ground.data }, { on := 7, ground := Ground.guard }], guard := some (7, false) }) (v := ?vB10) rfl (by kernel_rfl) (by kernel_rfl) (by kernel_rfl) (fun _ _ _ h => h) (Or.inl ⟨by rfl, ?hyB10⟩) (by assumption) ?_
          case hyB10 =>
            intro W hSW
            try dsimp only at hSW
            go_simp
            try with_reducible rfl
          try simp only [Act.put, List.setIfInBounds_toArray, List.set_cons_zero, List.set_cons_succ]
          refine wpAnyH_take (i := 11) (oi := { dst := some 21, op := Op.fieldAddr 45 (Operand.tmp 20) 1, type := 0, pos := "l3_project.go:8", after := #[{ on := 10, ground := Ground.data }, { on := 7, ground := Ground.guard }], guard := some (7, false) }) (v := ?vB11) rfl (by kernel_rfl) (by kernel_rfl) (by kernel_rfl) (fun _ _ _ h => h) (Or.inl ⟨by rfl, ?hyB11⟩) (by assumption) ?_
          case hyB11 =>
            intro W hSW
            try dsimp only at hSW
            go_simp
            try with_reducible rfl
          try simp only [Act.put, List.setIfInBounds_toArray, List.set_cons_zero, List.set_cons_succ]
          refine wpAnyH_take (i := 12) (oi := { dst := some 22, op := Op.load 43 (Operand.tmp 21), type := 43, pos := "l3_project.go:8", after := #[{ on := 11, ground := Ground.data }, { on := 7, ground := Ground.guard }], guard := some (7, false) }) (v := ?vB12) rfl (by kernel_rfl) (by kernel_rfl) (by kernel_rfl) (fun _ _ _ h => h) (Or.inl ⟨by rfl, ?hyB12⟩) (by assumption) ?_
          case hyB12 =>
            intro W hSW
            try dsimp only at hSW
            go_simp
            try with_reducible rfl
          try simp only [Act.put, List.setIfInBounds_toArray, List.set_cons_zero, List.set_cons_succ]
          refine wpAnyH_ready (rs := [13]) (by kernel_rfl) (by simp) ?_
          refine AllReadyH.cons (o := { dst := some 23, op := Op.call { callee := Callee.value (Operand.func 75), args := #[Operand.tmp 22], argTypes := #[43] }, type := 4, pos := "l3_project.go:8", after := #[{ on := 12, ground := Ground.data }, { on := 7, ground := Ground.chain }, { on := 7, ground := Ground.guard }], guard := some (7, false) }) rfl (fun K hK => ?_) AllReadyH.nil
          go_simp
          refine (validSE_any k s ks a' n' c' _ hkD hfit.2.1 hfit.2.2.2 (by rw [← hkn]; exact hfit.2.2.1) hksz).mono ?_
          rintro e w4 ⟨rfl, hB4⟩
          rw [hve]
          have B4 := BD.trans (hB4.mono BD.size)
          clear hHeld
          dsimp only
          refine hK.out _ _ ⟨(hB4.cell (p := ⟨b, off + j * 4, none⟩) hbD).trans hc0, (hB4.cell (p := ⟨b, off + j * 4 + 1, none⟩) hbD).trans hc1, (hB4.cell (p := ⟨b, off + j * 4 + 2, none⟩) hbD).trans hc2, (hB4.cell (p := ⟨b, off + j * 4 + 3, none⟩) hbD).trans hc3⟩ (fun hHeld => ?_)
          clear hK K
          try simp only [Act.put, List.setIfInBounds_toArray, List.set_cons_zero, List.set_cons_succ]
          refine wpAnyH_take (i := 14) (oi := { dst := some 24, op := Op.unOp UnOp.not 4 (Operand.tmp 23), type := 4, pos := "l3_project.go:8", after := #[{ on := 13, ground := Ground.data }, { on := 7, ground := Ground.guard }], guard := some (7, false) }) (v := ?vB14) rfl (by kernel_rfl) (by kernel_rfl) (by kernel_rfl) (fun _ _ _ h => h) (Or.inl ⟨by rfl, ?hyB14⟩) (by assumption) ?_
          case hyB14 =>
            intro W hSW
            try dsimp only at hSW
            go_simp
            try with_reducible rfl
          try simp only [Act.put, List.setIfInBounds_toArray, List.set_cons_zero, List.set_cons_succ]
          refine wpAnyH_take (i := 15) (oi := { dst := some 25, op := Op.pick (Operand.tmp 17) (Operand.const (Value.bool true)) (Operand.tmp 24), type := 4, pos := "l3_project.go:8", after := #[{ on := 7, ground := Ground.data }, { on := 14, ground := Ground.data }], guard := none }) (v := ?vB15) rfl (by kernel_rfl) (by kernel_rfl) (by kernel_rfl) (fun _ _ _ h => h) (Or.inl ⟨by rfl, ?hyB15⟩) (by assumption) ?_
          case hyB15 =>
            intro W hSW
            try dsimp only at hSW
            go_simp
            try with_reducible rfl
          try simp only [Act.put, List.setIfInBounds_toArray, List.set_cons_zero, List.set_cons_succ]
          refine wpAnyH_take (i := 16) (oi := { dst := some 26, op := Op.move (Operand.tmp 25), type := 4, pos := "l3_project.go:8", after := #[{ on := 15, ground := Ground.data }, { on := 13, ground := Ground.chain }], guard := none }) (v := ?vB16) rfl (by kernel_rfl) (by kernel_rfl) (by kernel_rfl) (fun _ _ _ h => h) (Or.inl ⟨by rfl, ?hyB16⟩) (by assumption) ?_
          case hyB16 =>
            intro W hSW
            try dsimp only at hSW
            go_simp
            try with_reducible rfl
          try simp only [Act.put, List.setIfInBounds_toArray, List.set_cons_zero, List.set_cons_succ]
          refine wpAnyH_take (i := 17) (oi := { dst := some 27, op := Op.move (Operand.tmp 3), type := 3, pos := "l3_project.go:8", after := #[{ on := 16, ground := Ground.guard }], guard := some (16, false) }) (v := undef) rfl (by kernel_rfl) (by kernel_rfl) (by kernel_rfl) (fun _ _ _ h => h) (Or.inr ⟨by rfl, rfl⟩) (by assumption) ?_
          try simp only [Act.put, List.setIfInBounds_toArray, List.set_cons_zero, List.set_cons_succ]
          refine wpAnyH_take (i := 18) (oi := { dst := some 28, op := Op.binOp BinOp.gtr 3 (Operand.tmp 27) (Operand.const (Value.int IntKind.i64 0)) 3, type := 4, pos := "l3_project.go:8", after := #[{ on := 17, ground := Ground.data }, { on := 16, ground := Ground.guard }], guard := some (16, false) }) (v := undef) rfl (by kernel_rfl) (by kernel_rfl) (by kernel_rfl) (fun _ _ _ h => h) (Or.inr ⟨by rfl, rfl⟩) (by assumption) ?_
          try simp only [Act.put, List.setIfInBounds_toArray, List.set_cons_zero, List.set_cons_succ]
          refine wpAnyH_take (i := 19) (oi := { dst := some 29, op := Op.move (Operand.tmp 28), type := 4, pos := "l3_project.go:8", after := #[{ on := 18, ground := Ground.data }, { on := 16, ground := Ground.chain }, { on := 16, ground := Ground.guard }], guard := some (16, false) }) (v := undef) rfl (by kernel_rfl) (by kernel_rfl) (by kernel_rfl) (fun _ _ _ h => h) (Or.inr ⟨by rfl, rfl⟩) (by assumption) ?_
          try simp only [Act.put, List.setIfInBounds_toArray, List.set_cons_zero, List.set_cons_succ]
          refine wpAnyH_take (i := 20) (oi := { dst := some 30, op := Op.move (Operand.tmp 0), type := 24, pos := "l3_project.go:8", after := #[{ on := 19, ground := Ground.guard }], guard := some (19, true) }) (v := undef) rfl (by kernel_rfl) (by kernel_rfl) (by kernel_rfl) (fun _ _ _ h => h) (Or.inr ⟨by rfl, rfl⟩) (by assumption) ?_
          try simp only [Act.put, List.setIfInBounds_toArray, List.set_cons_zero, List.set_cons_succ]
          refine wpAnyH_take (i := 21) (oi := { dst := some 31, op := Op.move (Operand.tmp 3), type := 3, pos := "l3_project.go:8", after := #[{ on := 19, ground := Ground.guard }], guard := some (19, true) }) (v := undef) rfl (by kernel_rfl) (by kernel_rfl) (by kernel_rfl) (fun _ _ _ h => h) (Or.inr ⟨by rfl, rfl⟩) (by assumption) ?_
          try simp only [Act.put, List.setIfInBounds_toArray, List.set_cons_zero, List.set_cons_succ]
          refine wpAnyH_take (i := 22) (oi := { dst := some 32, op := Op.binOp BinOp.sub 3 (Operand.tmp 31) (Operand.const (Value.int IntKind.i64 1)) 3, type := 3, pos := "l3_project.go:8", after := #[{ on := 21, ground := Ground.data }, { on := 19, ground := Ground.guard }], guard := some (19, true) }) (v := undef) rfl (by kernel_rfl) (by kernel_rfl) (by kernel_rfl) (fun _ _ _ h => h) (Or.inr ⟨by rfl, rfl⟩) (by assumption) ?_
          try simp only [Act.put, List.setIfInBounds_toArray, List.set_cons_zero, List.set_cons_succ]
          refine wpAnyH_take (i := 23) (oi := { dst := some 33, op := Op.indexAddr 24 (Operand.tmp 30) (Operand.tmp 32), type := 0, pos := "l3_project.go:8", after := #[{ on := 20, ground := Ground.data }, { on := 22, ground := Ground.data }, { on := 19, ground := Ground.guard }], guard := some (19, true) }) (v := undef) rfl (by kernel_rfl) (by kernel_rfl) (by kernel_rfl) (fun _ _ _ h => h) (Or.inr ⟨by rfl, rfl⟩) (by assumption) ?_
          try simp only [Act.put, List.setIfInBounds_toArray, List.set_cons_zero, List.set_cons_succ]
          refine wpAnyH_take (i := 24) (oi := { dst := some 34, op := Op.fieldAddr 45 (Operand.tmp 33) 0, type := 0, pos := "l3_project.go:8", after := #[{ on := 23, ground := Ground.data }, { on := 19, ground := Ground.guard }], guard := some (19, true) }) (v := undef) rfl (by kernel_rfl) (by kernel_rfl) (by kernel_rfl) (fun _ _ _ h => h) (Or.inr ⟨by rfl, rfl⟩) (by assumption) ?_
          try simp only [Act.put, List.setIfInBounds_toArray, List.set_cons_zero, List.set_cons_succ]
          refine wpAnyH_take (i := 25) (oi := { dst := some 35, op := Op.load 9 (Operand.tmp 34), type := 9, pos := "l3_project.go:8", after := #[{ on := 24, ground := Ground.data }, { on := 19, ground := Ground.guard }], guard := some (19, true) }) (v := undef) rfl (by kernel_rfl) (by kernel_rfl) (by kernel_rfl) (fun _ _ _ h => h) (Or.inr ⟨by rfl, rfl⟩) (by assumption) ?_
          try simp only [Act.put, List.setIfInBounds_toArray, List.set_cons_zero, List.set_cons_succ]
          refine wpAnyH_take (i := 26) (oi := { dst := some 36, op := Op.move (Operand.tmp 0), type := 24, pos := "l3_project.go:8", after := #[{ on := 19, ground := Ground.guard }], guard := some (19, true) }) (v := undef) rfl (by kernel_rfl) (by kernel_rfl) (by kernel_rfl) (fun _ _ _ h => h) (Or.inr ⟨by rfl, rfl⟩) (by assumption) ?_
          try simp only [Act.put, List.setIfInBounds_toArray, List.set_cons_zero, List.set_cons_succ]
          refine wpAnyH_take (i := 27) (oi := { dst := some 37, op := Op.move (Operand.tmp 3), type := 3, pos := "l3_project.go:8", after := #[{ on := 19, ground := Ground.guard }], guard := some (19, true) }) (v := undef) rfl (by kernel_rfl) (by kernel_rfl) (by kernel_rfl) (fun _ _ _ h => h) (Or.inr ⟨by rfl, rfl⟩) (by assumption) ?_
          try simp only [Act.put, List.setIfInBounds_toArray, List.set_cons_zero, List.set_cons_succ]
          refine wpAnyH_take (i := 28) (oi := { dst := some 38, op := Op.indexAddr 24 (Operand.tmp 36) (Operand.tmp 37), type := 0, pos := "l3_project.go:8", after := #[{ on := 26, ground := Ground.data }, { on := 27, ground := Ground.data }, { on := 19, ground := Ground.guard }], guard := some (19, true) }) (v := undef) rfl (by kernel_rfl) (by kernel_rfl) (by kernel_rfl) (fun _ _ _ h => h) (Or.inr ⟨by rfl, rfl⟩) (by assumption) ?_
          try simp only [Act.put, List.setIfInBounds_toArray, List.set_cons_zero, List.set_cons_succ]
          refine wpAnyH_take (i := 29) (oi := { dst := some 39, op := Op.fieldAddr 45 (Operand.tmp 38) 0, type := 0, pos := "l3_project.go:8", after := #[{ on := 28, ground := Ground.data }, { on := 19, ground := Ground.guard }], guard := some (19, true) }) (v := undef) rfl (by kernel_rfl) (by kernel_rfl) (by kernel_rfl) (fun _ _ _ h => h) (Or.inr ⟨by rfl, rfl⟩) (by assumption) ?_
          try simp only [Act.put, List.setIfInBounds_toArray, List.set_cons_zero, List.set_cons_succ]
          refine wpAnyH_take (i := 30) (oi := { dst := some 40, op := Op.load 9 (Operand.tmp 39), type := 9, pos := "l3_project.go:8", after := #[{ on := 29, ground := Ground.data }, { on := 19, ground := Ground.guard }], guard := some (19, true) }) (v := undef) rfl (by kernel_rfl) (by kernel_rfl) (by kernel_rfl) (fun _ _ _ h => h) (Or.inr ⟨by rfl, rfl⟩) (by assumption) ?_
          try simp only [Act.put, List.setIfInBounds_toArray, List.set_cons_zero, List.set_cons_succ]
          refine wpAnyH_take (i := 31) (oi := { dst := some 41, op := Op.binOp BinOp.geq 9 (Operand.tmp 35) (Operand.tmp 40) 9, type := 4, pos := "l3_project.go:8", after := #[{ on := 25, ground := Ground.data }, { on := 30, ground := Ground.data }, { on := 19, ground := Ground.guard }], guard := some (19, true) }) (v := undef) rfl (by kernel_rfl) (by kernel_rfl) (by kernel_rfl) (fun _ _ _ h => h) (Or.inr ⟨by rfl, rfl⟩) (by assumption) ?_
          try simp only [Act.put, List.setIfInBounds_toArray, List.set_cons_zero, List.set_cons_succ]
          refine wpAnyH_take (i := 32) (oi := { dst := some 42, op := Op.pick (Operand.tmp 29) (Operand.tmp 41) (Operand.const (Value.bool false)), type := 4, pos := "l3_project.go:8", after := #[{ on := 19, ground := Ground.data }, { on := 31, ground := Ground.data }, { on := 16, ground := Ground.guard }], guard := some (16, false) }) (v := undef) rfl (by kernel_rfl) (by kernel_rfl) (by kernel_rfl) (fun _ _ _ h => h) (Or.inr ⟨by rfl, rfl⟩) (by assumption) ?_
          try simp only [Act.put, List.setIfInBounds_toArray, List.set_cons_zero, List.set_cons_succ]
          refine wpAnyH_take (i := 33) (oi := { dst := some 43, op := Op.pick (Operand.tmp 26) (Operand.const (Value.bool true)) (Operand.tmp 42), type := 4, pos := "l3_project.go:8", after := #[{ on := 16, ground := Ground.data }, { on := 32, ground := Ground.data }], guard := none }) (v := ?vB33) rfl (by kernel_rfl) (by kernel_rfl) (by kernel_rfl) (fun _ _ _ h => h) (Or.inl ⟨by rfl, ?hyB33⟩) (by assumption) ?_
          case hyB33 =>
            intro W hSW
            try dsimp only at hSW
            go_simp
            try with_reducible rfl
          try simp only [Act.put, List.setIfInBounds_toArray, List.set_cons_zero, List.set_cons_succ]
          refine wpAnyH_done (by kernel_rfl) ?_ _
          all_goals go_wp2_with fail
          all_goals go_ret
          all_goals exact ⟨ret_bool Hno.out.symm, B4⟩
        | true =>
          cases j with
          | zero =>
            have Hst := Lib.hid (allTo_step Hok.out (show (ascAt rs 0 && bodyAt rs 0) = true by rw [rule_eq Hg.out (show ascAt rs 0 = true from rfl), hp, hve]; rfl))
            rw [Nat.zero_mul, Nat.add_zero] at hc0 hc1 hc2 hc3
            have hd : decide ((0 : Int) < 0) = false := rfl
            have HK0 := Lib.hid (show wr.drew.cell? ⟨b, off, none⟩ = some (.string t) ∧ wr.drew.cell? ⟨b, off + 1, none⟩ = some (.int .i64 k) ∧ wr.drew.cell? ⟨b, off + 2, none⟩ = some (.string s) ∧ wr.drew.cell? ⟨b, off + 3, none⟩ = some (.slice a' n' c') from ⟨hc0, hc1, hc2, hc3⟩)
            go_wp2_with fail
            refine wp_region_held_drew (S := (fun w' => w'.cell? ⟨b, off, none⟩ = some (.string t) ∧ w'.cell? ⟨b, off + 1, none⟩ = some (.int .i64 k) ∧ w'.cell? ⟨b, off + 2, none⟩ = some (.string s) ∧ w'.cell? ⟨b, off + 3, none⟩ = some (.slice a' n' c'))) (by kernel_rfl) HK0.out (fun hHeld => ?_)
            refine wpAnyH_take (i := 0) (oi := { dst := some 10, op := Op.move (Operand.tmp 0), type := 24, pos := "l3_project.go:8", after := #[], guard := none }) (v := ?vC0) rfl (by kernel_rfl) (by kernel_rfl) (by kernel_rfl) (fun _ _ _ h => h) (Or.inl ⟨by rfl, ?hyC0⟩) (by assumption) ?_
            case hyC0 =>
              intro W hSW
              try dsimp only at hSW
              go_simp
              try with_reducible rfl
            try simp only [Act.put, List.setIfInBounds_toArray, List.set_cons_zero, List.set_cons_succ]
            refine wpAnyH_take (i := 1) (oi := { dst := some 11, op := Op.move (Operand.tmp 3), type := 3, pos := "l3_project.go:8", after := #[], guard := none }) (v := ?vC1) rfl (by kernel_rfl) (by kernel_rfl) (by kernel_rfl) (fun _ _ _ h => h) (Or.inl ⟨by rfl, ?hyC1⟩) (by assumption) ?_
            case hyC1 =>
              intro W hSW
              try dsimp only at hSW
              go_simp
              try with_reducible rfl
            try simp only [Act.put, List.setIfInBounds_toArray, List.set_cons_zero, List.set_cons_succ]
            refine wpAnyH_take (i := 2) (oi := { dst := some 12, op := Op.indexAddr 24 (Operand.tmp 10) (Operand.tmp 11), type := 0, pos := "l3_project.go:8", after := #[{ on := 0, ground := Ground.data }, { on := 1, ground := Ground.data }], guard := none }) (v := ?vC2) rfl (by kernel_rfl) (by kernel_rfl) (by kernel_rfl) (fun _ _ _ h => h) (Or.inl ⟨by rfl, ?hyC2⟩) (by assumption) ?_
            case hyC2 =>
              intro W hSW
              try dsimp only at hSW
              go_simp
              try with_reducible rfl
            try simp only [Act.put, List.setIfInBounds_toArray, List.set_cons_zero, List.set_cons_succ]
            refine wpAnyH_take (i := 3) (oi := { dst := some 13, op := Op.fieldAddr 45 (Operand.tmp 12) 0, type := 0, pos := "l3_project.go:8", after := #[{ on := 2, ground := Ground.data }], guard := none }) (v := ?vC3) rfl (by kernel_rfl) (by kernel_rfl) (by kernel_rfl) (fun _ _ _ h => h) (Or.inl ⟨by rfl, ?hyC3⟩) (by assumption) ?_
            case hyC3 =>
              intro W hSW
              try dsimp only at hSW
              go_simp
              try with_reducible rfl
            try simp only [Act.put, List.setIfInBounds_toArray, List.set_cons_zero, List.set_cons_succ]
            refine wpAnyH_take (i := 4) (oi := { dst := some 14, op := Op.load 9 (Operand.tmp 13), type := 9, pos := "l3_project.go:8", after := #[{ on := 3, ground := Ground.data }], guard := none }) (v := ?vC4) rfl (by kernel_rfl) (by kernel_rfl) (by kernel_rfl) (fun _ _ _ h => h) (Or.inl ⟨by rfl, ?hyC4⟩) (by assumption) ?_
            case hyC4 =>
              intro W hSW
              try dsimp only at hSW
              go_simp
              try with_reducible rfl
            try simp only [Act.put, List.setIfInBounds_toArray, List.set_cons_zero, List.set_cons_succ]
            refine wpAnyH_ready (rs := [5]) (by kernel_rfl) (by simp) ?_
            refine AllReadyH.cons (o := { dst := some 15, op := Op.call { callee := Callee.value (Operand.func 85), args := #[Operand.tmp 14], argTypes := #[9] }, type := 4, pos := "l3_project.go:8", after := #[{ on := 4, ground := Ground.data }], guard := none }) rfl (fun K hK => ?_) AllReadyH.nil
            go_simp
            refine (pathS_is t _ hfit.1 hp).mono ?_
            rintro e w9 ⟨rfl, rfl⟩
            dsimp only
            refine hK.out _ _ HK0.out (fun _ => ?_)
            clear hK K
            try simp only [Act.put, List.setIfInBounds_toArray, List.set_cons_zero, List.set_cons_succ]
            refine wpAnyH_take (i := 6) (oi := { dst := some 16, op := Op.unOp UnOp.not 4 (Operand.tmp 15), type := 4, pos := "l3_project.go:8", after := #[{ on := 5, ground := Ground.data }], guard := none }) (v := ?vC6) rfl (by kernel_rfl) (by kernel_rfl) (by kernel_rfl) (fun _ _ _ h => h) (Or.inl ⟨by rfl, ?hyC6⟩) (by assumption) ?_
            case hyC6 =>
              intro W hSW
              try dsimp only at hSW
              go_simp
              try with_reducible rfl
            try simp only [Act.put, List.setIfInBounds_toArray, List.set_cons_zero, List.set_cons_succ]
            refine wpAnyH_take (i := 7) (oi := { dst := some 17, op := Op.move (Operand.tmp 16), type := 4, pos := "l3_project.go:8", after := #[{ on := 6, ground := Ground.data }, { on := 5, ground := Ground.chain }], guard := none }) (v := ?vC7) rfl (by kernel_rfl) (by kernel_rfl) (by kernel_rfl) (fun _ _ _ h => h) (Or.inl ⟨by rfl, ?hyC7⟩) (by assumption) ?_
            case hyC7 =>
              intro W hSW
              try dsimp only at hSW
              go_simp
              try with_reducible rfl
            try simp only [Act.put, List.setIfInBounds_toArray, List.set_cons_zero, List.set_cons_succ]
            refine wpAnyH_take (i := 8) (oi := { dst := some 18, op := Op.move (Operand.tmp 0), type := 24, pos := "l3_project.go:8", after := #[{ on := 7, ground := Ground.guard }], guard := some (7, false) }) (v := ?vC8) rfl (by kernel_rfl) (by kernel_rfl) (by kernel_rfl) (fun _ _ _ h => h) (Or.inl ⟨by rfl, ?hyC8⟩) (by assumption) ?_
            case hyC8 =>
              intro W hSW
              try dsimp only at hSW
              go_simp
              try with_reducible rfl
            try simp only [Act.put, List.setIfInBounds_toArray, List.set_cons_zero, List.set_cons_succ]
            refine wpAnyH_take (i := 9) (oi := { dst := some 19, op := Op.move (Operand.tmp 3), type := 3, pos := "l3_project.go:8", after := #[{ on := 7, ground := Ground.guard }], guard := some (7, false) }) (v := ?vC9) rfl (by kernel_rfl) (by kernel_rfl) (by kernel_rfl) (fun _ _ _ h => h) (Or.inl ⟨by rfl, ?hyC9⟩) (by assumption) ?_
            case hyC9 =>
              intro W hSW
              try dsimp only at hSW
              go_simp
              try with_reducible rfl
            try simp only [Act.put, List.setIfInBounds_toArray, List.set_cons_zero, List.set_cons_succ]
            refine wpAnyH_take (i := 10) (oi := { dst := some 20, op := Op.indexAddr 24 (Operand.tmp 18) (Operand.tmp 19), type := 0, pos := "l3_project.go:8", after := #[{ on := 8, ground := Ground.data }, { on := 9, ground := Ground.data }, { on := 7, ground := Ground.guard }], guard := some (7, false) }) (v := ?vC10) rfl (by kernel_rfl) (by kernel_rfl) (by kernel_rfl) (fun _ _ _ h => h) (Or.inl ⟨by rfl, ?hyC10⟩) (by assumption) ?_
            case hyC10 =>
              intro W hSW
              try dsimp only at hSW
              go_simp
              try with_reducible rfl
            try simp only [Act.put, List.setIfInBounds_toArray, List.set_cons_zero, List.set_cons_succ]
            refine wpAnyH_take (i := 11) (oi := { dst := some 21, op := Op.fieldAddr 45 (Operand.tmp 20) 1, type := 0, pos := "l3_project.go:8", after := #[{ on := 10, ground := Ground.data }, { on := 7, ground := Ground.guard }], guard := some (7, false) }) (v := ?vC11) rfl (by kernel_rfl) (by kernel_rfl) (by kernel_rfl) (fun _ _ _ h => h) (Or.inl ⟨by rfl, ?hyC11⟩) (by assumption) ?_
            case hyC11 =>
              intro W hSW
              try dsimp only at hSW
              go_simp
              try with_reducible rfl
            try simp only [Act.put, List.setIfInBounds_toArray, List.set_cons_zero, List.set_cons_succ]
            refine wpAnyH_take (i := 12) (oi := { dst := some 22, op := Op.load 43 (Operand.tmp 21), type := 43, pos := "l3_project.go:8", after := #[{ on := 11, ground := Ground.data }, { on := 7, ground := Ground.guard }], guard := some (7, false) }) (v := ?vC12) rfl (by kernel_rfl) (by kernel_rfl) (by kernel_rfl) (fun _ _ _ h => h) (Or.inl ⟨by rfl, ?hyC12⟩) (by assumption) ?_
            case hyC12 =>
              intro W hSW
              try dsimp only at hSW
              go_simp
              try with_reducible rfl
            try simp only [Act.put, List.setIfInBounds_toArray, List.set_cons_zero, List.set_cons_succ]
            refine wpAnyH_ready (rs := [13]) (by kernel_rfl) (by simp) ?_
            refine AllReadyH.cons (o := { dst := some 23, op := Op.call { callee := Callee.value (Operand.func 75), args := #[Operand.tmp 22], argTypes := #[43] }, type := 4, pos := "l3_project.go:8", after := #[{ on := 12, ground := Ground.data }, { on := 7, ground := Ground.chain }, { on := 7, ground := Ground.guard }], guard := some (7, false) }) rfl (fun K hK => ?_) AllReadyH.nil
            go_simp
            refine (validSE_any k s ks a' n' c' _ hkD hfit.2.1 hfit.2.2.2 (by rw [← hkn]; exact hfit.2.2.1) hksz).mono ?_
            rintro e w4 ⟨rfl, hB4⟩
            rw [hve]
            have B4 := BD.trans (hB4.mono BD.size)
            clear hHeld
            dsimp only
            refine hK.out _ _ ⟨(hB4.cell (p := ⟨b, off, none⟩) hbD).trans hc0, (hB4.cell (p := ⟨b, off + 1, none⟩) hbD).trans hc1, (hB4.cell (p := ⟨b, off + 2, none⟩) hbD).trans hc2, (hB4.cell (p := ⟨b, off + 3, none⟩) hbD).trans hc3⟩ (fun hHeld => ?_)
            clear hK K
            try simp only [Act.put, List.setIfInBounds_toArray, List.set_cons_zero, List.set_cons_succ]
            refine wpAnyH_take (i := 14) (oi := { dst := some 24, op := Op.unOp UnOp.not 4 (Operand.tmp 23), type := 4, pos := "l3_project.go:8", after := #[{ on := 13, ground := Ground.data }, { on := 7, ground := Ground.guard }], guard := some (7, false) }) (v := ?vC14) rfl (by kernel_rfl) (by kernel_rfl) (by kernel_rfl) (fun _ _ _ h => h) (Or.inl ⟨by rfl, ?hyC14⟩) (by assumption) ?_
            case hyC14 =>
              intro W hSW
              try dsimp only at hSW
              go_simp
              try with_reducible rfl
            try simp only [Act.put, List.setIfInBounds_toArray, List.set_cons_zero, List.set_cons_succ]
            refine wpAnyH_take (i := 15) (oi := { dst := some 25, op := Op.pick (Operand.tmp 17) (Operand.const (Value.bool true)) (Operand.tmp 24), type := 4, pos := "l3_project.go:8", after := #[{ on := 7, ground := Ground.data }, { on := 14, ground := Ground.data }], guard := none }) (v := ?vC15) rfl (by kernel_rfl) (by kernel_rfl) (by kernel_rfl) (fun _ _ _ h => h) (Or.inl ⟨by rfl, ?hyC15⟩) (by assumption) ?_
            case hyC15 =>
              intro W hSW
              try dsimp only at hSW
              go_simp
              try with_reducible rfl
            try simp only [Act.put, List.setIfInBounds_toArray, List.set_cons_zero, List.set_cons_succ]
            refine wpAnyH_take (i := 16) (oi := { dst := some 26, op := Op.move (Operand.tmp 25), type := 4, pos := "l3_project.go:8", after := #[{ on := 15, ground := Ground.data }, { on := 13, ground := Ground.chain }], guard := none }) (v := ?vC16) rfl (by kernel_rfl) (by kernel_rfl) (by kernel_rfl) (fun _ _ _ h => h) (Or.inl ⟨by rfl, ?hyC16⟩) (by assumption) ?_
            case hyC16 =>
              intro W hSW
              try dsimp only at hSW
              go_simp
              try with_reducible rfl
            try simp only [Act.put, List.setIfInBounds_toArray, List.set_cons_zero, List.set_cons_succ]
            refine wpAnyH_take (i := 17) (oi := { dst := some 27, op := Op.move (Operand.tmp 3), type := 3, pos := "l3_project.go:8", after := #[{ on := 16, ground := Ground.guard }], guard := some (16, false) }) (v := ?vC17) rfl (by kernel_rfl) (by kernel_rfl) (by kernel_rfl) (fun _ _ _ h => h) (Or.inl ⟨by rfl, ?hyC17⟩) (by assumption) ?_
            case hyC17 =>
              intro W hSW
              try dsimp only at hSW
              go_simp
              try with_reducible rfl
            try simp only [Act.put, List.setIfInBounds_toArray, List.set_cons_zero, List.set_cons_succ]
            refine wpAnyH_take (i := 18) (oi := { dst := some 28, op := Op.binOp BinOp.gtr 3 (Operand.tmp 27) (Operand.const (Value.int IntKind.i64 0)) 3, type := 4, pos := "l3_project.go:8", after := #[{ on := 17, ground := Ground.data }, { on := 16, ground := Ground.guard }], guard := some (16, false) }) (v := ?vC18) rfl (by kernel_rfl) (by kernel_rfl) (by kernel_rfl) (fun _ _ _ h => h) (Or.inl ⟨by rfl, ?hyC18⟩) (by assumption) ?_
            case hyC18 =>
              intro W hSW
              try dsimp only at hSW
              go_simp
              try with_reducible rfl
            try simp only [Act.put, List.setIfInBounds_toArray, List.set_cons_zero, List.set_cons_succ]
            refine wpAnyH_take (i := 19) (oi := { dst := some 29, op := Op.move (Operand.tmp 28), type := 4, pos := "l3_project.go:8", after := #[{ on := 18, ground := Ground.data }, { on := 16, ground := Ground.chain }, { on := 16, ground := Ground.guard }], guard := some (16, false) }) (v := ?vC19) rfl (by kernel_rfl) (by kernel_rfl) (by kernel_rfl) (fun _ _ _ h => h) (Or.inl ⟨by rfl, ?hyC19⟩) (by assumption) ?_
            case hyC19 =>
              intro W hSW
              try dsimp only at hSW
              go_simp
              try with_reducible rfl
            try simp only [Act.put, List.setIfInBounds_toArray, List.set_cons_zero, List.set_cons_succ]
            refine wpAnyH_take (i := 20) (oi := { dst := some 30, op := Op.move (Operand.tmp 0), type := 24, pos := "l3_project.go:8", after := #[{ on := 19, ground := Ground.guard }], guard := some (19, true) }) (v := undef) rfl (by kernel_rfl) (by kernel_rfl) (by kernel_rfl) (fun _ _ _ h => h) (Or.inr ⟨by rfl, rfl⟩) (by assumption) ?_
            try simp only [Act.put, List.setIfInBounds_toArray, List.set_cons_zero, List.set_cons_succ]
            refine wpAnyH_take (i := 21) (oi := { dst := some 31, op := Op.move (Operand.tmp 3), type := 3, pos := "l3_project.go:8", after := #[{ on := 19, ground := Ground.guard }], guard := some (19, true) }) (v := undef) rfl (by kernel_rfl) (by kernel_rfl) (by kernel_rfl) (fun _ _ _ h => h) (Or.inr ⟨by rfl, rfl⟩) (by assumption) ?_
            try simp only [Act.put, List.setIfInBounds_toArray, List.set_cons_zero, List.set_cons_succ]
            refine wpAnyH_take (i := 22) (oi := { dst := some 32, op := Op.binOp BinOp.sub 3 (Operand.tmp 31) (Operand.const (Value.int IntKind.i64 1)) 3, type := 3, pos := "l3_project.go:8", after := #[{ on := 21, ground := Ground.data }, { on := 19, ground := Ground.guard }], guard := some (19, true) }) (v := undef) rfl (by kernel_rfl) (by kernel_rfl) (by kernel_rfl) (fun _ _ _ h => h) (Or.inr ⟨by rfl, rfl⟩) (by assumption) ?_
            try simp only [Act.put, List.setIfInBounds_toArray, List.set_cons_zero, List.set_cons_succ]
            refine wpAnyH_take (i := 23) (oi := { dst := some 33, op := Op.indexAddr 24 (Operand.tmp 30) (Operand.tmp 32), type := 0, pos := "l3_project.go:8", after := #[{ on := 20, ground := Ground.data }, { on := 22, ground := Ground.data }, { on := 19, ground := Ground.guard }], guard := some (19, true) }) (v := undef) rfl (by kernel_rfl) (by kernel_rfl) (by kernel_rfl) (fun _ _ _ h => h) (Or.inr ⟨by rfl, rfl⟩) (by assumption) ?_
            try simp only [Act.put, List.setIfInBounds_toArray, List.set_cons_zero, List.set_cons_succ]
            refine wpAnyH_take (i := 24) (oi := { dst := some 34, op := Op.fieldAddr 45 (Operand.tmp 33) 0, type := 0, pos := "l3_project.go:8", after := #[{ on := 23, ground := Ground.data }, { on := 19, ground := Ground.guard }], guard := some (19, true) }) (v := undef) rfl (by kernel_rfl) (by kernel_rfl) (by kernel_rfl) (fun _ _ _ h => h) (Or.inr ⟨by rfl, rfl⟩) (by assumption) ?_
            try simp only [Act.put, List.setIfInBounds_toArray, List.set_cons_zero, List.set_cons_succ]
            refine wpAnyH_take (i := 25) (oi := { dst := some 35, op := Op.load 9 (Operand.tmp 34), type := 9, pos := "l3_project.go:8", after := #[{ on := 24, ground := Ground.data }, { on := 19, ground := Ground.guard }], guard := some (19, true) }) (v := undef) rfl (by kernel_rfl) (by kernel_rfl) (by kernel_rfl) (fun _ _ _ h => h) (Or.inr ⟨by rfl, rfl⟩) (by assumption) ?_
            try simp only [Act.put, List.setIfInBounds_toArray, List.set_cons_zero, List.set_cons_succ]
            refine wpAnyH_take (i := 26) (oi := { dst := some 36, op := Op.move (Operand.tmp 0), type := 24, pos := "l3_project.go:8", after := #[{ on := 19, ground := Ground.guard }], guard := some (19, true) }) (v := undef) rfl (by kernel_rfl) (by kernel_rfl) (by kernel_rfl) (fun _ _ _ h => h) (Or.inr ⟨by rfl, rfl⟩) (by assumption) ?_
            try simp only [Act.put, List.setIfInBounds_toArray, List.set_cons_zero, List.set_cons_succ]
            refine wpAnyH_take (i := 27) (oi := { dst := some 37, op := Op.move (Operand.tmp 3), type := 3, pos := "l3_project.go:8", after := #[{ on := 19, ground := Ground.guard }], guard := some (19, true) }) (v := undef) rfl (by kernel_rfl) (by kernel_rfl) (by kernel_rfl) (fun _ _ _ h => h) (Or.inr ⟨by rfl, rfl⟩) (by assumption) ?_
            try simp only [Act.put, List.setIfInBounds_toArray, List.set_cons_zero, List.set_cons_succ]
            refine wpAnyH_take (i := 28) (oi := { dst := some 38, op := Op.indexAddr 24 (Operand.tmp 36) (Operand.tmp 37), type := 0, pos := "l3_project.go:8", after := #[{ on := 26, ground := Ground.data }, { on := 27, ground := Ground.data }, { on := 19, ground := Ground.guard }], guard := some (19, true) }) (v := undef) rfl (by kernel_rfl) (by kernel_rfl) (by kernel_rfl) (fun _ _ _ h => h) (Or.inr ⟨by rfl, rfl⟩) (by assumption) ?_
            try simp only [Act.put, List.setIfInBounds_toArray, List.set_cons_zero, List.set_cons_succ]
            refine wpAnyH_take (i := 29) (oi := { dst := some 39, op := Op.fieldAddr 45 (Operand.tmp 38) 0, type := 0, pos := "l3_project.go:8", after := #[{ on := 28, ground := Ground.data }, { on := 19, ground := Ground.guard }], guard := some (19, true) }) (v := undef) rfl (by kernel_rfl) (by kernel_rfl) (by kernel_rfl) (fun _ _ _ h => h) (Or.inr ⟨by rfl, rfl⟩) (by assumption) ?_
            try simp only [Act.put, List.setIfInBounds_toArray, List.set_cons_zero, List.set_cons_succ]
            refine wpAnyH_take (i := 30) (oi := { dst := some 40, op := Op.load 9 (Operand.tmp 39), type := 9, pos := "l3_project.go:8", after := #[{ on := 29, ground := Ground.data }, { on := 19, ground := Ground.guard }], guard := some (19, true) }) (v := undef) rfl (by kernel_rfl) (by kernel_rfl) (by kernel_rfl) (fun _ _ _ h => h) (Or.inr ⟨by rfl, rfl⟩) (by assumption) ?_
            try simp only [Act.put, List.setIfInBounds_toArray, List.set_cons_zero, List.set_cons_succ]
            refine wpAnyH_take (i := 31) (oi := { dst := some 41, op := Op.binOp BinOp.geq 9 (Operand.tmp 35) (Operand.tmp 40) 9, type := 4, pos := "l3_project.go:8", after := #[{ on := 25, ground := Ground.data }, { on := 30, ground := Ground.data }, { on := 19, ground := Ground.guard }], guard := some (19, true) }) (v := undef) rfl (by kernel_rfl) (by kernel_rfl) (by kernel_rfl) (fun _ _ _ h => h) (Or.inr ⟨by rfl, rfl⟩) (by assumption) ?_
            try simp only [Act.put, List.setIfInBounds_toArray, List.set_cons_zero, List.set_cons_succ]
            refine wpAnyH_take (i := 32) (oi := { dst := some 42, op := Op.pick (Operand.tmp 29) (Operand.tmp 41) (Operand.const (Value.bool false)), type := 4, pos := "l3_project.go:8", after := #[{ on := 19, ground := Ground.data }, { on := 31, ground := Ground.data }, { on := 16, ground := Ground.guard }], guard := some (16, false) }) (v := ?vC32) rfl (by kernel_rfl) (by kernel_rfl) (by kernel_rfl) (fun _ _ _ h => h) (Or.inl ⟨by rfl, ?hyC32⟩) (by assumption) ?_
            case hyC32 =>
              intro W hSW
              try dsimp only at hSW
              go_simp
              try with_reducible rfl
            try simp only [Act.put, List.setIfInBounds_toArray, List.set_cons_zero, List.set_cons_succ]
            refine wpAnyH_take (i := 33) (oi := { dst := some 43, op := Op.pick (Operand.tmp 26) (Operand.const (Value.bool true)) (Operand.tmp 42), type := 4, pos := "l3_project.go:8", after := #[{ on := 16, ground := Ground.data }, { on := 32, ground := Ground.data }], guard := none }) (v := ?vC33) rfl (by kernel_rfl) (by kernel_rfl) (by kernel_rfl) (fun _ _ _ h => h) (Or.inl ⟨by rfl, ?hyC33⟩) (by assumption) ?_
            case hyC33 =>
              intro W hSW
              try dsimp only at hSW
              go_simp
              try with_reducible rfl
            try simp only [Act.put, List.setIfInBounds_toArray, List.set_cons_zero, List.set_cons_succ]
            refine wpAnyH_done (by kernel_rfl) ?_ _
            all_goals go_wp2_with fail
            all_goals exact ⟨⟨0 + 1, by omega, by go_num, Hst.out, B4⟩, by simp [intOf]; omega⟩
          | succ j =>
            obtain ⟨b2, off2, t2, k2, s2, ks2, a2', n2', c2', he, _, _, hq, hq0, _⟩ := (hr.next hB).get (j := j) (by omega)
            simp only [Option.some.injEq, Addr.mk.injEq, and_true] at he
            obtain ⟨rfl, rfl⟩ := he
            have hp0 : (0 : Int) < ((j + 1 : Nat) : Int) := by omega
            have hi1 : (0 : Int) ≤ (j : Int) + 1 := by omega
            have hi2 : (j : Int) + 1 < (n : Int) := by omega
            have hi3 : (0 : Int) ≤ (j : Int) := by omega
            have hi4 : (j : Int) < (n : Int) := by omega
            have hi5 : IntKind.i64.wrap (j : Int) = j := IntWalk.i64_in _ (by omega)
            have hi6 : ((j : Int) + 1).toNat = j + 1 := by omega
            have hasc : ascAt rs (j + 1) = Op.bytesLess t2.toList t.toList := by
              unfold ascAt
              rw [show j + 1 - 1 = j from rfl, ruGet_of hq, ruGet_of Hg.out]
              rfl
            clear hq
            cases hl : Op.bytesLess t2.toList t.toList with
            | false =>
              have hfalse : (ascAt rs (j + 1) && bodyAt rs (j + 1)) = false := by rw [rule_eq Hg.out (hasc.trans hl)]; rfl
              have Hno := Lib.hid (show rulesB rs = false by unfold rulesB; rw [allTo_false (n := rs.length) (k := j + 1) (by omega) hfalse]; rfl)
              clear hfalse hasc
              have HK0 := Lib.hid (show wr.drew.cell? ⟨b, off + (j + 1) * 4, none⟩ = some (.string t) ∧ wr.drew.cell? ⟨b, off + (j + 1) * 4 + 1, none⟩ = some (.int .i64 k) ∧ wr.drew.cell? ⟨b, off + (j + 1) * 4 + 2, none⟩ = some (.string s) ∧ wr.drew.cell? ⟨b, off + (j + 1) * 4 + 3, none⟩ = some (.slice a' n' c') ∧ wr.drew.cell? ⟨b, off + j * 4, none⟩ = some (.string t2) from ⟨hc0, hc1, hc2, hc3, hq0⟩)
              go_wp2_with fail
              go_region_held3 (fun w' => w'.cell? ⟨b, off + (j + 1) * 4, none⟩ = some (.string t) ∧ w'.cell? ⟨b, off + (j + 1) * 4 + 1, none⟩ = some (.int .i64 k) ∧ w'.cell? ⟨b, off + (j + 1) * 4 + 2, none⟩ = some (.string s) ∧ w'.cell? ⟨b, off + (j + 1) * 4 + 3, none⟩ = some (.slice a' n' c') ∧ w'.cell? ⟨b, off + j * 4, none⟩ = some (.string t2)) (first | exact HK0.out | exact HK1.out)
                    ((first
                      | (go_at_call 85; refine (pathS_is t _ hfit.1 hp).mono ?_; rintro e w9 ⟨rfl, rfl⟩)
                      | (go_at_call 75; refine (validSE_any k s ks a' n' c' _ hkD hfit.2.1 hfit.2.2.2 (by rw [← hkn]; exact hfit.2.2.1) hksz).mono ?_; rintro e w4 ⟨rfl, hB4⟩; rw [hve]; have B4 := BD.trans (hB4.mono BD.size); have HK1 := Lib.hid (show w4.cell? ⟨b, off + (j + 1) * 4, none⟩ = some (.string t) ∧ w4.cell? ⟨b, off + (j + 1) * 4 + 1, none⟩ = some (.int .i64 k) ∧ w4.cell? ⟨b, off + (j + 1) * 4 + 2, none⟩ = some (.string s) ∧ w4.cell? ⟨b, off + (j + 1) * 4 + 3, none⟩ = some (.slice a' n' c') ∧ w4.cell? ⟨b, off + j * 4, none⟩ = some (.string t2) from ⟨(hB4.cell (p := ⟨b, off + (j + 1) * 4, none⟩) hbD).trans hc0, (hB4.cell (p := ⟨b, off + (j + 1) * 4 + 1, none⟩) hbD).trans hc1, (hB4.cell (p := ⟨b, off + (j + 1) * 4 + 2, none⟩) hbD).trans hc2, (hB4.cell (p := ⟨b, off + (j + 1) * 4 + 3, none⟩) hbD).trans hc3, (hB4.cell (p := ⟨b, off + j * 4, none⟩) hbD).trans hq0⟩))))
              all_goals go_wp2_with fail
              all_goals go_ret
              all_goals exact ⟨ret_bool Hno.out.symm, B4⟩
            | true =>
              have Hst := Lib.hid (allTo_step Hok.out (show (ascAt rs (j + 1) && bodyAt rs (j + 1)) = true by rw [rule_eq Hg.out (hasc.trans hl), hp, hve]; rfl))
              clear hasc
              have HK0 := Lib.hid (show wr.drew.cell? ⟨b, off + (j + 1) * 4, none⟩ = some (.string t) ∧ wr.drew.cell? ⟨b, off + (j + 1) * 4 + 1, none⟩ = some (.int .i64 k) ∧ wr.drew.cell? ⟨b, off + (j + 1) * 4 + 2, none⟩ = some (.string s) ∧ wr.drew.cell? ⟨b, off + (j + 1) * 4 + 3, none⟩ = some (.slice a' n' c') ∧ wr.drew.cell? ⟨b, off + j * 4, none⟩ = some (.string t2) from ⟨hc0, hc1, hc2, hc3, hq0⟩)
              go_wp2_with fail
              go_region_held3 (fun w' => w'.cell? ⟨b, off + (j + 1) * 4, none⟩ = some (.string t) ∧ w'.cell? ⟨b, off + (j + 1) * 4 + 1, none⟩ = some (.int .i64 k) ∧ w'.cell? ⟨b, off + (j + 1) * 4 + 2, none⟩ = some (.string s) ∧ w'.cell? ⟨b, off + (j + 1) * 4 + 3, none⟩ = some (.slice a' n' c') ∧ w'.cell? ⟨b, off + j * 4, none⟩ = some (.string t2)) (first | exact HK0.out | exact HK1.out)
                    ((first
                      | (go_at_call 85; refine (pathS_is t _ hfit.1 hp).mono ?_; rintro e w9 ⟨rfl, rfl⟩)
                      | (go_at_call 75; refine (validSE_any k s ks a' n' c' _ hkD hfit.2.1 hfit.2.2.2 (by rw [← hkn]; exact hfit.2.2.1) hksz).mono ?_; rintro e w4 ⟨rfl, hB4⟩; rw [hve]; have B4 := BD.trans (hB4.mono BD.size); have HK1 := Lib.hid (show w4.cell? ⟨b, off + (j + 1) * 4, none⟩ = some (.string t) ∧ w4.cell? ⟨b, off + (j + 1) * 4 + 1, none⟩ = some (.int .i64 k) ∧ w4.cell? ⟨b, off + (j + 1) * 4 + 2, none⟩ = some (.string s) ∧ w4.cell? ⟨b, off + (j + 1) * 4 + 3, none⟩ = some (.slice a' n' c') ∧ w4.cell? ⟨b, off + j * 4, none⟩ = some (.string t2) from ⟨(hB4.cell (p := ⟨b, off + (j + 1) * 4, none⟩) hbD).trans hc0, (hB4.cell (p := ⟨b, off + (j + 1) * 4 + 1, none⟩) hbD).trans hc1, (hB4.cell (p := ⟨b, off + (j + 1) * 4 + 2, none⟩) hbD).trans hc2, (hB4.cell (p := ⟨b, off + (j + 1) * 4 + 3, none⟩) hbD).trans hc3, (hB4.cell (p := ⟨b, off + j * 4, none⟩) hbD).trans hq0⟩))))
              all_goals go_wp2_with fail
              all_goals exact ⟨⟨j + 1 + 1, by omega, by go_num, Hst.out, B4⟩, by simp [intOf]; omega⟩
    · have e : j = rs.length := by omega
      have hall : allTo (fun j => ascAt rs j && bodyAt rs j) rs.length = true := e ▸ Hok.out
      clear e
      go_wp2_with fail
      go_ret
      exact ⟨ret_bool (by unfold rulesB; rw [hall, hlen]; apply Bool.eq_iff_iff.2; simp; omega), hB⟩
end Go.Proofs.YtceiafncpimihaaGreat
