/-
  The program's map of files: what put, remove, newFileMap and files answer and leave.
-/
import Derived.Test.YteofldbkjnpmnaaGreatGone
import Derived.Maps.OwnSet
import Derived.Maps.StringElems
namespace Go.Proofs.YteofldbkjnpmnaaGreat
set_option linter.unusedVariables false
open Go.RowKit Go.Maps

theorem mlaw : Keyed Tryz.prog 9 := string_keyed Tryz.underlying9
theorem mzero (w : World) : (zeroValue 9).run Tryz.prog w = .ok (.string .empty) w := by kernel_rfl

/-- block b is a map of at most n entries that holds just the files gs -/
def MapAt (w : World) (b n : Nat) (gs : List Fl) : Prop := ∃ D : DataW Unit, w.ownsMap Tryz.prog 9 (plainElem Tryz.prog 9) b n D ∧ Rep D gs
theorem MapAt.kept {w w' : World} {b n : Nat} {gs : List Fl} {row : Option Nat} (h : MapAt w b n gs) (hg : w.grownBy w' row) (hne : some b ≠ row) : MapAt w' b n gs := by
  obtain ⟨D, h1, h2⟩ := h
  exact ⟨D, h1.kept hg hne, h2⟩
theorem MapAt.alloc {w : World} {b n : Nat} {gs : List Fl} (h : MapAt w b n gs) (o : Obj) : MapAt (w.alloc o) b n gs := h.kept (World.grownBy_alloc w o none) (by simp)
theorem MapAt.perm {w : World} {b n : Nat} {gs hs : List Fl} (h : MapAt w b n gs) (hp : gs.Perm hs) : MapAt w b n hs := by
  obtain ⟨D, h1, h2⟩ := h
  exact ⟨D, h1, h2.perm hp⟩
theorem MapAt.lt {w : World} {b n : Nat} {gs : List Fl} (h : MapAt w b n gs) : b < w.heap.size := let ⟨_, h1, _⟩ := h; h1.lt
theorem MapAt.length {w : World} {b n : Nat} {gs : List Fl} (h : MapAt w b n gs) : gs.length ≤ n := by
  obtain ⟨D, h1, h2⟩ := h
  rw [← h2.size]; exact h1.size_le

set_option maxHeartbeats 400000 in
theorem mput_any (b n : Nat) (gs : List Fl) (p t : ByteArray) (w : World) (h : MapAt w b n gs) (hn : n ≤ 1048576) (hp : p.size ≤ maxLen) (ht : t.size ≤ maxLen) :
    Calls Tryz.prog 64 #[.map (some b), .agg #[.string p, .string t]] w fun e w' =>
      e = .returned (.tuple #[]) ∧ MapAt w' b (n + 1) (putU (p, t) gs) ∧ w.grownBy w' (some b) := by
  obtain ⟨D, hown, hrep⟩ := h
  have hkey := Lib.hid (WideMaps.keyOf_string_mk (P := Tryz.prog) Tryz.underlying9 hp)
  have hval := Lib.hid (plainElem_string (H := Unit) (P := Tryz.prog) Tryz.underlying9 ht)
  clear hp ht
  go_enter Tryz.func64, Tryz.ntmps64
  go_wp2_with (at_mapUpdate; refine wpList_mapUpdate_own _ rfl _ _ _ 95 rfl 9 9 mlaw Tryz.underlying95 _ b n D rfl (hown.alloc _) (by simp only [maxLen]; omega) _ _ _ rfl rfl hkey.out _ _ hval.out ?_; intro w1 hown1 hgrow1)
  go_end0
  exact ⟨rfl, ⟨_, hown1, hrep.put (p, t)⟩, (World.grownBy_alloc w _ _).trans hgrow1⟩

/-- is a file with this path on the list? -/
def hasF (gs : List Fl) (x : ByteArray) : Bool := gs.any fun g => decide (g.1 = x)

set_option maxHeartbeats 400000 in
theorem mremove_any (b n : Nat) (gs : List Fl) (x : ByteArray) (w : World) (h : MapAt w b n gs) (hx : x.size ≤ maxLen) :
    Calls Tryz.prog 70 #[.map (some b), .string x] w fun e w' =>
      e = .returned (.bool (hasF gs x)) ∧ MapAt w' b n (delU x gs) ∧ w.grownBy w' (some b) := by
  obtain ⟨D, hown, hrep⟩ := h
  have hkey := Lib.hid (WideMaps.keyOf_string_mk (P := Tryz.prog) Tryz.underlying9 hx)
  have hzd := Lib.hid (plainElem_string (H := Unit) (P := Tryz.prog) Tryz.underlying9 (s := .empty) (by simp [maxLen]))
  have hhas := Lib.hid (hrep.has x)
  clear hx
  go_enter Tryz.func70, Tryz.ntmps70
  go_wp2_with (first
    | (at_lookup; refine wpList_lookup_own_ok _ rfl _ _ 95 rfl 9 9 mlaw Tryz.underlying95 _ (mzero _) _ _ hzd.out b n D rfl hown _ _ rfl hkey.out ?_; intro v ps hv; have Hv := Lib.hid hv; clear hv)
    | (at_delete; refine wpList_delete_own _ rfl _ _ 95 9 rfl 9 mlaw Tryz.underlying95 _ b n D rfl hown _ _ rfl hkey.out ?_; intro w1 hown1 hturn1))
  go_ret
  exact ⟨ret_bool hhas.out, ⟨_, hown1, hrep.del x⟩, hturn1.grown⟩

theorem once_take {fs : List Fl} (h : Once fs) (k : Nat) : Once (fs.take k) := List.Pairwise.take h
theorem putU_take {fs : List Fl} {k : Nat} {p t : ByteArray} (h : Once fs) (hg : fs[k]? = some (p, t)) : (putU (p, t) (fs.take k)).Perm (fs.take (k + 1)) := by
  rw [List.take_add_one, hg]
  refine putU_new fun g hm => ?_
  have h2 := once_take h (k + 1)
  rw [List.take_add_one, hg] at h2
  exact (List.pairwise_append.1 h2).2.2 g hm (p, t) (by simp)

theorem run_makeMap_n {P : Program} (t k e : TypeId) (ht : P.underlying t = some (.map k e)) (n : Nat) (w : World) : (Instr.makeMap t (some (.int .i64 (n : Int)))).run P w = .ok (.map (some w.heap.size)) (w.alloc (.map #[] 0)) := by
  simp [Instr.makeMap, run_underlying ht, Result.andThen, asInt, newObj]
  rfl

set_option maxHeartbeats 400000 in
theorem mnew_any (a : Option Addr) (n c : Nat) (fs : List Fl) (w : World) (hf : FilesAt w w.heap.size a n fs) (hs : Fits fs) (hn : n ≤ 1048576) (ho : Once fs) :
    Calls Tryz.prog 63 #[.slice a n c] w fun e w' =>
      ∃ b, e = .returned (.map (some b)) ∧ w.heap.size ≤ b ∧ MapAt w' b n fs ∧ Below w.heap.size w w' := by
  have hlen := Lib.hid hf.1
  have hmm := fun W => run_makeMap_n (P := Tryz.prog) 95 _ _ Tryz.underlying95 n W
  go_enter Tryz.func63, Tryz.ntmps63
  go_wp2_with fail
  go_loopw [11] (fun i wr => ∃ k : Nat, k ≤ n ∧ i = .int .i64 k ∧ MapAt wr w.heap.size k (fs.take k) ∧ Below w.heap.size w wr) (fun i _ => n - (intOf i).toNat)
  case atStart => exact ⟨0, Nat.zero_le _, rfl, ⟨_, World.ownsMap_made _ _ _ _, rep_empty⟩, (Below.refl _ _).alloc (Nat.le_refl _) _⟩
  case round =>
    obtain ⟨k, hk, rfl, hM, hB⟩ := hrel
    have HM := Lib.hid hM; clear hM
    by_cases hlt : k < n
    · obtain ⟨b, off, p, t, rfl, hb, hg, hc1, hc2⟩ := (hf.below hB).get hlt
      have hfit := Lib.hid (hs.get hg)
      have hpt := Lib.hid (putU_take ho hg)
      clear hg
      go_wp2_with (go_at_call 64; refine (mput_any _ k (fs.take k) p t _ (HM.out.alloc _) (by omega) hfit.out.1 hfit.out.2).mono ?_; rintro e w1 ⟨rfl, hM1, hg1⟩)
      go_roundw
      case rel => exact ⟨k + 1, by omega, by go_num, hM1.perm hpt.out, (hB.alloc hB.size _).grown hg1 (Nat.le_trans hB.size (by simp)) (fun j hj => by cases hj; exact Nat.le_refl _)⟩
      case measure => simp [intOf]; omega
    · have e : n = k := by omega
      have HM2 : Hid (MapAt wr w.heap.size n fs) := Lib.hid (by have := HM.out; rw [List.take_of_length_le (by have := hlen.out; omega)] at this; rw [e]; exact this)
      clear e
      go_wp2_with fail
      go_ret
      exact ⟨_, rfl, Nat.le_refl _, HM2.out, hB⟩

theorem srtF_length (gs : List Fl) : (srtF gs).length = gs.length := (srtF_perm gs).length_eq
theorem keysF_length (gs : List Fl) : ((srtF gs).map fun f => encStr f.1.data.toList).length = gs.length := by rw [List.length_map, srtF_length]

theorem wpList_lookup_own_str {H : Type} {P : Program} (w : World) {ops : Array Oper} {rest : List Oper} {o : Oper} {a : Act} {Q : Exit → Act → World → Prop}
    (hg : o.guard = none) (m x : Operand) (t : TypeId) (hop : o.op = Op.lookup t m x false)
    (k e : TypeId) (K : Keyed P k) (ht : P.underlying t = some (.map k e)) (he : P.underlying e = some .string) (hz : (zeroValue e).run P w = .ok (.string .empty) w) (b n : Nat) (D : DataW H)
    (hm : a.eval m = .map (some b)) (hown : w.ownsMap P k (plainElem P e) b n D) (key : Value) (kl : Lit) (hx : a.eval x = key) (hkey : keyOf P k key = some kl) (s : ByteArray) (hs : ∀ z, D.atKey kl z = .lit (.string s.data.toList))
    (hK : wpList P ops Q rest (a.put o.dst (.string s)) w) : wpList P ops Q (o :: rest) a w := by
  refine wpList_plain hg fun K' hK' => ?_
  obtain ⟨v, ps, hrun, hv⟩ := hown.lookup K ht hz (plainElem_string he (s := .empty) (by simp [maxLen])) hkey
  obtain ⟨s', rfl, hc, _⟩ := plainElem_string_inv he hv
  rw [hs] at hc
  have h1 : (DataW.lit (.string s.data.toList) : DataW H) = .lit (.string s'.data.toList) := congrArg Prod.fst hc
  obtain rfl : s = s' := bytes_ext (by simpa using h1)
  unfold Oper.wp
  simp [execOp, hop, hm, hx, hrun, Result.andThen]
  exact hK' _ _ hK

theorem keysF_get {gs : List Fl} {k : Nat} {p t : ByteArray} (h : (srtF gs)[k]? = some (p, t)) : ((srtF gs).map (encStr ∘ fun f => f.1.data.toList))[k]? = some (.string p) := by
  rw [List.getElem?_map, h]
  simp [encStr]

theorem mapkeys_le {w : World} {b n : Nat} {gs : List Fl} {D : DataW Unit} (h : w.ownsMap Tryz.prog 9 (plainElem Tryz.prog 9) b n D) (hr : Rep D gs) : ∀ f ∈ gs, f.1.size ≤ maxLen := fun f hf => by
  have := strKeys_le h Tryz.underlying9 f.1.data.toList (hr.keys.mem_iff.2 (List.mem_map.2 ⟨f, hf, rfl⟩))
  rwa [Array.length_toList] at this
theorem mgrown_trans {w w' w'' : World} {row : Option Nat} (h : w.grownBy w' row) (k : w'.grownBy w'' row) : w.grownBy w'' row :=
  ⟨k.os.trans h.os, k.tape.trans h.tape, k.output.trans h.output, Nat.le_trans h.size k.size, fun i hi hne => (k.block i (Nat.lt_of_lt_of_le hi h.size) hne).trans (h.block i hi hne)⟩

theorem own_below {H : Type} {P : Program} {k : TypeId} {R : Value → Option (DataW H × List MemPlace)} {w w' : World} {B b n : Nat} {D : DataW H} (h : w.ownsMap P k R b n D) (hB : Below B w w') (hb : b < B) : w'.ownsMap P k R b n D := by
  obtain ⟨es, clock, hh, r⟩ := h
  exact ⟨es, clock, (hB.block b hb).trans hh, r⟩
set_option maxHeartbeats 1000000 in
theorem mfiles_any (b n : Nat) (gs : List Fl) (w : World) (h : MapAt w b n gs) (hn : n ≤ 1048576) :
    Calls Tryz.prog 65 #[.map (some b)] w fun e w' =>
      ∃ v, e = .returned v ∧ OwnsF w' w.heap.size v (srtF gs) ∧ Below w.heap.size w w' := by
  have hl := h.length
  have hbl := h.lt
  obtain ⟨D, hown, hrep⟩ := h
  have hsz := Lib.hid hrep.size
  have hpk := Lib.hid (mapkeys_le hown hrep)
  obtain ⟨i0, hi, hz0, hz1, hz2⟩ := info_parts fput_info
  go_enter Tryz.func65, Tryz.ntmps65
  go_wp2_with (first
    | (at_len; refine wpList_len_own _ rfl _ 95 rfl 9 9 Tryz.underlying95 _ b n D rfl hown ?_; rw [hsz.out])
    | (at_make; refine wpList_make_own _ rfl _ _ 30 rfl w.heap.size 37 i0 _ 2 Tryz.underlying30 hi hz0 hz1 _ _ _ gs.length rfl rfl rfl (by rw [hz2]; omega) (by simp only [maxLen]; omega) (Nat.le_refl _) ?_; intro w1 hown1 hg1))
  have hownA := hown.kept hg1 (by simp)
  have hw1 : w.heap.size < w1.heap.size := (hown1.lt _ rfl).2
  refine (keys_any (some b) _).mono ?_
  rintro e w2 ⟨rfl, rfl⟩
  go_wp2_with fail
  refine (sorted_any b n D _ w1 hownA (by rw [hsz.out]; simp only [maxLen]; omega) (by rw [hsz.out]; omega)).mono ?_
  rintro e w3 ⟨kv, ss, rfl, hperm, hrow, hnil, hB3⟩
  have hss : ss.length = gs.length := (hperm.trans hrep.keys).length_eq.trans (List.length_map ..)
  have hks := srtF_keys (hperm.trans hrep.keys)
  rw [hks, hss, List.map_map] at hrow
  have hB13 : Below w1.heap.size w1 w3 := ((Below.refl w1.heap.size w1).alloc (Nat.le_refl _) _).trans (hB3.mono (by simp))
  have hsz3 := hB13.size
  have hB03 : Below w.heap.size w w3 := ((Below.refl w.heap.size w).grown hg1 (Nat.le_refl _) (fun j hj => by cases hj)).trans (hB13.mono (by omega))
  have hown3 := own_below hownA hB13 (by omega)
  have hl3 := row_below hown1 hB13 hw1
  clear hks hss hperm hnil hB3 hB13 hown1 hownA hown hg1
  rcases hrow.2 with ⟨rfl, hz⟩ | ⟨g, cap, cur, rfl, hbg, _⟩
  · have Hz := Lib.hid hz
    clear hz hrow
    have Hl : Hid (OwnsF w3 w.heap.size (.slice (some ⟨w.heap.size, 0, none⟩) 0 gs.length) (srtF gs)) := Lib.hid (by
      have e : srtF gs = [] := List.eq_nil_of_length_eq_zero (by rw [srtF_length, Hz.out])
      rw [OwnsF, e]; exact hl3)
    clear hl3 hown3
    go_wp2_with fail
    go_loopw [3, 13] (fun v i wr => i = .int .i64 0 ∧ v = .slice (some ⟨w.heap.size, 0, none⟩) 0 gs.length ∧ wr = w3) (fun _ _ _ => 0)
    case atStart => exact ⟨rfl, rfl, rfl⟩
    case round =>
      obtain ⟨rfl, rfl, rfl⟩ := hrel
      go_wp2_with fail
      go_ret
      exact ⟨_, rfl, Hl.out, hB03⟩
  · have hg3 := (hrow.lt _ rfl).2
    have hcell := Lib.hid (row_cells hrow)
    have hwg : w.heap.size < g := by simp at hbg; omega
    clear hrow
    go_wp2_with fail
    go_loopw [3, 13] (fun v i wr => ∃ k : Nat, k ≤ gs.length ∧ i = .int .i64 k ∧ v = .slice (some ⟨w.heap.size, 0, none⟩) k gs.length ∧ wr.ownsRow w.heap.size 37 2 (.slice (some ⟨w.heap.size, 0, none⟩) k gs.length) k (fcells ((srtF gs).take k)) ∧ wr.ownsMap Tryz.prog 9 (plainElem Tryz.prog 9) b n D ∧ Below w.heap.size w wr ∧ w3.grownBy wr (some w.heap.size)) (fun _ i _ => gs.length - (intOf i).toNat)
    case atStart => exact ⟨0, Nat.zero_le _, rfl, rfl, hl3, hown3, hB03, World.grownBy.refl _ _⟩
    case round =>
      obtain ⟨k, hk, rfl, rfl, hrow, hm, hB, hgr⟩ := hrel
      by_cases hlt : k < gs.length
      · have hkl : k < (srtF gs).length := by rw [srtF_length]; exact hlt
        have hgt : (srtF gs)[k]? = some ((srtF gs)[k].1, (srtF gs)[k].2) := List.getElem?_eq_getElem hkl
        generalize (srtF gs)[k].1 = p at hgt
        generalize (srtF gs)[k].2 = t at hgt
        have hat := Lib.hid (fun z => hrep.at_ ((srtF_perm gs).mem_iff.1 (List.mem_of_getElem? hgt)) z)
        have hc : wr.cell? ⟨g, k, none⟩ = some (.string p) := hgr.cell (hcell.out k _ (keysF_get hgt)) (by simp; omega)
        have hps := Lib.hid (hpk.out _ ((srtF_perm gs).mem_iff.1 (List.mem_of_getElem? hgt)))
        have hkey := Lib.hid (WideMaps.keyOf_string_mk (P := Tryz.prog) Tryz.underlying9 hps.out)
        have hft := Lib.hid (fcells_take_succ hgt)
        have Hrow := Lib.hid hrow
        have Hm := Lib.hid hm
        clear hgt hrow hm hkl
        go_wp2_with (first
          | (at_lookup; refine wpList_lookup_own_str _ rfl _ _ 95 rfl 9 9 mlaw Tryz.underlying95 Tryz.underlying9 (mzero _) b n D rfl Hm.out _ _ rfl hkey.out t hat.out ?_)
          | (at_builtin; refine wpList_append_fits _ rfl _ _ 30 rfl w.heap.size 37 i0 2 Tryz.underlying30 hi hz1 w.heap.size k gs.length _ rfl (World.ownsRow.alloc Hrow.out _) ⟨wr.heap.size, 0, none⟩ 1 1 [.string p, .string t] rfl rfl (two_new _ _ _ _) (by simp [Value.oneCell']) (by omega) ?_; intro w5 hrow5 hg5))
        exact ⟨⟨k + 1, by omega, by go_num, rfl, by rw [hft.out]; exact hrow5, (Hm.out.alloc _).kept hg5 (by simp; omega), (hB.alloc hB.size _).grown hg5 (Nat.le_trans hB.size (by simp)) (fun j hj => by cases hj; exact Nat.le_refl _), mgrown_trans (mgrown_trans hgr (World.grownBy_alloc _ _ _)) hg5⟩, by simp [intOf]; omega⟩
      · have e : k = gs.length := by omega
        have Hl : Hid (OwnsF wr w.heap.size (.slice (some ⟨w.heap.size, 0, none⟩) k gs.length) (srtF gs)) := Lib.hid (by
          have := hrow
          rw [List.take_of_length_le (by rw [srtF_length]; omega)] at this
          rw [OwnsF, srtF_length, ← e]
          rw [← e] at this
          exact this)
        clear e hrow hm
        go_wp2_with fail
        go_ret
        exact ⟨_, rfl, Hl.out, hB⟩

end Go.Proofs.YteofldbkjnpmnaaGreat
