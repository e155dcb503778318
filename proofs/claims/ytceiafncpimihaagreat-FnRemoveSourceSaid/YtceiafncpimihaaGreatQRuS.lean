/-
  The program's rules(): a map of rules as a list in the order of the targets.
-/
import Derived.Test.YtceiafncpimihaaGreatGone
import Derived.Test.YtceiafncpimihaaGreatQFrI
import Derived.Test.YtceiafncpimihaaGreatGtwo
namespace Go.Proofs.YtceiafncpimihaaGreat
set_option linter.unusedVariables false
set_option linter.unusedSimpArgs false
open Go.RowKit Go.Maps

theorem ascR_once {rs : List Ru} (h : AscR rs) : (rs.map fun x => x.1.data.toList).Nodup := by
  refine List.pairwise_map.2 (h.imp fun {a b} h1 e => ?_)
  have := bytes_ext e
  rw [this, sLess_irrefl] at h1
  cases h1
theorem keysV_sorted {qs : List Ru} {gs : List Kv} {ss : List (List UInt8)} (ha : AscR qs) (ho : OnceV gs) (h1 : ∀ g ∈ gs, ∃ x ∈ qs, g.1 = x.1) (h2 : ∀ x ∈ qs, ∃ g ∈ gs, g.1 = x.1) (hp : ss.Perm (gs.map fun g => g.1.data.toList)) :
    ss.mergeSort (fun x y => decide (x ≤ y)) = qs.map fun x => x.1.data.toList := by
  have hn : (gs.map fun g => g.1.data.toList).Nodup := List.pairwise_map.2 (ho.imp fun {a b} hne e => hne (bytes_ext e))
  have hq : (gs.map fun g => g.1.data.toList).Perm (qs.map fun x => x.1.data.toList) := by
    refine (List.perm_ext_iff_of_nodup hn (ascR_once ha)).2 fun k => ?_
    constructor
    · intro hk
      obtain ⟨g, hg, rfl⟩ := List.mem_map.1 hk
      obtain ⟨x, hx, e⟩ := h1 g hg
      exact List.mem_map.2 ⟨x, hx, by rw [e]⟩
    · intro hk
      obtain ⟨x, hx, rfl⟩ := List.mem_map.1 hk
      obtain ⟨g, hg, e⟩ := h2 x hx
      exact List.mem_map.2 ⟨g, hg, by rw [e]⟩
  refine List.Perm.eq_of_pairwise (le := fun a b => leB a b = true) (fun a b _ _ h1 h2 => ?_) (List.pairwise_mergeSort leB_trans leB_total ss) ?_ ((List.mergeSort_perm ss _).trans (hp.trans hq))
  · simp only [leB, decide_eq_true_eq] at h1 h2
    exact List.le_antisymm h1 h2
  · refine List.pairwise_map.2 (ha.imp fun {a b} h => ?_)
    rw [leB_iff, sLess_asymm h]
    rfl
theorem repV_keys {D : DataW Value} {gs : List Kv} (h : RepV D gs) : (strKeys D).Perm (gs.map fun g => g.1.data.toList) := by
  obtain ⟨es, rfl, h1, _⟩ := h
  have := h1.map (fun e : Lit × DataW Value => e.1)
  unfold strKeys
  refine (h1.map _).trans ?_
  rw [List.map_map]
  exact List.Perm.refl _
theorem repV_size {D : DataW Value} {gs : List Kv} (h : RepV D gs) : Maps.size D = gs.length := by
  obtain ⟨es, rfl, h1, _⟩ := h
  have := h1.length_eq
  rw [List.length_map] at this
  exact this
theorem RepV.once {D : DataW Value} {gs : List Kv} (h : RepV D gs) : OnceV gs := let ⟨_, _, _, h⟩ := h; h
theorem keysV_len {qs : List Ru} {gs : List Kv} (ha : AscR qs) (ho : OnceV gs) (h1 : ∀ g ∈ gs, ∃ x ∈ qs, g.1 = x.1) (h2 : ∀ x ∈ qs, ∃ g ∈ gs, g.1 = x.1) : gs.length = qs.length := by
  have := congrArg List.length (keysV_sorted ha ho h1 h2 (List.Perm.refl (gs.map fun g => g.1.data.toList)))
  simpa using this
/-- a list of rules of one's own whose operands lie below B -/
def OwnK (w : World) (B base : Nat) (v : Value) (rs : List Ru) : Prop := B ≤ base ∧ base ≤ w.heap.size ∧ ∃ xs, w.ownsRow base 45 4 v rs.length xs ∧ RowR w 0 B none rs xs
section
variable {w w' : World} {B base : Nat} {v : Value} {rs : List Ru}
theorem OwnK.nil (w : World) (h1 : B ≤ base) (h2 : base ≤ w.heap.size) : OwnK w B base (.slice none 0 0) [] := ⟨h1, h2, [], World.ownsRow_nil _ _ _ _, rfl⟩
theorem OwnK.lt (h : OwnK w B base v rs) : ∀ g, v.ownBlock = some g → base ≤ g ∧ g < w.heap.size := by
  obtain ⟨_, _, xs, h1, _⟩ := h
  exact World.ownsRow.lt h1
theorem OwnK.below (h : OwnK w B base v rs) (hb : Below w.heap.size w w') : OwnK w' B base v rs := by
  obtain ⟨h0, h00, xs, h1, h2⟩ := h
  exact ⟨h0, Nat.le_trans h00 hb.size, xs, World.ownsRow.kept (row := none) h1 ⟨hb.os, hb.tape, hb.output, hb.size, fun i hi _ => hb.block i hi⟩ (by cases v.ownBlock <;> simp), rowR_keep (Nat.le_refl _) (Nat.le_refl _) (fun g hg => .inl hg) (fun p h3 h4 _ => hb.cell (by omega)) h2⟩
theorem OwnK.set (h : OwnK w B base v rs) {g : Nat} (h1 : B ≤ g) (h2 : g < base) (i : Nat) (u : Value) : OwnK (w.setCell ⟨g, i, none⟩ u) B base v rs := by
  obtain ⟨h0, h00, xs, h3, h4⟩ := h
  refine ⟨h0, by simpa [World.setCell] using h00, xs, World.ownsRow.kept (row := some g) h3 (grown_set (p := ⟨g, i, none⟩) (World.grownBy.refl w _) (.inl rfl) u) ?_, rowR_keep (Nat.le_refl _) (Nat.le_refl _) (fun g hg => .inl hg) (fun p h5 h6 _ => World.cell?_of_block (Below.heap_setCell w ⟨g, i, none⟩ u p.block (by show p.block ≠ g; omega))) h4⟩
  cases hv : v.ownBlock with
  | none => exact .inl rfl
  | some b => exact .inr fun e => by injection e with e; have := World.ownsRow.lt h3 b hv; omega
theorem OwnK.mono {base' : Nat} (h : OwnK w B base v rs) (h1 : B ≤ base') (h2 : base' ≤ base) : OwnK w B base' v rs := by
  obtain ⟨h0, h00, xs, h3, h4⟩ := h
  exact ⟨h1, Nat.le_trans h2 h00, xs, World.ownsRow.mono h3 h2, h4⟩
theorem OwnK.form (h : OwnK w B base v rs) : ∃ a c, v = .slice a rs.length c ∧ rs.length ≤ c ∧ RuAt w 0 w.heap.size rs a rs.length := by
  obtain ⟨h0, h00, xs, h1, h2⟩ := h
  rcases h1.2 with ⟨rfl, h0⟩ | ⟨g, cap, cur, rfl, hb, hg, hc, hm, _⟩
  · exact ⟨none, 0, by rw [h0], by omega, rfl, fun h => absurd h (by omega)⟩
  · refine ⟨_, cap, rfl, hc, rfl, fun _ => ⟨g, 0, rfl, Nat.zero_le _, blk_lt hg, fun j t k s ks hj => ?_⟩⟩
    have hcell : ∀ j u, xs[j]? = some u → w.cell? ⟨g, j, none⟩ = some u := fun j u hu => by
      have := World.ownsRow.cells h1 (g := g) rfl j u hu
      rwa [add_none, Nat.zero_add] at this
    obtain ⟨a, c, e0, e1, e2, e3, hc', hk⟩ := rowR_get h2 hj
    rw [Nat.zero_add]
    exact ⟨hcell _ _ e0, hcell _ _ e1, hcell _ _ e2, a, _, c, hcell _ _ e3, hc', hk.more (Nat.le_refl _) (by omega)⟩
end
/-- one more rule, whose operands lie below -/
theorem wpList_append_rk {w : World} {ops : Array Oper} {rest : List Oper} {o : Oper} {a : Act} {Q : Exit → Act → World → Prop} (hgd : o.guard = none) (s x : Operand)
    (ho : o.op = .call { callee := .builtin .append, args := #[s, x], argTypes := #[24, 24] })
    (B base : Nat) (v : Value) (rs : List Ru) (hs : a.eval s = v) (hown : OwnK w B base v rs) (g c1 : Nat) (hx : a.eval x = .slice (some ⟨g, 0, none⟩) 1 c1)
    (t : ByteArray) (k : Int) (y : ByteArray) (ks : Fo) (ad : Option Addr) (c : Nat) {T : TypeId} (hbx : w.heap[g]? = some (.cells #[.string t, .int .i64 k, .string y, .slice ad ks.len c] T (0, 0))) (hc : ks.len ≤ c) (hk : KA w 0 B ks ad ks.len)
    (h63 : rs.length ≤ 1000000000)
    (h : ∀ g cap w', OwnK w' B base (.slice (some ⟨g, 0, none⟩) (rs.length + 1) cap) (rs ++ [(t, k, y, ks)]) → w.grownBy w' v.ownBlock → g < w'.heap.size → base ≤ g → wpList Tryz.prog ops Q rest (a.put o.dst (.slice (some ⟨g, 0, none⟩) (rs.length + 1) cap)) w') :
    wpList Tryz.prog ops Q (o :: rest) a w := by
  obtain ⟨i, hi, hz0, hz1, hz2⟩ := info_parts rule_info4_
  obtain ⟨h0, h00, xs, h1, h2⟩ := hown
  have hlt := World.ownsRow.lt h1
  refine wpList_append_at hgd s x 24 ho base 45 i _ 4 64 rules_under_ hi hz0 hz1 hz2 rfl (by decide) v rs.length xs hs h1 ⟨g, 0, none⟩ 1 c1 [.string t, .int .i64 k, .string y, .slice ad ks.len c] hx rfl ?_ (by simp [Value.oneCell']) (by simp only [maxLen]; omega) (by omega) h00 fun v' w' h8 h9 h10 => ?_
  · intro j u hu
    rw [add_none, cell_of_row _ _ _ _ _ _ hbx]
    simpa using hu
  · have h11 := rowR_snoc (og := none) (t := t) (k := k) (s := y) hc hk (Nat.zero_le 0) (Nat.le_refl B) (fun g hg => by cases hg) h2
    have h12 : RowR w' 0 B none (rs ++ [(t, k, y, ks)]) (xs ++ [.string t, .int .i64 k, .string y, .slice ad ks.len c]) :=
      rowR_keep (Nat.le_refl _) (Nat.le_refl _) (fun g e => .inl e) (fun p h4 h5 h6 => World.cell?_of_block (h9.block p.block (by omega) (fun e => by have := (hlt _ e.symm).1; omega))) h11
    have h14 : w'.ownsRow base 45 4 v' (rs ++ [(t, k, y, ks)]).length (xs ++ [.string t, .int .i64 k, .string y, .slice ad ks.len c]) := by rw [List.length_append]; exact h8
    obtain ⟨g', cap', rfl, h15, h16⟩ := World.ownsRow.form h8 (by omega)
    exact h g' cap' w' ⟨h0, Nat.le_trans h00 h9.size, _, h14, h12⟩ h9 h16 h15
theorem wpList_lookup_own_any {P : Program} (w : World) {ops : Array Oper} {rest : List Oper} {o : Oper} {a : Act} {Q : Exit → Act → World → Prop}
    (hg : o.guard = none) (m x : Operand) (t : TypeId) (hop : o.op = Op.lookup t m x false)
    (k e : TypeId) (K : Keyed P k) (ht : P.underlying t = some (.map k e)) (z : Value) (hz : (zeroValue e).run P w = .ok z w) (b n : Nat) (D : DataW Value)
    (hm : a.eval m = .map (some b)) (hown : w.ownsMap P k anyElem b n D) (key : Value) (kl : Lit) (hx : a.eval x = key) (hkey : keyOf P k key = some kl) (u : Value) (hs : ∀ z, D.atKey kl z = .held u)
    (hK : wpList P ops Q rest (a.put o.dst u) w) : wpList P ops Q (o :: rest) a w := by
  refine wpList_plain hg fun K' hK' => ?_
  obtain ⟨v, ps, hrun, hv⟩ := hown.lookup K ht hz (show anyElem z = some (.held z, []) from rfl) hkey
  rw [hs] at hv
  obtain rfl := anyElem_inv hv rfl
  unfold Oper.wp
  simp [execOp, hop, hm, hx, hrun, Result.andThen]
  exact hK' _ _ hK
/-- what rules() leaves -/
def RlP (B : Nat) (qs : List Ru) (w : World) (e : Ending) (w' : World) : Prop := ∃ a c, e = .returned (.slice a qs.length c) ∧ qs.length ≤ c ∧ OwnK w' B w.heap.size (.slice a qs.length c) qs ∧ Below w.heap.size w w'
theorem repV_fit {w : World} {b n : Nat} {D : DataW Value} {gs : List Kv} (h : w.ownsMap Tryz.prog 9 anyElem b n D) (hr : RepV D gs) : ∀ g ∈ gs, g.1.size ≤ maxLen := fun g hg => by
  have := strKeys_le h Tryz.underlying9 g.1.data.toList ((repV_keys hr).mem_iff.2 (List.mem_map.2 ⟨g, hg, rfl⟩))
  rwa [Array.length_toList] at this
theorem keysR_get {qs : List Ru} {k : Nat} {x : Ru} (h : qs[k]? = some x) : (qs.map (encStr ∘ fun x => x.1.data.toList))[k]? = some (.string x.1) := by
  rw [List.getElem?_map, h]
  simp [encStr]

set_option maxRecDepth 100000 in
set_option maxHeartbeats 2000000 in
theorem mrules_any (b n B : Nat) (qs : List Ru) (w W0 : World) (h : MapR w b n qs W0 B) (ha : AscR qs) (hB0 : B ≤ w.heap.size) (hW : ∀ p : Addr, p.block < B → w.cell? p = W0.cell? p) (hl : qs.length ≤ 1048576) :
    Calls Tryz.prog 50 #[.map (some b)] w (RlP B qs w) := by
  have hbl := h.lt
  obtain ⟨D, gs, hown, hrep, hm1, hm2⟩ := h
  have hk1 : ∀ g ∈ gs, ∃ x ∈ qs, g.1 = x.1 := fun g hg => let ⟨x, hx, hb⟩ := hm1 g hg; ⟨x, hx, hb.1⟩
  have hsz := Lib.hid ((repV_size hrep).trans (keysV_len ha hrep.once hk1 hm2))
  have hpk := Lib.hid (repV_fit hown hrep)
  have Ha := Lib.hid ha
  have Hm := Lib.hid (And.intro hm1 (And.intro hm2 hk1))
  have Hrep := Lib.hid hrep
  have HW := Lib.hid hW
  clear hm1 hm2 hk1 hrep ha hW
  go_enter Tryz.func50, Tryz.ntmps50
  go_wp2_with fail
  refine (keysR_any (some b) _).mono ?_
  rintro e w2 ⟨rfl, rfl⟩
  go_wp2_with fail
  refine (sortedR_any b n D _ w hown (by rw [hsz.out]; simp only [maxLen]; omega) (by rw [hsz.out]; omega)).mono ?_
  rintro e w3 ⟨kv, ss, rfl, hperm, hrow, hnil, hB3⟩
  have hks := keysV_sorted Ha.out Hrep.out.once Hm.out.2.2 Hm.out.2.1 (hperm.trans (repV_keys Hrep.out))
  have hss : ss.length = qs.length := by have := congrArg List.length hks; simpa using this
  rw [hks, hss, List.map_map] at hrow
  have hB03 : Below w.heap.size w w3 := ((Below.refl w.heap.size w).alloc (Nat.le_refl _) _).trans (hB3.mono (by simp))
  have hsz3 := hB03.size
  have hown3 := own_below hown hB03 hbl
  clear hks hss hperm hnil hB3 hown
  rcases hrow.2 with ⟨rfl, hz⟩ | ⟨g, cap, cur, rfl, hbg, _⟩
  · obtain rfl : qs = [] := List.eq_nil_of_length_eq_zero hz
    clear hz hrow hown3
    simp only [List.length_nil]
    go_wp2_with fail
    go_loopw [3, 10] (fun v i wr => i = .int .i64 0 ∧ v = .slice none 0 0 ∧ wr = w3) (fun _ _ _ => 0)
    case atStart => exact ⟨rfl, rfl, rfl⟩
    case round =>
      obtain ⟨rfl, rfl, rfl⟩ := hrel
      go_wp2_with fail
      go_ret
      exact ⟨none, 0, rfl, Nat.le_refl _, OwnK.nil _ hB0 hB03.size, hB03⟩
  · have hg3 := (hrow.lt _ rfl).2
    have hcell := Lib.hid (row_cells hrow)
    have hwg : w.heap.size < g := by simp at hbg; omega
    clear hrow
    go_wp2_with fail
    go_loopw [3, 10] (fun v i wr => ∃ k : Nat, k ≤ qs.length ∧ i = .int .i64 k ∧ OwnK wr B w3.heap.size v (qs.take k) ∧ Below w3.heap.size w3 wr) (fun _ i _ => qs.length - (intOf i).toNat)
    case atStart => exact ⟨0, Nat.zero_le _, rfl, by simpa using OwnK.nil w3 (Nat.le_trans hB0 hB03.size) (Nat.le_refl _), Below.refl _ _⟩
    case round =>
      obtain ⟨k, hk, rfl, hown, hB⟩ := hrel
      have hsw := hB.size
      have htl : (qs.take k).length = k := by simp; omega
      by_cases hlt : k < qs.length
      · obtain ⟨⟨t, kk, s, ks⟩, hgt⟩ : ∃ x, qs[k]? = some x := ⟨_, List.getElem?_eq_getElem hlt⟩
        have hmem := List.mem_of_getElem? hgt
        obtain ⟨f, hf, hft⟩ := Hm.out.2.1 _ hmem
        obtain ⟨y, hy, hyb⟩ := Hm.out.1 f hf
        have hyx : y = (t, kk, s, ks) := ru_inj Ha.out hy hmem (hyb.1.symm.trans hft)
        subst hyx
        obtain ⟨f1, f2⟩ := f
        obtain ⟨rfl, a', n', c', hf2, hnc, hka⟩ := hyb
        simp only at hf2 hka hft hf
        subst hf2
        obtain rfl := hka.1
        have hat := Lib.hid (fun z => Hrep.out.at_ hf z)
        have hps := Lib.hid (hpk.out _ hf)
        have hc : wr.cell? ⟨g, k, none⟩ = some (.string f1) := (hB.cell (p := ⟨g, k, none⟩) hg3).trans (hcell.out k _ (keysR_get hgt))
        have hkey := Lib.hid (WideMaps.keyOf_string_mk (P := Tryz.prog) Tryz.underlying9 hps.out)
        have Hst := Lib.hid (show qs.take (k + 1) = qs.take k ++ [(f1, kk, s, ks)] from by rw [List.take_add_one, hgt]; simp)
        have hmr := own_below hown3 hB (by omega)
        have Hka := Lib.hid (show KA wr 0 B ks a' ks.len from hka.keep (Nat.le_refl _) (Nat.le_refl _) fun p _ hp => (hB.cell (p := p) (by omega)).trans ((hB03.cell (p := p) (by omega)).trans (HW.out p hp)))
        have Hown := Lib.hid hown
        have Htl := Lib.hid htl
        have hkk : (k : Int) < (qs.length : Int) := by omega
        have hk0 : (0 : Int) ≤ (k : Int) := by omega
        clear hgt hmem hf hft hy hka hown htl
        go_wp2_with (first
          | (at_lookup; refine wpList_lookup_own_any _ rfl _ _ 78 rfl 9 43 rlaw Tryz.underlying78 _ (rzero _) _ _ _ rfl hmr _ _ rfl hkey.out _ hat.out ?_)
          | (at_builtin; refine wpList_append_rk rfl _ _ rfl B w3.heap.size _ (qs.take k) rfl (Hown.out.below ((Below.refl _ _).alloc (Nat.le_refl _) _)) wr.heap.size 1 rfl f1 kk s ks a' c' (heap_alloc_new wr _) hnc (Hka.out.alloc (by omega) _) (by have := Htl.out; omega) ?_; intro g6 cap6 w6 hown6 hgrow6 hlt6 hbg6))
        have hlo := Hown.out.lt
        have hB6 : Below w3.heap.size w3 w6 := ((hB.alloc hsw _)).grown hgrow6 (by simp; omega) (fun g' e => (hlo _ e).1)
        rw [Htl.out, ← Hst.out] at hown6
        exact ⟨⟨k + 1, by omega, by go_num, hown6, hB6⟩, by simp [intOf]; omega⟩
      · have hall : qs.take k = qs := List.take_of_length_le (by omega)
        rw [hall] at hown
        obtain ⟨av, dv, rfl, hdv, _⟩ := hown.form
        have hru := hown.mono hB0 hB03.size
        have hkk : ¬ (k : Int) < (qs.length : Int) := by omega
        have Hru := Lib.hid (And.intro hru (hB03.trans (hB.mono hsz3)))
        clear hown hru hall htl
        go_wp2_with fail
        go_ret
        exact ⟨av, dv, rfl, hdv, Hru.out.1, Hru.out.2⟩
end Go.Proofs.YtceiafncpimihaaGreat
