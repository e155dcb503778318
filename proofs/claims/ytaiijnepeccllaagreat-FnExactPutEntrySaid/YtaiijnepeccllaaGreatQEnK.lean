/-
  The program's entries(): a map of entries as a list in the order of the targets.
-/
import Derived.Test.YtaiijnepeccllaaGreatQOnD
import Derived.Test.YtaiijnepeccllaaGreatQFeI
import Derived.Test.YtaiijnepeccllaaGreatGone
namespace Go.Proofs.YtaiijnepeccllaaGreat
set_option linter.unusedVariables false
set_option linter.unusedSimpArgs false
open Go.RowKit Go.Maps

/-- the targets ascend -/
def AscN (rs : List En) : Prop := rs.Pairwise fun a b => sLess a.1 b.1 = true
theorem ascN_once {rs : List En} (h : AscN rs) : (rs.map fun x => x.1.data.toList).Nodup := by
  refine List.pairwise_map.2 (h.imp fun {a b} h1 e => ?_)
  have := bytes_ext e
  rw [this, sLess_irrefl] at h1
  cases h1
theorem keysN_sorted {qs : List En} {gs : List Kv} {ss : List (List UInt8)} (ha : AscN qs) (ho : OnceV gs) (h1 : ∀ g ∈ gs, ∃ x ∈ qs, g.1 = x.1) (h2 : ∀ x ∈ qs, ∃ g ∈ gs, g.1 = x.1) (hp : ss.Perm (gs.map fun g => g.1.data.toList)) :
    ss.mergeSort (fun x y => decide (x ≤ y)) = qs.map fun x => x.1.data.toList := by
  have hn : (gs.map fun g => g.1.data.toList).Nodup := List.pairwise_map.2 (ho.imp fun {a b} hne e => hne (bytes_ext e))
  have hq : (gs.map fun g => g.1.data.toList).Perm (qs.map fun x => x.1.data.toList) := by
    refine (List.perm_ext_iff_of_nodup hn (ascN_once ha)).2 fun k => ?_
    constructor
    · intro hk
      obtain ⟨g, hg, rfl⟩ := List.mem_map.1 hk
      obtain ⟨x, hx, e⟩ := h1 g hg
      exact List.mem_map.2 ⟨x, hx, by rw [e]⟩
    · intro hk
      obtain ⟨x, hx, rfl⟩ := List.mem_map.1 hk
      obtain ⟨g, hg, e⟩ := h2 x hx
      exact List.mem_map.2 ⟨g, hg, by rw [e]⟩
  refine List.Perm.eq_of_pairwise (le := fun a b => leB a b = true) (fun a b _ _ h1 h2 => ?_) (List.pairwise_mergeSort leB_trans leB_total ss) ?_ ((List.mergeSort_perm ss _).trans (hp.trans hq))
  · simp only [leB, decide_eq_true_eq] at h1 h2
    exact List.le_antisymm h1 h2
  · refine List.pairwise_map.2 (ha.imp fun {a b} h => ?_)
    rw [leB_iff, sLess_asymm h]
    rfl
theorem repV_keys {D : DataW Value} {gs : List Kv} (h : RepV D gs) : (strKeys D).Perm (gs.map fun g => g.1.data.toList) := by
  obtain ⟨es, rfl, h1, _⟩ := h
  have := h1.map (fun e : Lit × DataW Value => e.1)
  unfold strKeys
  refine (h1.map _).trans ?_
  rw [List.map_map]
  exact List.Perm.refl _
theorem repV_size {D : DataW Value} {gs : List Kv} (h : RepV D gs) : Maps.size D = gs.length := by
  obtain ⟨es, rfl, h1, _⟩ := h
  have := h1.length_eq
  rw [List.length_map] at this
  exact this
theorem RepV.once {D : DataW Value} {gs : List Kv} (h : RepV D gs) : OnceV gs := let ⟨_, _, _, h⟩ := h; h
theorem keysN_len {qs : List En} {gs : List Kv} (ha : AscN qs) (ho : OnceV gs) (h1 : ∀ g ∈ gs, ∃ x ∈ qs, g.1 = x.1) (h2 : ∀ x ∈ qs, ∃ g ∈ gs, g.1 = x.1) : gs.length = qs.length := by
  have := congrArg List.length (keysN_sorted ha ho h1 h2 (List.Perm.refl (gs.map fun g => g.1.data.toList)))
  simpa using this
/-- the cells of a row of entries whose reads lie below B -/
def RowEn (w : World) (B : Nat) : List En → List Value → Prop
  | [], xs => xs = []
  | (t, s, fs, x) :: r, xs => ∃ a n c ys, xs = .string t :: .string s :: .slice a n c :: .string x :: ys ∧ n ≤ c ∧ FlIn w 0 B a n fs ∧ RowEn w B r ys
theorem rowEn_keep {w w' : World} {B : Nat} (hk : ∀ p : Addr, p.block < B → w'.cell? p = w.cell? p) : ∀ {es : List En} {xs : List Value}, RowEn w B es xs → RowEn w' B es xs
  | [], _, h => h
  | (t, s, fs, x) :: r, _, ⟨a, n, c, ys, e, hc, hf, h⟩ => ⟨a, n, c, ys, e, hc, hf.keep (Nat.le_refl _) (Nat.le_refl _) fun p _ hp => hk p hp, rowEn_keep hk h⟩
theorem rowEn_snoc {w : World} {B : Nat} {t s x : ByteArray} {fs : List Fl} {a : Option Addr} {n c : Nat} (hc : n ≤ c) (hf : FlIn w 0 B a n fs) : ∀ {es : List En} {xs : List Value}, RowEn w B es xs → RowEn w B (es ++ [(t, s, fs, x)]) (xs ++ [.string t, .string s, .slice a n c, .string x])
  | [], _, h => by simp only [RowEn] at h; subst h; exact ⟨a, n, c, [], rfl, hc, hf, rfl⟩
  | (_, _, _, _) :: r, _, ⟨a', n', c', ys, e, hc', hf', h⟩ => by subst e; exact ⟨a', n', c', _, rfl, hc', hf', rowEn_snoc hc hf h⟩
theorem rowEn_get {w : World} {B : Nat} : ∀ {es : List En} {xs : List Value} {j : Nat} {t s x : ByteArray} {fs : List Fl}, RowEn w B es xs → es[j]? = some (t, s, fs, x) →
    ∃ a n c, xs[j * 4]? = some (.string t) ∧ xs[j * 4 + 1]? = some (.string s) ∧ xs[j * 4 + 2]? = some (.slice a n c) ∧ xs[j * 4 + 3]? = some (.string x) ∧ n ≤ c ∧ FlIn w 0 B a n fs
  | [], _, _, _, _, _, _, _, h => by simp at h
  | (t, s, fs, x) :: r, _, 0, _, _, _, _, ⟨a, n, c, ys, e, hc, hf, h⟩, hg => by
    simp only [List.getElem?_cons_zero, Option.some.injEq, Prod.mk.injEq] at hg
    obtain ⟨rfl, rfl, rfl, rfl⟩ := hg
    subst e
    exact ⟨a, n, c, rfl, rfl, rfl, rfl, hc, hf⟩
  | (_, _, _, _) :: r, _, j + 1, t, s, x, fs, ⟨_, _, _, ys, e, _, _, h⟩, hg => by
    subst e
    obtain ⟨a, n, c, q0, q1, q2, q3, hc, hf⟩ := rowEn_get (j := j) h (by simpa using hg)
    refine ⟨a, n, c, ?_, ?_, ?_, ?_, hc, hf⟩
    · rw [show (j + 1) * 4 = j * 4 + 4 from by omega]; simpa using q0
    · rw [show (j + 1) * 4 + 1 = (j * 4 + 1) + 4 from by omega]; simpa using q1
    · rw [show (j + 1) * 4 + 2 = (j * 4 + 2) + 4 from by omega]; simpa using q2
    · rw [show (j + 1) * 4 + 3 = (j * 4 + 3) + 4 from by omega]; simpa using q3
/-- a list of entries of one's own whose reads lie below B -/
def OwnK (w : World) (B base : Nat) (v : Value) (es : List En) : Prop := B ≤ base ∧ base ≤ w.heap.size ∧ ∃ xs, w.ownsRow base 26 4 v es.length xs ∧ RowEn w B es xs
section
variable {w w' : World} {B base : Nat} {v : Value} {es : List En}
theorem OwnK.nil (w : World) (h1 : B ≤ base) (h2 : base ≤ w.heap.size) : OwnK w B base (.slice none 0 0) [] := ⟨h1, h2, [], World.ownsRow_nil _ _ _ _, rfl⟩
theorem OwnK.lt (h : OwnK w B base v es) : ∀ g, v.ownBlock = some g → base ≤ g ∧ g < w.heap.size := by
  obtain ⟨_, _, xs, h1, _⟩ := h
  exact World.ownsRow.lt h1
theorem OwnK.below (h : OwnK w B base v es) (hb : Below w.heap.size w w') : OwnK w' B base v es := by
  obtain ⟨h0, h00, xs, h1, h2⟩ := h
  exact ⟨h0, Nat.le_trans h00 hb.size, xs, World.ownsRow.kept (row := none) h1 ⟨hb.os, hb.tape, hb.output, hb.size, fun i hi _ => hb.block i hi⟩ (by cases v.ownBlock <;> simp), rowEn_keep (fun p hp => hb.cell (by omega)) h2⟩
theorem OwnK.mono {base' : Nat} (h : OwnK w B base v es) (h1 : B ≤ base') (h2 : base' ≤ base) : OwnK w B base' v es := by
  obtain ⟨h0, h00, xs, h3, h4⟩ := h
  exact ⟨h1, Nat.le_trans h2 h00, xs, World.ownsRow.mono h3 h2, h4⟩
theorem OwnK.form (h : OwnK w B base v es) : ∃ a c, v = .slice a es.length c ∧ es.length ≤ c ∧ EnAt w 0 w.heap.size es a es.length := by
  obtain ⟨h0, h00, xs, h1, h2⟩ := h
  rcases h1.2 with ⟨rfl, h0⟩ | ⟨g, cap, cur, rfl, hb, hg, hc, hm, _⟩
  · exact ⟨none, 0, by rw [h0], by omega, rfl, fun h => absurd h (by omega)⟩
  · refine ⟨_, cap, rfl, hc, rfl, fun _ => ⟨g, 0, rfl, Nat.zero_le _, blk_lt hg, ?_⟩⟩
    rintro j ⟨t, s, fs, x⟩ hj
    have hcell : ∀ j u, xs[j]? = some u → w.cell? ⟨g, j, none⟩ = some u := fun j u hu => by
      have := World.ownsRow.cells h1 (g := g) rfl j u hu
      rwa [add_none, Nat.zero_add] at this
    obtain ⟨a, n, c, q0, q1, q2, q3, hc', hf⟩ := rowEn_get h2 hj
    rw [Nat.zero_add]
    exact ⟨hcell _ _ q0, hcell _ _ q1, ⟨a, n, c, hcell _ _ q2, hc', hf.more (Nat.le_refl _) (by omega)⟩, hcell _ _ q3⟩
end
/-- one more entry, whose reads lie below -/
theorem wpList_append_ek {w : World} {ops : Array Oper} {rest : List Oper} {o : Oper} {a : Act} {Q : Exit → Act → World → Prop} (hgd : o.guard = none) (s x : Operand)
    (ho : o.op = .call { callee := .builtin .append, args := #[s, x], argTypes := #[29, 29] })
    (B base : Nat) (v : Value) (es : List En) (hs : a.eval s = v) (hown : OwnK w B base v es) (g c1 : Nat) (hx : a.eval x = .slice (some ⟨g, 0, none⟩) 1 c1)
    (t y z : ByteArray) (fs : List Fl) (ad : Option Addr) (n c : Nat) {T : TypeId} (hbx : w.heap[g]? = some (.cells #[.string t, .string y, .slice ad n c, .string z] T (0, 0))) (hc : n ≤ c) (hk : FlIn w 0 B ad n fs)
    (h63 : es.length ≤ 1000000000)
    (h : ∀ g cap w', OwnK w' B base (.slice (some ⟨g, 0, none⟩) (es.length + 1) cap) (es ++ [(t, y, fs, z)]) → w.grownBy w' v.ownBlock → g < w'.heap.size → base ≤ g → wpList Tryz.prog ops Q rest (a.put o.dst (.slice (some ⟨g, 0, none⟩) (es.length + 1) cap)) w') :
    wpList Tryz.prog ops Q (o :: rest) a w := by
  obtain ⟨i, hi, hz0, hz1, hz2⟩ := info_parts entry_info
  obtain ⟨h0, h00, xs, h1, h2⟩ := hown
  have hlt := World.ownsRow.lt h1
  refine wpList_append_at hgd s x 29 ho base 26 i _ 4 72 entries_under hi hz0 hz1 hz2 rfl (by decide) v es.length xs hs h1 ⟨g, 0, none⟩ 1 c1 [.string t, .string y, .slice ad n c, .string z] hx rfl ?_ (by simp [Value.oneCell']) (by simp only [maxLen]; omega) (by omega) h00 fun v' w' h8 h9 h10 => ?_
  · intro j u hu
    rw [add_none, cell_of_row _ _ _ _ _ _ hbx]
    simpa using hu
  · have h12 : RowEn w' B (es ++ [(t, y, fs, z)]) (xs ++ [.string t, .string y, .slice ad n c, .string z]) :=
      rowEn_keep (fun p hp => World.cell?_of_block (h9.block p.block (by omega) (fun e => by have := (hlt _ e.symm).1; omega))) (rowEn_snoc hc hk h2)
    have h14 : w'.ownsRow base 26 4 v' (es ++ [(t, y, fs, z)]).length (xs ++ [.string t, .string y, .slice ad n c, .string z]) := by rw [List.length_append]; exact h8
    obtain ⟨g', cap', rfl, h15, h16⟩ := World.ownsRow.form h8 (by omega)
    exact h g' cap' w' ⟨h0, Nat.le_trans h00 h9.size, _, h14, h12⟩ h9 h16 h15
theorem wpList_lookup_own_any {P : Program} (w : World) {ops : Array Oper} {rest : List Oper} {o : Oper} {a : Act} {Q : Exit → Act → World → Prop}
    (hg : o.guard = none) (m x : Operand) (t : TypeId) (hop : o.op = Op.lookup t m x false)
    (k e : TypeId) (K : Keyed P k) (ht : P.underlying t = some (.map k e)) (z : Value) (hz : (zeroValue e).run P w = .ok z w) (b n : Nat) (D : DataW Value)
    (hm : a.eval m = .map (some b)) (hown : w.ownsMap P k anyElem b n D) (key : Value) (kl : Lit) (hx : a.eval x = key) (hkey : keyOf P k key = some kl) (u : Value) (hs : ∀ z, D.atKey kl z = .held u)
    (hK : wpList P ops Q rest (a.put o.dst u) w) : wpList P ops Q (o :: rest) a w := by
  refine wpList_plain hg fun K' hK' => ?_
  obtain ⟨v, ps, hrun, hv⟩ := hown.lookup K ht hz (show anyElem z = some (.held z, []) from rfl) hkey
  rw [hs] at hv
  obtain rfl := anyElem_inv hv rfl
  unfold Oper.wp
  simp [execOp, hop, hm, hx, hrun, Result.andThen]
  exact hK' _ _ hK
/-- what entries() leaves -/
def RlP (B : Nat) (qs : List En) (w : World) (e : Ending) (w' : World) : Prop := ∃ a c, e = .returned (.slice a qs.length c) ∧ qs.length ≤ c ∧ OwnK w' B w.heap.size (.slice a qs.length c) qs ∧ Below w.heap.size w w'
theorem repV_fit {w : World} {b n : Nat} {D : DataW Value} {gs : List Kv} (h : w.ownsMap Tryz.prog 9 anyElem b n D) (hr : RepV D gs) : ∀ g ∈ gs, g.1.size ≤ maxLen := fun g hg => by
  have := strKeys_le h Tryz.underlying9 g.1.data.toList ((repV_keys hr).mem_iff.2 (List.mem_map.2 ⟨g, hg, rfl⟩))
  rwa [Array.length_toList] at this
theorem keysE_get {qs : List En} {k : Nat} {x : En} (h : qs[k]? = some x) : (qs.map (encStr ∘ fun x => x.1.data.toList))[k]? = some (.string x.1) := by
  rw [List.getElem?_map, h]
  simp [encStr]

set_option maxRecDepth 100000 in
set_option maxHeartbeats 2000000 in
theorem mentries_any (b n B : Nat) (qs : List En) (w W0 : World) (h : MapE w b n qs W0 B) (ha : AscN qs) (hB0 : B ≤ w.heap.size) (hW : ∀ p : Addr, p.block < B → w.cell? p = W0.cell? p) (hl : qs.length ≤ 1048576) :
    Calls Tryz.prog 46 #[.map (some b)] w (RlP B qs w) := by
  have hbl := h.lt
  obtain ⟨D, gs, hown, hrep, hm1, hm2⟩ := h
  have hk1 : ∀ g ∈ gs, ∃ x ∈ qs, g.1 = x.1 := fun g hg => let ⟨x, hx, hb⟩ := hm1 g hg; ⟨x, hx, hb.1⟩
  have hsz := Lib.hid ((repV_size hrep).trans (keysN_len ha hrep.once hk1 hm2))
  have hpk := Lib.hid (repV_fit hown hrep)
  have Ha := Lib.hid ha
  have Hm := Lib.hid (And.intro hm1 (And.intro hm2 hk1))
  have Hrep := Lib.hid hrep
  have HW := Lib.hid hW
  clear hm1 hm2 hk1 hrep ha hW
  go_enter Tryz.func46, Tryz.ntmps46
  go_wp2_with fail
  refine (keys_any (some b) _).mono ?_
  rintro e w2 ⟨rfl, rfl⟩
  go_wp2_with fail
  refine (sorted_any b n D _ w hown (by rw [hsz.out]; simp only [maxLen]; omega) (by rw [hsz.out]; omega)).mono ?_
  rintro e w3 ⟨kv, ss, rfl, hperm, hrow, hnil, hB3⟩
  have hks := keysN_sorted Ha.out Hrep.out.once Hm.out.2.2 Hm.out.2.1 (hperm.trans (repV_keys Hrep.out))
  have hss : ss.length = qs.length := by have := congrArg List.length hks; simpa using this
  rw [hks, hss, List.map_map] at hrow
  have hB03 : Below w.heap.size w w3 := ((Below.refl w.heap.size w).alloc (Nat.le_refl _) _).trans (hB3.mono (by simp))
  have hsz3 := hB03.size
  have hown3 := own_below hown hB03 hbl
  clear hks hss hperm hnil hB3 hown
  rcases hrow.2 with ⟨rfl, hz⟩ | ⟨g, cap, cur, rfl, hbg, _⟩
  · obtain rfl : qs = [] := List.eq_nil_of_length_eq_zero hz
    clear hz hrow hown3
    simp only [List.length_nil]
    go_wp2_with fail
    go_loopw [3, 10] (fun v i wr => i = .int .i64 0 ∧ v = .slice none 0 0 ∧ wr = w3) (fun _ _ _ => 0)
    case atStart => exact ⟨rfl, rfl, rfl⟩
    case round =>
      obtain ⟨rfl, rfl, rfl⟩ := hrel
      go_wp2_with fail
      go_ret
      exact ⟨none, 0, rfl, Nat.le_refl _, OwnK.nil _ hB0 hB03.size, hB03⟩
  · have hg3 := (hrow.lt _ rfl).2
    have hcell := Lib.hid (row_cells hrow)
    have hwg : w.heap.size < g := by simp at hbg; omega
    clear hrow
    go_wp2_with fail
    go_loopw [3, 10] (fun v i wr => ∃ k : Nat, k ≤ qs.length ∧ i = .int .i64 k ∧ OwnK wr B w3.heap.size v (qs.take k) ∧ Below w3.heap.size w3 wr) (fun _ i _ => qs.length - (intOf i).toNat)
    case atStart => exact ⟨0, Nat.zero_le _, rfl, by simpa using OwnK.nil w3 (Nat.le_trans hB0 hB03.size) (Nat.le_refl _), Below.refl _ _⟩
    case round =>
      obtain ⟨k, hk, rfl, hown, hB⟩ := hrel
      have hsw := hB.size
      have htl : (qs.take k).length = k := by simp; omega
      by_cases hlt : k < qs.length
      · obtain ⟨⟨t, s, fs, x⟩, hgt⟩ : ∃ x, qs[k]? = some x := ⟨_, List.getElem?_eq_getElem hlt⟩
        have hmem := List.mem_of_getElem? hgt
        obtain ⟨f, hf, hft⟩ := Hm.out.2.1 _ hmem
        obtain ⟨y, hy, hyb⟩ := Hm.out.1 f hf
        have hyx : y = (t, s, fs, x) := en_inj Ha.out hy hmem (hyb.1.symm.trans hft)
        subst hyx
        obtain ⟨f1, f2⟩ := f
        obtain ⟨rfl, a', n', c', hf2, hnc, hka⟩ := hyb
        simp only at hf2 hka hft hf
        subst hf2
        obtain rfl := hka.1
        have hat := Lib.hid (fun z => Hrep.out.at_ hf z)
        have hps := Lib.hid (hpk.out _ hf)
        have hc : wr.cell? ⟨g, k, none⟩ = some (.string f1) := (hB.cell (p := ⟨g, k, none⟩) hg3).trans (hcell.out k _ (keysE_get hgt))
        have hkey := Lib.hid (WideMaps.keyOf_string_mk (P := Tryz.prog) Tryz.underlying9 hps.out)
        have Hst := Lib.hid (show qs.take (k + 1) = qs.take k ++ [(f1, s, fs, x)] from by rw [List.take_add_one, hgt]; simp)
        have hmr := own_below hown3 hB (by omega)
        have Hka := Lib.hid (show FlIn wr 0 B a' fs.length fs from hka.keep (Nat.le_refl _) (Nat.le_refl _) fun p _ hp => (hB.cell (p := p) (by omega)).trans ((hB03.cell (p := p) (by omega)).trans (HW.out p hp)))
        have Hown := Lib.hid hown
        have Htl := Lib.hid htl
        have hkk : (k : Int) < (qs.length : Int) := by omega
        have hk0 : (0 : Int) ≤ (k : Int) := by omega
        clear hgt hmem hf hft hy hka hown htl
        go_wp2_with (first
          | (at_lookup; refine wpList_lookup_own_any _ rfl _ _ 47 rfl 9 26 elaw Tryz.underlying47 _ (ezero _) _ _ _ rfl hmr _ _ rfl hkey.out _ hat.out ?_)
          | (at_builtin; refine wpList_append_ek rfl _ _ rfl B w3.heap.size _ (qs.take k) rfl (Hown.out.below ((Below.refl _ _).alloc (Nat.le_refl _) _)) wr.heap.size 1 rfl f1 s x fs a' fs.length c' (heap_alloc_new wr _) hnc (Hka.out.keep (Nat.le_refl _) (Nat.le_refl _) fun p _ hp => World.cell?_alloc_lt wr _ p (by omega)) (by have := Htl.out; omega) ?_; intro g6 cap6 w6 hown6 hgrow6 hlt6 hbg6))
        have hlo := Hown.out.lt
        have hB6 : Below w3.heap.size w3 w6 := ((hB.alloc hsw _)).grown hgrow6 (by simp; omega) (fun g' e => (hlo _ e).1)
        rw [Htl.out, ← Hst.out] at hown6
        exact ⟨⟨k + 1, by omega, by go_num, hown6, hB6⟩, by simp [intOf]; omega⟩
      · have hall : qs.take k = qs := List.take_of_length_le (by omega)
        rw [hall] at hown
        obtain ⟨av, dv, rfl, hdv, _⟩ := hown.form
        have hru := hown.mono hB0 hB03.size
        have hkk : ¬ (k : Int) < (qs.length : Int) := by omega
        have Hru := Lib.hid (And.intro hru (hB03.trans (hB.mono hsz3)))
        clear hown hru hall htl
        go_wp2_with fail
        go_ret
        exact ⟨av, dv, rfl, hdv, Hru.out.1, Hru.out.2⟩
end Go.Proofs.YtaiijnepeccllaaGreat
