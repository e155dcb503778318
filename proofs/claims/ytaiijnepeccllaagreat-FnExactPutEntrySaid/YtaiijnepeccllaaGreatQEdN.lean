/-
  The program's editStore, whatever the change; DropEntry, of the program and of the reference.
-/
import Derived.Test.YtaiijnepeccllaaGreatQEnK
import Derived.Test.YtaiijnepeccllaaGreatQCopyN
import Derived.Test.YtaiijnepeccllaaGreatQFeS
namespace Go.Proofs.YtaiijnepeccllaaGreat
set_option linter.unusedVariables false
set_option linter.unusedSimpArgs false
open Go.RowKit Go.Maps

theorem stB_iff {pb : ByteArray → Bool} {es : List En} : stB pb es = true ↔ AscN es ∧ (∀ x ∈ es, enB (pb x.2.1) x = true) ∧ es.length ≤ 20 := by
  constructor
  · intro h
    refine ⟨st_asc h, fun x hx => ?_, ?_⟩
    · unfold stB at h
      simp only [Bool.and_eq_true] at h
      obtain ⟨j, hj⟩ := List.mem_iff_getElem?.1 hx
      have h3 := all_get h.1 (List.getElem?_eq_some_iff.1 hj).1
      unfold stOk at h3
      simp only [Bool.and_eq_true] at h3
      rw [enGet_of hj] at h3
      exact h3.2
    · unfold stB at h
      simp only [Bool.and_eq_true, decide_eq_true_eq] at h
      exact h.2
  · rintro ⟨ha, hv, hl⟩
    unfold stB
    rw [Bool.and_eq_true, decide_eq_true_eq]
    refine ⟨List.all_eq_true.2 fun j hj => ?_, hl⟩
    have hj := List.mem_range.1 hj
    unfold stOk
    rw [Bool.and_eq_true, enGet_of (List.getElem?_eq_getElem hj)]
    refine ⟨?_, hv _ (List.getElem_mem hj)⟩
    cases j with
    | zero => simp [ascE]
    | succ j =>
      rw [ascE_succ (List.getElem?_eq_getElem (by omega)) (List.getElem?_eq_getElem hj)]
      exact (List.pairwise_iff_getElem.1 ha) j (j + 1) (by omega) hj (by omega)
theorem delE_asc {x : ByteArray} {es : List En} (h : AscN es) : AscN (delE x es) := h.filter _
theorem mem_delE {x : ByteArray} {y : En} {es : List En} : y ∈ delE x es ↔ y ∈ es ∧ y.1 ≠ x := by simp [delE]
theorem stB_del {pb : ByteArray → Bool} {es : List En} (x : ByteArray) (h : stB pb es = true) : stB pb (delE x es) = true := by
  obtain ⟨h1, h2, h3⟩ := stB_iff.1 h
  exact stB_iff.2 ⟨delE_asc h1, fun y hy => h2 y (mem_delE.1 hy).1, by have := List.length_filter_le (fun r : En => decide (r.1 ≠ x)) es; unfold delE; omega⟩
theorem delE_tot (x : ByteArray) : ∀ es : List En, (delE x es).length + enTot (delE x es) ≤ es.length + enTot es
  | [] => by simp [delE]
  | y :: r => by
    have := delE_tot x r
    by_cases h : y.1 = x
    · rw [show delE x (y :: r) = delE x r from by simp [delE, h]]
      simp only [List.length_cons, enTot]
      omega
    · rw [show delE x (y :: r) = y :: delE x r from by simp [delE, h]]
      simp only [List.length_cons, enTot]
      omega
theorem bodies_le {es : List En} (h : es.length + enTot es ≤ 1048577) : ∀ x ∈ es, x.2.1.size ≤ 1048576 := by
  intro x hx
  obtain ⟨j, hj⟩ := List.mem_iff_getElem?.1 hx
  have := enTot_get hj
  have := (List.getElem?_eq_some_iff.1 hj).1
  simp only [enSz] at *
  omega
/-- what an edit leaves -/
def EdA (r : List En × Bool) (w : World) (e : Ending) (w' : World) : Prop := ∃ v bs, e = .returned (.tuple #[v, .bool r.2]) ∧ OwnD w' w.heap.size v r.1 bs ∧ Below w.heap.size w w'
/-- what editStore answers -/
def edSt (pb : ByteArray → Bool) (es : List En) (ok : Bool) (es' : List En) : List En × Bool := if stB pb es = true ∧ ok = true ∧ stB pb es' = true then (es', true) else ([], false)

set_option maxRecDepth 100000 in
set_option maxHeartbeats 4000000 in
theorem editSt_of (pb : ByteArray → Bool) (hpb : ∀ s, IsP s.data.toList (pb s)) (F gc : Nat) (fv : Value) (hfv : fv = .func (.func F) #[] #[.pointer (some ⟨gc, 0, none⟩)]) (hcf : ∀ (args : Array Value) (w' : World), Sem.run Tryz.prog (callFunc F args) w' = .ok (.enter F args) w')
    (es es' : List En) (ok : Bool) (n' : Nat) (a : Option Addr) (n c : Nat) (w : World) (hf : EnAt w 0 w.heap.size es a n) (hfit : EnFits es) (hn : n ≤ maxLen) (hz : es.length + enTot es ≤ 1048576) (hfit' : EnFits es') (hz' : es'.length + enTot es' ≤ 1048577) (ha' : stB pb es = true → AscN es' ∧ es'.length ≤ 1048576)
    (hch : ∀ (V : World) (bm : Nat), Below w.heap.size w V → w.heap.size ≤ bm → MapE V bm n es w w.heap.size → stB pb es = true → Calls Tryz.prog F #[.map (some bm), .pointer (some ⟨gc, 0, none⟩)] V fun e V' => e = .returned (.bool ok) ∧ MapE V' bm n' es' w w.heap.size ∧ Below w.heap.size w V') :
    Calls Tryz.prog 34 #[.slice a n c, fv] w (EdA (edSt pb es ok es') w) := by
  subst hfv
  have hbz := bodies_le (es := es) (by omega)
  have hlen := hf.1
  have Hch := Lib.hid hch
  have Ha := Lib.hid ha'
  obtain ⟨r, hr⟩ : ∃ r, edSt pb es ok es' = r := ⟨_, rfl⟩
  have Hr := Lib.hid hr
  rw [hr]
  clear hch ha' hr
  go_enter Tryz.func34, Tryz.ntmps34
  go_wp2_with fail
  refine (storeI_any pb hpb es a n c _ hf hfit hn hbz).mono ?_
  rintro e w1 ⟨rfl, B1⟩
  have hf1 := hf.next B1
  rcases Bool.eq_false_or_eq_true (stB pb es) with hv | hv
  case inr =>
    have Hq := Lib.hid (show r = ([], false) by rw [← Hr.out]; unfold edSt; rw [hv]; rfl)
    rw [hv]
    clear hv
    go_wp2_with fail
    refine bodyPost_ret (v := .tuple #[.slice none 0 0, .bool false]) (by simp [results, Tryz.results34, go_sem]) rfl ?_
    rw [Hq.out]
    exact ⟨_, [], rfl, OwnD.nil _ B1.size, B1⟩
  have Hv := Lib.hid hv
  rw [hv]
  clear hv
  go_wp2_with fail
  refine (emap_anyB w.heap.size a n c es w1 B1.size (hf.below B1) hfit (by omega)).mono ?_
  rintro e w2 ⟨bm, rfl, hbm, hM, hB2⟩
  have B2 := B1.trans (hB2.mono B1.size)
  have hM' : MapE w2 bm n es w w.heap.size := by
    obtain ⟨D, gs, h1, h2, h3, h4⟩ := hM
    refine ⟨D, gs, h1, h2, fun g hg => ?_, h4⟩
    obtain ⟨x, hx, e1, a2, n2, c2, e2, hc2, hfl⟩ := h3 g hg
    exact ⟨x, hx, e1, a2, n2, c2, e2, hc2, hfl.keep (Nat.le_refl _) (Nat.le_refl _) fun p _ hp => (B1.cell hp).symm⟩
  have Hc := Lib.hid (Hch.out w2 bm B2 (by have := B1.size; omega) hM' Hv.out)
  clear hM hM' hB2
  go_wp2_with fail
  refine Hc.out.mono ?_
  rintro e w3 ⟨rfl, hM3, B3⟩
  cases ok with
  | false =>
    have Hq := Lib.hid (show r = ([], false) by rw [← Hr.out]; unfold edSt; simp)
    clear hM3
    go_wp2_with fail
    refine bodyPost_ret (v := .tuple #[.slice none 0 0, .bool false]) (by simp [results, Tryz.results34, go_sem]) rfl ?_
    rw [Hq.out]
    exact ⟨_, [], rfl, OwnD.nil _ B3.size, B3⟩
  | true =>
    have Hm := Lib.hid (mentries_any bm n' w.heap.size es' w3 w hM3 (Ha.out Hv.out).1 B3.size (fun p hp => B3.cell hp) (Ha.out Hv.out).2)
    clear hM3
    go_wp2_with fail
    refine Hm.out.mono ?_
    rintro e w4 ⟨a4, c4, rfl, hc4, hown4, hB4⟩
    have B4 := B3.trans (hB4.mono B3.size)
    obtain ⟨a4', c4', e4, _, hf4⟩ := hown4.form
    simp only [Value.slice.injEq] at e4
    obtain ⟨rfl, _, rfl⟩ := e4
    have hn4 : es'.length ≤ maxLen := by unfold maxLen; omega
    have Hs4 := Lib.hid (storeI_any pb hpb es' a4 es'.length c4 w4 hf4 hfit' hn4 (bodies_le hz'))
    clear hown4
    go_wp2_with fail
    refine Hs4.out.mono ?_
    rintro e w5 ⟨rfl, hB5⟩
    have B5 := B4.trans (hB5.mono B4.size)
    have hf5 := hf4.next hB5
    rcases Bool.eq_false_or_eq_true (stB pb es') with hv' | hv'
    case inr =>
      have Hq := Lib.hid (show r = ([], false) by rw [← Hr.out]; unfold edSt; simp [hv'])
      rw [hv']
      clear hv' hf5 hf4
      go_wp2_with fail
      refine bodyPost_ret (v := .tuple #[.slice none 0 0, .bool false]) (by simp [results, Tryz.results34, go_sem]) rfl ?_
      rw [Hq.out]
      exact ⟨_, [], rfl, OwnD.nil _ B5.size, B5⟩
    have Hq := Lib.hid (show r = (es', true) by rw [← Hr.out]; unfold edSt; simp [hv', Hv.out])
    rw [hv']
    clear hv'
    go_wp2_with fail
    refine (copyEntries_any a4 es'.length c4 es' w5 hf5 hz').mono ?_
    rintro e w6 ⟨v6, bs6, rfl, hown6, hB6⟩
    have B6 := B5.trans (hB6.mono B5.size)
    have Ho6 := Lib.hid (hown6.mono B5.size)
    clear hown6
    go_wp2_with fail
    refine bodyPost_ret (v := .tuple #[v6, .bool true]) (by simp [results, Tryz.results34, go_sem]) rfl ?_
    rw [Hq.out]
    exact ⟨_, bs6, rfl, Ho6.out, B6⟩

theorem cf_dropE (args : Array Value) (w' : World) : Sem.run Tryz.prog (callFunc 37 args) w' = .ok (.enter 37 args) w' := by kernel_rfl
theorem mapE_del {w : World} {B : Nat} {x : ByteArray} {rs : List En} {gs : List Kv} (h1 : ∀ g ∈ gs, ∃ y ∈ rs, EntV w B g y) (h2 : ∀ y ∈ rs, ∃ g ∈ gs, g.1 = y.1) :
    (∀ g ∈ delV x gs, ∃ y ∈ delE x rs, EntV w B g y) ∧ (∀ y ∈ delE x rs, ∃ g ∈ delV x gs, g.1 = y.1) := by
  constructor
  · intro g hg
    obtain ⟨hg1, hg2⟩ := mem_delV.1 hg
    obtain ⟨y, hy, hb⟩ := h1 g hg1
    exact ⟨y, mem_delE.2 ⟨hy, fun e => hg2 (hb.1.trans e)⟩, hb⟩
  · intro y hy
    obtain ⟨hy1, hy2⟩ := mem_delE.1 hy
    obtain ⟨g, hg, e⟩ := h2 y hy1
    exact ⟨g, mem_delV.2 ⟨hg, fun e' => hy2 (e.symm.trans e')⟩, e⟩

set_option maxRecDepth 100000 in
set_option maxHeartbeats 4000000 in
theorem dropE1_any (bm gc n B : Nat) (es : List En) (x : ByteArray) (w V : World) (hB : Below B w V) (hBV : B ≤ V.heap.size) (hbm : B ≤ bm) (hM : MapE V bm n es w B) (hbc : V.heap[gc]? = some (.cells #[.string x] 9 (0, 0))) (ha : AscN es) (hn : n ≤ 1000000) (hx : x.size ≤ maxLen) :
    Calls Tryz.prog 37 #[.map (some bm), .pointer (some ⟨gc, 0, none⟩)] V fun e V' => e = .returned (.bool (entF es x).2) ∧ MapE V' bm n (delE x es) w B ∧ Below B w V' := by
  have hgc := blk_lt hbc
  have hkey := Lib.hid (WideMaps.keyOf_string_mk (P := Tryz.prog) Tryz.underlying9 hx)
  have hq0 : V.cell? ⟨gc, 0, none⟩ = some (.string x) := by rw [cell_of_row _ _ _ _ _ _ hbc]; rfl
  obtain ⟨D, gs, hown, hrep, hm1, hm2⟩ := hM
  have hlk := mapE_look (x := x) ha hrep hm1 hm2
  have hdel := mapE_del (x := x) hm1 hm2
  have Hd := Lib.hid (And.intro hdel.1 (And.intro hdel.2 (hrep.del x)))
  clear hrep hm1 hm2 hdel ha
  obtain ⟨u, found, hfs, hhas, hat, ⟨t', s', a', n', c', y', rfl⟩⟩ : ∃ (u : Value) (found : Bool), (entF es x).2 = found ∧ Maps.has D (.string x.data.toList) = found ∧ D.atKey (.string x.data.toList) (.held (.agg #[.string .empty, .string .empty, .slice none 0 0, .string .empty])) = .held u ∧ ∃ t s a n c y, u = .agg #[.string t, .string s, .slice a n c, .string y] := by
    rcases hlk with ⟨e', a', n', c', hfb, _, hhas, hat, _, _⟩ | ⟨hfb, hhas, hat⟩
    · exact ⟨_, true, by rw [hfb], hhas, hat, _, _, a', n', c', _, rfl⟩
    · exact ⟨_, false, by rw [hfb], hhas, hat, .empty, .empty, none, 0, 0, .empty, rfl⟩
  have Hat := Lib.hid hat
  have Hhas := Lib.hid hhas
  have Hfs := Lib.hid hfs
  have HB := Lib.hid hB
  clear hat hhas hlk hfs hB
  have hq3 : (V.alloc (.cells #[.string t', .string s', .slice a' n' c', .string y'] 26)).cell? ⟨gc, 0, none⟩ = some (.string x) := (World.cell?_alloc_lt V _ _ (by show gc < V.heap.size; omega)).trans hq0
  go_enter Tryz.func37, Tryz.ntmps37
  go_wp2_with (first
    | (at_lookup; refine wpList_lookup_own_ok _ rfl _ _ 47 rfl 9 26 elaw Tryz.underlying47 anyElem (ezero _) _ _ rfl bm n D rfl hown _ _ rfl hkey.out ?_; rw [Hhas.out]; intro v ps hv2; obtain rfl := anyElem_inv hv2 Hat.out; clear hv2)
    | (at_delete; refine wpList_delete_own _ rfl _ _ 47 9 rfl 26 elaw Tryz.underlying47 anyElem bm n D rfl (hown.alloc _) _ _ rfl hkey.out ?_; intro w4 hown4 hturn4))
  have hB4 : Below B w w4 := (HB.out.alloc hBV _).grown hturn4.grown (by simp; omega) (fun j e => by cases e; exact hbm)
  have hM4 : MapE w4 bm n (delE x es) w B := ⟨_, _, hown4, Hd.out.2.2, Hd.out.1, Hd.out.2.1⟩
  clear hown hown4 hturn4
  go_ret
  exact ⟨ret_bool Hfs.out.symm, hM4, hB4⟩

/-- what DropEntry answers -/
def dropSt (pb : ByteArray → Bool) (es : List En) (x : ByteArray) : List En × Bool := if stB pb es = true ∧ (entF es x).2 = true then (delE x es, true) else ([], false)
theorem dropSt_ed {pb : ByteArray → Bool} {es : List En} {x : ByteArray} : edSt pb es (entF es x).2 (delE x es) = dropSt pb es x := by
  unfold edSt dropSt
  by_cases h : stB pb es = true ∧ (entF es x).2 = true
  · rw [if_pos h, if_pos ⟨h.1, h.2, stB_del x h.1⟩]
  · rw [if_neg h, if_neg fun h2 => h ⟨h2.1, h2.2.1⟩]

set_option maxRecDepth 100000 in
set_option maxHeartbeats 4000000 in
theorem dropEI_any (pb : ByteArray → Bool) (hpb : ∀ s, IsP s.data.toList (pb s)) (es : List En) (a : Option Addr) (n c : Nat) (x : ByteArray) (w : World) (hf : EnAt w 0 w.heap.size es a n) (hfit : EnFits es) (hn : n ≤ maxLen) (hz : es.length + enTot es ≤ 1048576) (hx : x.size ≤ maxLen) :
    Calls Tryz.prog 21 #[.slice a n c, .string x] w (EdA (dropSt pb es x) w) := by
  have hB0 := (Below.refl w.heap.size w).alloc (Nat.le_refl _) (.cells #[.string x] 9)
  have hC0 := heap_alloc_new w (.cells #[.string x] 9)
  have hlen := hf.1
  have hdt := delE_tot x es
  have Hed := Lib.hid (editSt_of pb hpb 37 w.heap.size _ rfl cf_dropE es (delE x es) (entF es x).2 n a n c (w.alloc (.cells #[.string x] 9)) (hf.next hB0) hfit hn hz (fun y hy => hfit y (mem_delE.1 hy).1) (by omega) (fun hv => ⟨delE_asc (st_asc hv), by omega⟩)
    (fun V bm hV hbm hM hv => dropE1_any bm w.heap.size n _ es x _ V hV hV.size hbm hM ((hV.block w.heap.size (by simp)).trans hC0) (st_asc hv) (by have := (stB_iff.1 hv).2.2; omega) hx))
  rw [dropSt_ed] at Hed
  clear hf hfit hC0
  go_enter Tryz.func21, Tryz.ntmps21
  go_wp2_with fail
  refine Hed.out.mono ?_
  rintro e w1 ⟨v, bs, rfl, hown, hB1⟩
  have B1 := hB0.trans (hB1.mono hB0.size)
  have Ho := Lib.hid (hown.mono hB0.size)
  clear hown
  go_wp2_with fail
  refine bodyPost_ret (v := .tuple #[v, .bool (dropSt pb es x).2]) (by simp [results, Tryz.results21, go_sem]) rfl ?_
  exact ⟨v, bs, rfl, Ho.out, B1⟩
end Go.Proofs.YtaiijnepeccllaaGreat
