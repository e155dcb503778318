/-
  An entry put into a list of entries, in plain words; the program's PutEntry.
-/
import Derived.Test.YtaiijnepeccllaaGreatQEdN
namespace Go.Proofs.YtaiijnepeccllaaGreat
set_option linter.unusedVariables false
set_option linter.unusedSimpArgs false
open Go.RowKit Go.Maps

/-- an entry ahead of the first one with a greater target -/
def insE (r : En) : List En → List En
  | [] => [r]
  | x :: rs => if sLess r.1 x.1 = true then r :: x :: rs else x :: insE r rs
/-- the entries with another one at its place -/
def putE (r : En) (rs : List En) : List En := insE r (delE r.1 rs)
theorem mem_insE {r y : En} : ∀ {rs : List En}, y ∈ insE r rs ↔ y = r ∨ y ∈ rs
  | [] => by simp [insE]
  | x :: rs => by
    unfold insE
    split
    · simp
    · simp only [List.mem_cons, mem_insE (rs := rs)]
      constructor
      · rintro (h | h | h)
        · exact .inr (.inl h)
        · exact .inl h
        · exact .inr (.inr h)
      · rintro (h | h | h)
        · exact .inr (.inl h)
        · exact .inl h
        · exact .inr (.inr h)
theorem mem_putE {r y : En} {rs : List En} : y ∈ putE r rs ↔ y = r ∨ (y ∈ rs ∧ y.1 ≠ r.1) := by unfold putE; rw [mem_insE, mem_delE]
theorem insE_asc {r : En} : ∀ {rs : List En}, AscN rs → (∀ x ∈ rs, x.1 ≠ r.1) → AscN (insE r rs)
  | [], _, _ => List.pairwise_singleton _ _
  | x :: rs, h, hn => by
    obtain ⟨h1, h2⟩ := List.pairwise_cons.1 h
    unfold insE
    split
    · rename_i hl
      exact List.pairwise_cons.2 ⟨fun y hy => by
        rcases List.mem_cons.1 hy with rfl | hy
        · exact hl
        · exact sLess_trans hl (h1 y hy), h⟩
    · rename_i hl
      refine List.pairwise_cons.2 ⟨fun y hy => ?_, insE_asc h2 fun z hz => hn z (List.mem_cons_of_mem _ hz)⟩
      rcases mem_insE.1 hy with rfl | hy
      · exact sLess_total (by simpa using hl) (fun e => hn x (List.mem_cons_self ..) e.symm)
      · exact h1 y hy
theorem putE_asc {r : En} {rs : List En} (h : AscN rs) : AscN (putE r rs) := insE_asc (delE_asc h) fun x hx => (mem_delE.1 hx).2
theorem insE_tot (r : En) : ∀ rs : List En, (insE r rs).length = rs.length + 1 ∧ enTot (insE r rs) = enTot rs + enSz r
  | [] => by simp [insE, enTot]
  | x :: rs => by
    unfold insE
    split
    · exact ⟨by simp, by simp only [enTot]; omega⟩
    · have := insE_tot r rs
      exact ⟨by simp only [List.length_cons]; omega, by simp only [enTot]; omega⟩
theorem putE_tot (r : En) (rs : List En) : (putE r rs).length ≤ rs.length + 1 ∧ (putE r rs).length + enTot (putE r rs) ≤ rs.length + 1 + enTot rs + enSz r := by
  have h1 := insE_tot r (delE r.1 rs)
  have h2 := delE_tot r.1 rs
  have h3 : (delE r.1 rs).length ≤ rs.length := List.length_filter_le (fun x : En => decide (x.1 ≠ r.1)) rs
  unfold putE
  omega
/-- a step of l5Put -/
def wst (r : En) (s : List En × Bool) (x : En) : List En × Bool := if s.2 = false ∧ sLess r.1 x.1 = true then (s.1 ++ [r, x], true) else (s.1 ++ [x], s.2)
def withTo (r : En) (l : List En) : List En × Bool := l.foldl (wst r) ([], false)
theorem wst_true (r : En) : ∀ (l acc : List En), l.foldl (wst r) (acc, true) = (acc ++ l, true)
  | [], acc => by simp
  | x :: l, acc => by
    rw [List.foldl_cons, show wst r (acc, true) x = (acc ++ [x], true) by simp [wst], wst_true r l]
    simp
theorem wst_false (r : En) : ∀ (l acc : List En), (if (l.foldl (wst r) (acc, false)).2 = true then (l.foldl (wst r) (acc, false)).1 else (l.foldl (wst r) (acc, false)).1 ++ [r]) = acc ++ insE r l
  | [], acc => by simp [insE]
  | x :: l, acc => by
    rw [List.foldl_cons]
    by_cases h : sLess r.1 x.1 = true
    · rw [show wst r (acc, false) x = (acc ++ [r, x], true) by simp [wst, h], wst_true r l]
      simp [insE, h]
    · rw [show wst r (acc, false) x = (acc ++ [x], false) by simp [wst, h], wst_false r l]
      simp [insE, h]
theorem withTo_ins (r : En) (l : List En) : (if (withTo r l).2 = true then (withTo r l).1 else (withTo r l).1 ++ [r]) = insE r l := by
  unfold withTo
  simpa using wst_false r l []
theorem withTo_succ {r x : En} {l : List En} {k : Nat} (h : l[k]? = some x) : withTo r (l.take (k + 1)) = wst r (withTo r (l.take k)) x := by
  unfold withTo
  rw [List.take_add_one, h, List.foldl_append]
  rfl
theorem mapE_put {r : En} {v : Value} {rs : List En} {gs : List Kv} {w : World} {B : Nat} (hb : EntV w B (r.1, v) r) (h1 : ∀ g ∈ gs, ∃ y ∈ rs, EntV w B g y) (h2 : ∀ y ∈ rs, ∃ g ∈ gs, g.1 = y.1) :
    (∀ g ∈ putV (r.1, v) gs, ∃ y ∈ putE r rs, EntV w B g y) ∧ (∀ y ∈ putE r rs, ∃ g ∈ putV (r.1, v) gs, g.1 = y.1) := by
  constructor
  · intro g hg
    rcases mem_putV.1 hg with rfl | ⟨hg1, hg2⟩
    · exact ⟨r, mem_putE.2 (.inl rfl), hb⟩
    · obtain ⟨y, hy, hyb⟩ := h1 g hg1
      exact ⟨y, mem_putE.2 (.inr ⟨hy, fun e => hg2 (hyb.1.trans e)⟩), hyb⟩
  · intro y hy
    rcases mem_putE.1 hy with rfl | ⟨hy1, hy2⟩
    · exact ⟨_, mem_putV.2 (.inl rfl), rfl⟩
    · obtain ⟨g, hg, e⟩ := h2 y hy1
      exact ⟨g, mem_putV.2 (.inr ⟨hg, fun e' => hy2 (e.symm.trans e')⟩), e⟩
theorem cf_putE (args : Array Value) (w' : World) : Sem.run Tryz.prog (callFunc 35 args) w' = .ok (.enter 35 args) w' := by kernel_rfl

set_option maxRecDepth 100000 in
set_option maxHeartbeats 4000000 in
theorem putE1_any (bm gc n B : Nat) (es : List En) (t s : ByteArray) (fs : List Fl) (y : ByteArray) (a : Option Addr) (c : Nat) (w V : World) (hB : Below B w V) (hBV : B ≤ V.heap.size) (hbm : B ≤ bm) (hM : MapE V bm n es w B) (hbc : BxN V gc t s (.slice a fs.length c) y 26) (hka : FlIn w 0 B a fs.length fs) (hc : fs.length ≤ c) (hn : n ≤ 1000000) (ht : t.size ≤ maxLen) :
    Calls Tryz.prog 35 #[.map (some bm), .pointer (some ⟨gc, 0, none⟩)] V fun e V' => e = .returned (.bool true) ∧ MapE V' bm (n + 1) (putE (t, s, fs, y) es) w B ∧ Below B w V' := by
  have hkey := Lib.hid (WideMaps.keyOf_string_mk (P := Tryz.prog) Tryz.underlying9 ht)
  obtain ⟨D, gs, hown, hrep, hm1, hm2⟩ := hM
  have hput := mapE_put (r := (t, s, fs, y)) (v := .agg #[.string t, .string s, .slice a fs.length c, .string y]) ⟨rfl, a, fs.length, c, rfl, hc, hka⟩ hm1 hm2
  have Hd := Lib.hid (And.intro hput.1 (And.intro hput.2 (hrep.put t (.agg #[.string t, .string s, .slice a fs.length c, .string y]))))
  obtain ⟨q0, q1, q2, q3, _, _, _, _, _⟩ := hbc.facts
  have HB := Lib.hid hB
  clear hrep hm1 hm2 hput hB
  go_enter Tryz.func35, Tryz.ntmps35
  go_wp2_with (at_mapUpdate; refine wpList_mapUpdate_own _ rfl _ _ _ 47 rfl 9 26 elaw Tryz.underlying47 anyElem bm n D rfl hown (by simp only [maxLen]; omega) _ _ _ rfl rfl hkey.out _ _ rfl ?_; intro w4 hown4 hgrow4)
  have hB4 : Below B w w4 := HB.out.grown hgrow4 hBV (fun j e => by cases e; exact hbm)
  have hM4 : MapE w4 bm (n + 1) (putE (t, s, fs, y) es) w B := ⟨_, _, hown4, Hd.out.2.2, Hd.out.1, Hd.out.2.1⟩
  clear hown hown4 hgrow4
  go_ret
  exact ⟨rfl, hM4, hB4⟩

/-- what PutEntry answers -/
def putSt (pb : ByteArray → Bool) (es : List En) (r : En) : List En × Bool := if stB pb es = true ∧ stB pb (putE r es) = true then (putE r es, true) else ([], false)
theorem putSt_ed {pb : ByteArray → Bool} {es : List En} {r : En} : edSt pb es true (putE r es) = putSt pb es r := by
  unfold edSt putSt
  simp

set_option maxRecDepth 100000 in
set_option maxHeartbeats 4000000 in
theorem putEI_any (pb : ByteArray → Bool) (hpb : ∀ s, IsP s.data.toList (pb s)) (es : List En) (a : Option Addr) (n c : Nat) (t s : ByteArray) (fs : List Fl) (y : ByteArray) (a2 : Option Addr) (c2 : Nat) (w : World) (hf : EnAt w 0 w.heap.size es a n) (hk : FilesAt w w.heap.size a2 fs.length fs) (hc : fs.length ≤ c2) (hfit : EnFits es) (hfit2 : EnFit (t, s, fs, y)) (hn : n ≤ maxLen) (hz : es.length + enTot es + enSz (t, s, fs, y) ≤ 1048576) :
    Calls Tryz.prog 18 #[.slice a n c, .agg #[.string t, .string s, .slice a2 fs.length c2, .string y]] w (EdA (putSt pb es (t, s, fs, y)) w) := by
  have hB0 := (Below.refl w.heap.size w).alloc (Nat.le_refl _) (.cells #[.string t, .string s, .slice a2 fs.length c2, .string y] 26)
  have hC0 := BxN.new w t s (.slice a2 fs.length c2) y 26
  have hlen := hf.1
  have hdt := (putE_tot (t, s, fs, y) es).2
  have hdl := (putE_tot (t, s, fs, y) es).1
  have hk0 := (hk.below hB0).more hB0.size
  have Hed := Lib.hid (editSt_of pb hpb 35 w.heap.size _ rfl cf_putE es (putE (t, s, fs, y) es) true (n + 1) a n c (w.alloc (.cells #[.string t, .string s, .slice a2 fs.length c2, .string y] 26)) (hf.next hB0) hfit hn (by omega)
    (fun z hz => by rcases mem_putE.1 hz with rfl | ⟨h, _⟩; exact hfit2; exact hfit z h) (by omega) (fun hv => ⟨putE_asc (st_asc hv), by have := (stB_iff.1 hv).2.2; omega⟩)
    (fun V bm hV hbm hM hv => putE1_any bm w.heap.size n _ es t s fs y a2 c2 _ V hV hV.size hbm hM ((hV.block w.heap.size (by simp)).trans hC0) (FlIn.of hk0) hc (by have := (stB_iff.1 hv).2.2; omega) hfit2.1))
  rw [putSt_ed] at Hed
  clear hf hfit hC0 hk hk0
  go_enter Tryz.func18, Tryz.ntmps18
  go_wp2_with fail
  refine Hed.out.mono ?_
  rintro e w1 ⟨v, bs, rfl, hown, hB1⟩
  have B1 := hB0.trans (hB1.mono hB0.size)
  have Ho := Lib.hid (hown.mono hB0.size)
  clear hown
  go_wp2_with fail
  refine bodyPost_ret (v := .tuple #[v, .bool (putSt pb es (t, s, fs, y)).2]) (by simp [results, Tryz.results18, go_sem]) rfl ?_
  exact ⟨v, bs, rfl, Ho.out, B1⟩
end Go.Proofs.YtaiijnepeccllaaGreat
