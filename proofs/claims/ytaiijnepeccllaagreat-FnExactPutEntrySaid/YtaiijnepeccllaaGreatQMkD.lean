/-
  The laws' markEntryS and heldEntryS over lists of entries of one's own.
-/
import Derived.Test.YtaiijnepeccllaaGreatQOnD
import Derived.Test.YtaiijnepeccllaaGreatQMarkNs
import Derived.Test.YtaiijnepeccllaaGreatGone
namespace Go.Proofs.YtaiijnepeccllaaGreat
set_option linter.unusedVariables false
set_option linter.unusedSimpArgs false
open Go.RowKit

set_option maxRecDepth 100000 in
set_option maxHeartbeats 1000000 in
theorem heldF2_any (a : Option Addr) (n c k : Nat) (gs : List Fl) (w : World) (hf : FilesAt w w.heap.size a n gs) (hm : ∀ j, j < n → gs[j]? = some (mkS (k + 2 * j), mkS (k + 2 * j + 1))) (hn : n ≤ 1048576) (h0 : 1 ≤ k) (h1 : k + 2 * n ≤ 8388600) :
    Calls Tryz.prog 30 #[.slice a n c, .int .i64 k] w fun e w' =>
      e = .returned (.int .i64 (k + 2 * n : Nat)) ∧ Below w.heap.size w w' := by
  have Hm := Lib.hid hm
  clear hm
  go_enter Tryz.func30, Tryz.ntmps30
  go_wp2_with fail
  go_loopw [1, 5] (fun x i wr => ∃ j : Nat, j ≤ n ∧ i = .int .i64 j ∧ x = .int .i64 (k + 2 * j : Nat) ∧ Below w.heap.size w wr) (fun _ i _ => n - (intOf i).toNat)
  case atStart => exact ⟨0, Nat.zero_le _, rfl, by simp, Below.refl _ _⟩
  case round =>
    obtain ⟨j, hj, rfl, rfl, hB⟩ := hrel
    by_cases hlt : j < n
    · obtain ⟨b, off, p, t, rfl, hb, hg, hc1, hc2⟩ := (hf.below hB).get hlt
      have hg2 := Hm.out j hlt
      rw [hg] at hg2
      obtain ⟨rfl, rfl⟩ : p = mkS (k + 2 * j) ∧ t = mkS (k + 2 * j + 1) := by cases hg2; exact ⟨rfl, rfl⟩
      clear hg hg2
      have hd1 : ((mkS (k + 2 * j)).toList == (mkS (k + 2 * j)).toList) = true := by simp
      have hd2 : ((mkS (k + 2 * j + 1)).toList == (mkS (k + 2 * j + 1)).toList) = true := by simp
      go_wp2_with fail
      have hbw : b < wr.heap.size := by have := hB.size; omega
      go_region_held3 (fun w' => w'.cell? ⟨b, off + j * 2, none⟩ = some (.string (mkS (k + 2 * j)))) (first | go_keep | exact (hB1.cell (p := ⟨b, off + j * 2, none⟩) hbw).trans hc1) ((go_at_call 28; refine (markText_any (k + 2 * j) _ (by omega) (by omega)).mono ?_; rintro e w1 ⟨rfl, hB1⟩))
      have B1 := hB.drew.trans (hB1.mono hB.size)
      have hc3 := (hB1.cell (p := ⟨b, off + j * 2 + 1, none⟩) hbw).trans hc2
      have hbw1 : b < w1.heap.size := by have := B1.size; omega
      clear hc1 hc2 hB1
      go_wp2_with fail
      go_region_held3 (fun w' => w'.cell? ⟨b, off + j * 2 + 1, none⟩ = some (.string (mkS (k + 2 * j + 1)))) (first | go_keep | exact (hB2.cell (p := ⟨b, off + j * 2 + 1, none⟩) hbw1).trans hc3) ((go_at_call 28; refine (markText_at (k + 2 * j + 1) _ (by omega) (by omega) (by omega)).mono ?_; rintro e w2 ⟨rfl, hB2⟩))
      have B2 := B1.drew.trans (hB2.mono B1.size)
      clear hB2 hc3
      go_wp2_with fail
      exact ⟨⟨j + 1, by omega, by go_num, by go_num, B2⟩, by simp [intOf]; omega⟩
    · have e : j = n := by omega
      have Hr : Hid (((k + 2 * j : Nat) : Int) = ((k + 2 * n : Nat) : Int)) := Lib.hid (by rw [e])
      clear e
      go_wp2_with fail
      go_ret
      exact ⟨ret_int Hr.out, hB⟩
/-- the entries marked from k on -/
def mrkE : Nat → List En → List En
  | _, [] => []
  | k, (_, _, fs, _) :: r => (mkS k, mkS (k + 1), mrk (k + 2) fs.length fs, mkS (k + 2 + 2 * fs.length)) :: mrkE (k + (3 + 2 * fs.length)) r
theorem mrkE_len : ∀ (k : Nat) (es : List En), (mrkE k es).length = es.length
  | _, [] => rfl
  | k, (_, _, fs, _) :: r => by simp only [mrkE, List.length_cons, mrkE_len _ r]
theorem mrkE_get : ∀ {k : Nat} {es : List En} {j : Nat} {t s x : ByteArray} {fs : List Fl}, es[j]? = some (t, s, fs, x) →
    (mrkE k es)[j]? = some (mkS (k + enMk (es.take j)), mkS (k + enMk (es.take j) + 1), mrk (k + enMk (es.take j) + 2) fs.length fs, mkS (k + enMk (es.take j) + 2 + 2 * fs.length))
  | _, [], _, _, _, _, _, h => by simp at h
  | k, (t', s', fs', x') :: r, 0, t, s, x, fs, h => by
    simp only [List.getElem?_cons_zero, Option.some.injEq, Prod.mk.injEq] at h
    obtain ⟨rfl, rfl, rfl, rfl⟩ := h
    simp [mrkE, enMk]
  | k, (t', s', fs', x') :: r, j + 1, t, s, x, fs, h => by
    have := mrkE_get (k := k + (3 + 2 * fs'.length)) (es := r) (j := j) (by simpa using h)
    simp only [mrkE, List.getElem?_cons_succ, List.take_succ_cons, enMk]
    rw [this]
    simp only [Nat.add_assoc]
theorem enMk_take {es : List En} {j : Nat} {t s x : ByteArray} {fs : List Fl} (h : es[j]? = some (t, s, fs, x)) : enMk (es.take (j + 1)) = enMk (es.take j) + (3 + 2 * fs.length) := by
  rw [List.take_add_one, h]
  have : ∀ l : List En, enMk (l ++ [(t, s, fs, x)]) = enMk l + (3 + 2 * fs.length) := fun l => by
    induction l with
    | nil => simp [enMk]
    | cons y l ih => simp only [List.cons_append, enMk, ih]; omega
  simpa using this (es.take j)
theorem enMk_take_le (es : List En) (j : Nat) : enMk (es.take j) ≤ enMk es := by
  induction es generalizing j with
  | nil => simp
  | cons y l ih =>
    cases j with
    | zero => simp [enMk]
    | succ j => have := ih j; simp only [List.take_succ_cons, enMk]; omega
section
variable {w w' : World} {base : Nat}
theorem rowD_set0 {t0 : ByteArray} : ∀ {es : List En} {xs : List Value} {bs : List Nat} {j : Nat} {t s x : ByteArray} {fs : List Fl}, RowD w base es xs bs → es[j]? = some (t, s, fs, x) → RowD w base (es.set j (t0, s, fs, x)) (xs.set (j * 4) (.string t0)) bs
  | [], _, _, _, _, _, _, _, _, h => by simp at h
  | (t, s, fs, x) :: r, _, _, 0, _, _, _, _, ⟨v, ys, bs', e, h1, e2, h⟩, hg => by
    simp only [List.getElem?_cons_zero, Option.some.injEq, Prod.mk.injEq] at hg
    obtain ⟨rfl, rfl, rfl, rfl⟩ := hg
    subst e e2
    exact ⟨v, ys, bs', rfl, h1, rfl, h⟩
  | (t', s', fs', x') :: r, _, _, j + 1, t, s, x, fs, ⟨v, ys, bs', e, h1, e2, h⟩, hg => by
    subst e e2
    have := rowD_set0 (t0 := t0) (j := j) h (by simpa using hg)
    exact ⟨v, _, bs', by rw [show (j + 1) * 4 = j * 4 + 4 from by omega]; rfl, h1, rfl, this⟩
theorem rowD_set1 {t0 : ByteArray} : ∀ {es : List En} {xs : List Value} {bs : List Nat} {j : Nat} {t s x : ByteArray} {fs : List Fl}, RowD w base es xs bs → es[j]? = some (t, s, fs, x) → RowD w base (es.set j (t, t0, fs, x)) (xs.set (j * 4 + 1) (.string t0)) bs
  | [], _, _, _, _, _, _, _, _, h => by simp at h
  | (t, s, fs, x) :: r, _, _, 0, _, _, _, _, ⟨v, ys, bs', e, h1, e2, h⟩, hg => by
    simp only [List.getElem?_cons_zero, Option.some.injEq, Prod.mk.injEq] at hg
    obtain ⟨rfl, rfl, rfl, rfl⟩ := hg
    subst e e2
    exact ⟨v, ys, bs', rfl, h1, rfl, h⟩
  | (t', s', fs', x') :: r, _, _, j + 1, t, s, x, fs, ⟨v, ys, bs', e, h1, e2, h⟩, hg => by
    subst e e2
    have := rowD_set1 (t0 := t0) (j := j) h (by simpa using hg)
    exact ⟨v, _, bs', by rw [show (j + 1) * 4 + 1 = (j * 4 + 1) + 4 from by omega]; rfl, h1, rfl, this⟩
theorem rowD_set3 {t0 : ByteArray} : ∀ {es : List En} {xs : List Value} {bs : List Nat} {j : Nat} {t s x : ByteArray} {fs : List Fl}, RowD w base es xs bs → es[j]? = some (t, s, fs, x) → RowD w base (es.set j (t, s, fs, t0)) (xs.set (j * 4 + 3) (.string t0)) bs
  | [], _, _, _, _, _, _, _, _, h => by simp at h
  | (t, s, fs, x) :: r, _, _, 0, _, _, _, _, ⟨v, ys, bs', e, h1, e2, h⟩, hg => by
    simp only [List.getElem?_cons_zero, Option.some.injEq, Prod.mk.injEq] at hg
    obtain ⟨rfl, rfl, rfl, rfl⟩ := hg
    subst e e2
    exact ⟨v, ys, bs', rfl, h1, rfl, h⟩
  | (t', s', fs', x') :: r, _, _, j + 1, t, s, x, fs, ⟨v, ys, bs', e, h1, e2, h⟩, hg => by
    subst e e2
    have := rowD_set3 (t0 := t0) (j := j) h (by simpa using hg)
    exact ⟨v, _, bs', by rw [show (j + 1) * 4 + 3 = (j * 4 + 3) + 4 from by omega]; rfl, h1, rfl, this⟩
/-- the reads of one entry are written to -/
theorem rowD_reads : ∀ {es : List En} {xs : List Value} {bs : List Nat} {j : Nat} {t s x : ByteArray} {fs gs : List Fl} {u : Value}, RowD w base es xs bs → bs.Nodup → es[j]? = some (t, s, fs, x) → xs[j * 4 + 2]? = some u → OwnsF w' base u gs → (∀ g ∈ bs, u.ownBlock ≠ some g → w'.heap[g]? = w.heap[g]?) → RowD w' base (es.set j (t, s, gs, x)) xs bs
  | [], _, _, _, _, _, _, _, _, _, _, _, h, _, _, _ => by simp at h
  | (t, s, fs, x) :: r, _, _, 0, _, _, _, _, gs, u, ⟨v, ys, bs', e, h1, e2, h⟩, hn, hg, hu, hw, hk => by
    simp only [List.getElem?_cons_zero, Option.some.injEq, Prod.mk.injEq] at hg
    obtain ⟨rfl, rfl, rfl, rfl⟩ := hg
    subst e e2
    simp only [Nat.zero_mul, Nat.zero_add, List.getElem?_cons_succ, List.getElem?_cons_zero, Option.some.injEq] at hu
    subst hu
    refine ⟨v, ys, bs', rfl, hw, rfl, rowD_keep (fun g hg => hk g (List.mem_append_right _ hg) fun e => ?_) h⟩
    exact (List.nodup_append.1 hn).2.2 g (Option.mem_toList.2 e) g hg rfl
  | (t', s', fs', x') :: r, _, _, j + 1, t, s, x, fs, gs, u, ⟨v, ys, bs', e, h1, e2, h⟩, hn, hg, hu, hw, hk => by
    subst e e2
    have hu' : ys[j * 4 + 2]? = some u := by rw [show (j + 1) * 4 + 2 = (j * 4 + 2) + 4 from by omega] at hu; simpa using hu
    have hin : ∀ g, u.ownBlock = some g → g ∈ bs' := fun g hg2 => by
      obtain ⟨a, c, _, _, q2, _, _, _, hb⟩ := rowD_get (j := j) h (by simpa using hg)
      rw [hu'] at q2
      cases q2
      exact hb g hg2
    have := rowD_reads (j := j) (gs := gs) h (List.nodup_append.1 hn).2.1 (by simpa using hg) hu' hw (fun g hg2 hne => hk g (List.mem_append_right _ hg2) hne)
    refine ⟨v, ys, bs', rfl, ownsF_keep h1 fun g hg2 => hk g (List.mem_append_left _ (Option.mem_toList.2 hg2)) fun e => ?_, rfl, this⟩
    exact (List.nodup_append.1 hn).2.2 g (Option.mem_toList.2 hg2) g (hin g e) rfl
end
section
variable {w w' : World} {base g cap n : Nat} {es : List En} {bs : List Nat}
theorem OwnD.some_ (h : OwnD w base (.slice (some ⟨g, 0, none⟩) n cap) es bs) : ∃ xs, w.ownsRow base 26 4 (.slice (some ⟨g, 0, none⟩) n cap) es.length xs ∧ RowD w base es xs bs ∧ g ∉ bs ∧ bs.Nodup := by
  obtain ⟨_, xs, h1, h2, h3⟩ := h
  obtain ⟨_, h4, h5⟩ := List.nodup_append.1 h3
  exact ⟨xs, h1, h2, fun hm => h5 g (by simp [Value.ownBlock]) g hm rfl, h4⟩
theorem OwnD.num (h : OwnD w base (.slice (some ⟨g, 0, none⟩) n cap) es bs) : n = es.length := by
  obtain ⟨_, xs, h1, _⟩ := h
  rcases h1.2 with ⟨h2, _⟩ | ⟨g', cap', cur, e, _⟩
  · simp at h2
  · simp only [Value.slice.injEq] at e
    exact e.2.1
/-- the cells of an entry -/
theorem OwnD.cells (h : OwnD w base (.slice (some ⟨g, 0, none⟩) n cap) es bs) {j : Nat} {t s x : ByteArray} {fs : List Fl} (hg : es[j]? = some (t, s, fs, x)) :
    ∃ a c, w.cell? ⟨g, j * 4, none⟩ = some (.string t) ∧ w.cell? ⟨g, j * 4 + 1, none⟩ = some (.string s) ∧ w.cell? ⟨g, j * 4 + 2, none⟩ = some (.slice a fs.length c) ∧ w.cell? ⟨g, j * 4 + 3, none⟩ = some (.string x) ∧ OwnsF w base (.slice a fs.length c) fs ∧ (∀ k, (Value.slice a fs.length c).ownBlock = some k → k ∈ bs) := by
  obtain ⟨xs, h1, h2, _, _⟩ := h.some_
  have hcell : ∀ j u, xs[j]? = some u → w.cell? ⟨g, j, none⟩ = some u := fun j u hu => by
    have := World.ownsRow.cells h1 (g := g) rfl j u hu
    rwa [add_none, Nat.zero_add] at this
  obtain ⟨a, c, q0, q1, q2, q3, _, ho, hb⟩ := rowD_get h2 hg
  exact ⟨a, c, hcell _ _ q0, hcell _ _ q1, hcell _ _ q2, hcell _ _ q3, ho, hb⟩
theorem OwnD.frozen (h : OwnD w base (.slice (some ⟨g, 0, none⟩) n cap) es bs) (i : Nat) : w.frozen? ⟨g, i, none⟩ = false := by
  obtain rfl := h.num
  obtain ⟨xs, h1, _⟩ := h.some_
  exact World.ownsRow.frozenAt h1 i
theorem OwnD.stored (h : OwnD w base (.slice (some ⟨g, 0, none⟩) n cap) es bs) {es' : List En} {i : Nat} {u : Value} (hl : es'.length = es.length) (hr : ∀ xs, RowD w base es xs bs → RowD w base es' (xs.set i u) bs) : OwnD (w.setCell ⟨g, i, none⟩ u) base (.slice (some ⟨g, 0, none⟩) n cap) es' bs := by
  obtain rfl := h.num
  obtain ⟨xs, h1, h2, h3, h4⟩ := h.some_
  obtain ⟨h0, _, _, _, h5⟩ := h
  have h6 := World.ownsRow.stored h1 i u
  refine ⟨by simpa [World.setCell] using h0, _, by rw [hl]; exact h6.1, rowD_keep (fun k hk => Below.heap_setCell w _ _ k (by show k ≠ g; rintro rfl; exact h3 hk)) (hr xs h2), h5⟩
theorem OwnD.reads (h : OwnD w base (.slice (some ⟨g, 0, none⟩) n cap) es bs) {j : Nat} {t s x : ByteArray} {fs gs : List Fl} (hg : es[j]? = some (t, s, fs, x)) {u : Value} (hu : w.cell? ⟨g, j * 4 + 2, none⟩ = some u) (hw : OwnsF w' base u gs) (hgr : w.grownBy w' u.ownBlock) (hub : ∀ k, u.ownBlock = some k → k ∈ bs) : OwnD w' base (.slice (some ⟨g, 0, none⟩) n cap) (es.set j (t, s, gs, x)) bs := by
  have hin := h.in_
  obtain ⟨xs, h1, h2, h3, h4⟩ := h.some_
  obtain ⟨h0, _, _, _, h5⟩ := h
  have hx : xs[j * 4 + 2]? = some u := by
    obtain ⟨a, c, _, _, q2, _⟩ := rowD_get h2 hg
    have := World.ownsRow.cells h1 (g := g) rfl _ _ q2
    rw [add_none, Nat.zero_add, hu] at this
    rw [q2, this]
  have hgg : w'.heap[g]? = w.heap[g]? := hgr.block g (hin g (by simp [Value.ownBlock])).2 fun e => h3 (hub g e.symm)
  refine ⟨Nat.le_trans h0 hgr.size, xs, ⟨by rw [List.length_set]; exact h1.1, h1.2.imp (fun e => by simp at e) ?_⟩, rowD_reads h2 h4 hg hx hw (fun k hk hne => hgr.block k (hin k (List.mem_append_right _ hk)).2 fun e => hne e.symm), h5⟩
  rintro ⟨g', cap', cur, e1, q1, q2, r⟩
  rw [List.length_set]
  cases e1
  exact ⟨g, _, cur, rfl, q1, hgg.trans q2, r⟩
end
end Go.Proofs.YtaiijnepeccllaaGreat
