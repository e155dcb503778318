/-
  Lists of entries of one's own, the reads of each in a row of their own.
-/
import Derived.Test.YtaiijnepeccllaaGreatQCopyE
import Derived.Test.YtaiijnepeccllaaGreatGone
import Derived.Test.YtaiijnepeccllaaGreatQMarkNs
namespace Go.Proofs.YtaiijnepeccllaaGreat
set_option linter.unusedVariables false
set_option linter.unusedSimpArgs false
open Go.RowKit

theorem ownsF_keep {w w' : World} {base : Nat} {v : Value} {fs : List Fl} (h : OwnsF w base v fs) (hk : ∀ g, v.ownBlock = some g → w'.heap[g]? = w.heap[g]?) : OwnsF w' base v fs := by
  refine ⟨h.1, h.2.imp id ?_⟩
  rintro ⟨g', cap', cur, e1, h1, h2, r⟩
  exact ⟨g', cap', cur, e1, h1, (hk g' (by rw [e1]; rfl)).trans h2, r⟩
/-- the cells of a row of entries; bs: the blocks of the reads -/
def RowD (w : World) (base : Nat) : List En → List Value → List Nat → Prop
  | [], xs, bs => xs = [] ∧ bs = []
  | (t, s, fs, x) :: r, xs, bs => ∃ v ys bs', xs = .string t :: .string s :: v :: .string x :: ys ∧ OwnsF w base v fs ∧ bs = v.ownBlock.toList ++ bs' ∧ RowD w base r ys bs'
theorem rowD_len {w : World} {base : Nat} : ∀ {es : List En} {xs : List Value} {bs : List Nat}, RowD w base es xs bs → xs.length = es.length * 4
  | [], _, _, ⟨h, _⟩ => by subst h; rfl
  | (_, _, _, _) :: r, _, _, ⟨v, ys, bs', e, _, _, h⟩ => by subst e; have := rowD_len h; simp only [List.length_cons, this]; omega
theorem rowD_keep {w w' : World} {base : Nat} : ∀ {es : List En} {xs : List Value} {bs : List Nat}, (∀ g ∈ bs, w'.heap[g]? = w.heap[g]?) → RowD w base es xs bs → RowD w' base es xs bs
  | [], _, _, _, h => h
  | (t, s, fs, x) :: r, _, _, hk, ⟨v, ys, bs', e, h1, e2, h⟩ => by
    subst e2
    exact ⟨v, ys, bs', e, ownsF_keep h1 fun g hg => hk g (by simp [hg]), rfl, rowD_keep (fun g hg => hk g (List.mem_append_right _ hg)) h⟩
theorem rowD_mono {w : World} {base base' : Nat} (hb : base' ≤ base) : ∀ {es : List En} {xs : List Value} {bs : List Nat}, RowD w base es xs bs → RowD w base' es xs bs
  | [], _, _, h => h
  | (t, s, fs, x) :: r, _, _, ⟨v, ys, bs', e, h1, e2, h⟩ => ⟨v, ys, bs', e, World.ownsRow.mono h1 hb, e2, rowD_mono hb h⟩
theorem rowD_snoc {w : World} {base : Nat} {t s x : ByteArray} {fs : List Fl} {v : Value} (hv : OwnsF w base v fs) : ∀ {es : List En} {xs : List Value} {bs : List Nat}, RowD w base es xs bs → RowD w base (es ++ [(t, s, fs, x)]) (xs ++ [.string t, .string s, v, .string x]) (bs ++ v.ownBlock.toList)
  | [], _, _, ⟨h, h2⟩ => by subst h h2; exact ⟨v, [], [], rfl, hv, by simp, rfl, rfl⟩
  | (t', s', fs', x') :: r, _, _, ⟨v', ys, bs', e, h1, e2, h⟩ => by
    subst e e2
    exact ⟨v', _, bs' ++ v.ownBlock.toList, rfl, h1, by simp, rowD_snoc hv h⟩
theorem rowD_in {w : World} {base : Nat} : ∀ {es : List En} {xs : List Value} {bs : List Nat}, RowD w base es xs bs → ∀ g ∈ bs, base ≤ g ∧ g < w.heap.size
  | [], _, _, ⟨_, h⟩, g, hg => by subst h; cases hg
  | (_, _, _, _) :: r, _, _, ⟨v, ys, bs', _, h1, e2, h⟩, g, hg => by
    subst e2
    rcases List.mem_append.1 hg with hg | hg
    · exact World.ownsRow.lt h1 g (by simpa using hg)
    · exact rowD_in h g hg
theorem rowD_get {w : World} {base : Nat} : ∀ {es : List En} {xs : List Value} {bs : List Nat} {j : Nat} {t s x : ByteArray} {fs : List Fl}, RowD w base es xs bs → es[j]? = some (t, s, fs, x) →
    ∃ a c, xs[j * 4]? = some (.string t) ∧ xs[j * 4 + 1]? = some (.string s) ∧ xs[j * 4 + 2]? = some (.slice a fs.length c) ∧ xs[j * 4 + 3]? = some (.string x) ∧ fs.length ≤ c ∧ OwnsF w base (.slice a fs.length c) fs ∧ ∀ g, (Value.slice a fs.length c).ownBlock = some g → g ∈ bs
  | [], _, _, _, _, _, _, _, _, h => by simp at h
  | (t, s, fs, x) :: r, _, _, 0, _, _, _, _, ⟨v, ys, bs', e, h1, e2, h⟩, hg => by
    simp only [List.getElem?_cons_zero, Option.some.injEq, Prod.mk.injEq] at hg
    obtain ⟨rfl, rfl, rfl, rfl⟩ := hg
    subst e e2
    obtain ⟨a, c, rfl, hf⟩ := h1.form
    have hc : fs.length ≤ c := by
      rcases h1.2 with ⟨h2, h0⟩ | ⟨g, cap, cur, e, _, _, hc, _⟩
      · simp only [Value.slice.injEq] at h2; omega
      · simp only [Value.slice.injEq] at e; omega
    exact ⟨a, c, rfl, rfl, rfl, rfl, hc, h1, fun g hg => by simp [hg]⟩
  | (_, _, _, _) :: r, _, _, j + 1, t, s, x, fs, ⟨v, ys, bs', e, h1, e2, h⟩, hg => by
    subst e e2
    obtain ⟨a, c, q0, q1, q2, q3, hc, ho, hb⟩ := rowD_get (j := j) h (by simpa using hg)
    refine ⟨a, c, ?_, ?_, ?_, ?_, hc, ho, fun g hg => List.mem_append_right _ (hb g hg)⟩
    · rw [show (j + 1) * 4 = j * 4 + 4 from by omega]; simpa using q0
    · rw [show (j + 1) * 4 + 1 = (j * 4 + 1) + 4 from by omega]; simpa using q1
    · rw [show (j + 1) * 4 + 2 = (j * 4 + 2) + 4 from by omega]; simpa using q2
    · rw [show (j + 1) * 4 + 3 = (j * 4 + 3) + 4 from by omega]; simpa using q3
/-- a list of entries of one's own -/
def OwnD (w : World) (base : Nat) (v : Value) (es : List En) (bs : List Nat) : Prop := base ≤ w.heap.size ∧ ∃ xs, w.ownsRow base 26 4 v es.length xs ∧ RowD w base es xs bs ∧ (v.ownBlock.toList ++ bs).Nodup
theorem entries_under : Tryz.prog.underlying 29 = some (.slice 26) := by kernel_rfl
section
variable {w w' : World} {base base' : Nat} {v : Value} {es : List En} {bs : List Nat}
theorem OwnD.nil (w : World) (h : base ≤ w.heap.size) : OwnD w base (.slice none 0 0) [] [] := ⟨h, [], World.ownsRow_nil _ _ _ _, ⟨rfl, rfl⟩, List.nodup_nil⟩
theorem OwnD.made (w : World) : OwnD (w.alloc (.cells #[] 26)) w.heap.size (.slice (some ⟨w.heap.size, 0, none⟩) 0 0) [] [] := ⟨by simp, [], World.ownsRow_made w _ _ (Nat.le_refl _) (by simp [maxLen]) rfl, ⟨rfl, rfl⟩, by simp [Value.ownBlock]⟩
theorem OwnD.in_ (h : OwnD w base v es bs) : ∀ g ∈ v.ownBlock.toList ++ bs, base ≤ g ∧ g < w.heap.size := by
  obtain ⟨_, xs, h1, h2, _⟩ := h
  intro g hg
  rcases List.mem_append.1 hg with hg | hg
  · exact World.ownsRow.lt h1 g (by simpa using hg)
  · exact rowD_in h2 g hg
theorem OwnD.keep (h : OwnD w base v es bs) (hs : w.heap.size ≤ w'.heap.size) (hk : ∀ g ∈ v.ownBlock.toList ++ bs, w'.heap[g]? = w.heap[g]?) : OwnD w' base v es bs := by
  obtain ⟨h0, xs, h1, h2, h3⟩ := h
  refine ⟨by omega, xs, ⟨h1.1, h1.2.imp id ?_⟩, rowD_keep (fun g hg => hk g (List.mem_append_right _ hg)) h2, h3⟩
  rintro ⟨g', cap', cur, e1, q1, q2, r⟩
  exact ⟨g', cap', cur, e1, q1, (hk g' (List.mem_append_left _ (by rw [e1]; simp [Value.ownBlock]))).trans q2, r⟩
theorem OwnD.below (h : OwnD w base v es bs) (hb : Below w.heap.size w w') : OwnD w' base v es bs := h.keep hb.size fun g hg => hb.block g (h.in_ g hg).2
theorem OwnD.alloc (h : OwnD w base v es bs) (o : Obj) : OwnD (w.alloc o) base v es bs := h.keep (by simp) fun g hg => Below.heap_alloc w o g (h.in_ g hg).2
theorem OwnD.mono (h : OwnD w base v es bs) (hb : base' ≤ base) : OwnD w base' v es bs := let ⟨h0, xs, h1, h2, h3⟩ := h; ⟨by omega, xs, World.ownsRow.mono h1 hb, rowD_mono hb h2, h3⟩
/-- as a list that can be read -/
theorem OwnD.form (h : OwnD w base v es bs) : ∃ a c, v = .slice a es.length c ∧ es.length ≤ c ∧ EnAt w 0 w.heap.size es a es.length := by
  obtain ⟨h0, xs, h1, h2, _⟩ := h
  rcases h1.2 with ⟨rfl, hz⟩ | ⟨g, cap, cur, rfl, hb, hg, hc, hm, _⟩
  · exact ⟨none, 0, by rw [hz], by omega, rfl, fun h => absurd h (by omega)⟩
  · refine ⟨_, cap, rfl, hc, rfl, fun _ => ⟨g, 0, rfl, Nat.zero_le _, blk_lt hg, ?_⟩⟩
    rintro j ⟨t, s, fs, x⟩ hj
    have hcell : ∀ j u, xs[j]? = some u → w.cell? ⟨g, j, none⟩ = some u := fun j u hu => by
      have := World.ownsRow.cells h1 (g := g) rfl j u hu
      rwa [add_none, Nat.zero_add] at this
    obtain ⟨a, c, q0, q1, q2, q3, hc', ho, _⟩ := rowD_get h2 hj
    rw [Nat.zero_add]
    exact ⟨hcell _ _ q0, hcell _ _ q1, ⟨a, _, c, hcell _ _ q2, hc', FlIn.of (OwnsF.at_ ho)⟩, hcell _ _ q3⟩
end
/-- one more entry, whose reads lie in a row of their own -/
theorem wpList_append_en {w : World} {ops : Array Oper} {rest : List Oper} {o : Oper} {a : Act} {Q : Exit → Act → World → Prop} (hgd : o.guard = none) (s x : Operand)
    (ho : o.op = .call { callee := .builtin .append, args := #[s, x], argTypes := #[29, 29] })
    (base : Nat) (v : Value) (es : List En) (bs : List Nat) (hs : a.eval s = v) (hown : OwnD w base v es bs) (g c1 : Nat) (hx : a.eval x = .slice (some ⟨g, 0, none⟩) 1 c1)
    (t y z : ByteArray) (fs : List Fl) (u : Value) {T : TypeId} (hbx : w.heap[g]? = some (.cells #[.string t, .string y, u, .string z] T (0, 0))) (hu1 : u.oneCell' = true) (hu : OwnsF w base u fs) (hne : ∀ k, u.ownBlock = some k → k ∉ v.ownBlock.toList ++ bs)
    (h63 : es.length ≤ 1000000000)
    (h : ∀ g cap w', OwnD w' base (.slice (some ⟨g, 0, none⟩) (es.length + 1) cap) (es ++ [(t, y, fs, z)]) (bs ++ u.ownBlock.toList) → w.grownBy w' v.ownBlock → g < w'.heap.size → base ≤ g → wpList Tryz.prog ops Q rest (a.put o.dst (.slice (some ⟨g, 0, none⟩) (es.length + 1) cap)) w') :
    wpList Tryz.prog ops Q (o :: rest) a w := by
  obtain ⟨i, hi, hz0, hz1, hz2⟩ := info_parts entry_info
  have hin := hown.in_
  obtain ⟨h0, xs, h1, h2, h3⟩ := hown
  refine wpList_append_at hgd s x 29 ho base 26 i _ 4 72 entries_under hi hz0 hz1 hz2 rfl (by decide) v es.length xs hs h1 ⟨g, 0, none⟩ 1 c1 [.string t, .string y, u, .string z] hx rfl ?_ (by intro q hq; simp only [List.mem_cons, List.mem_nil_iff, or_false] at hq; rcases hq with rfl | rfl | rfl | rfl <;> first | rfl | exact hu1) (by simp only [maxLen]; omega) (by omega) h0 fun v' w' h8 h9 h10 => ?_
  · intro j q hq
    rw [add_none, cell_of_row _ _ _ _ _ _ hbx]
    simpa using hq
  · have h11 := rowD_snoc (t := t) (s := y) (x := z) hu h2
    have hul := World.ownsRow.lt hu
    have h12 : RowD w' base (es ++ [(t, y, fs, z)]) (xs ++ [.string t, .string y, u, .string z]) (bs ++ u.ownBlock.toList) := by
      refine rowD_keep (fun k hk => ?_) h11
      have hk2 : k < w.heap.size ∧ v.ownBlock ≠ some k := by
        rcases List.mem_append.1 hk with hk | hk
        · exact ⟨(hin k (List.mem_append_right _ hk)).2, fun e => (List.nodup_append.1 h3).2.2 k (by simp [e]) k hk rfl⟩
        · have hk : u.ownBlock = some k := by simpa using hk
          exact ⟨(hul k hk).2, fun e => hne k hk (List.mem_append_left _ (by simp [e]))⟩
      exact h9.block k hk2.1 fun e => hk2.2 e.symm
    have h14 : w'.ownsRow base 26 4 v' (es ++ [(t, y, fs, z)]).length (xs ++ [.string t, .string y, u, .string z]) := by rw [List.length_append]; exact h8
    obtain ⟨g', cap', rfl, h15, h16⟩ := World.ownsRow.form h8 (by omega)
    have hnd : ((Value.slice (some ⟨g', 0, none⟩) (es.length + 1) cap').ownBlock.toList ++ (bs ++ u.ownBlock.toList)).Nodup := by
      have hbs := (List.nodup_append.1 h3).2.1
      have h3' : (bs ++ u.ownBlock.toList).Nodup := by
        refine List.nodup_append.2 ⟨hbs, by cases u.ownBlock <;> simp, fun p hp q hq e => ?_⟩
        subst e
        exact hne p (by simpa using hq) (List.mem_append_right _ hp)
      refine List.nodup_append.2 ⟨by simp [Value.ownBlock], h3', fun p hp q hq e => ?_⟩
      subst e
      have hpg : p = g' := by simpa [Value.ownBlock] using hp
      subst hpg
      have hold : ∀ k ∈ bs ++ u.ownBlock.toList, k < w.heap.size ∧ v.ownBlock ≠ some k := fun k hk => by
        rcases List.mem_append.1 hk with hk | hk
        · exact ⟨(hin k (List.mem_append_right _ hk)).2, fun e => (List.nodup_append.1 h3).2.2 k (by simp [e]) k hk rfl⟩
        · have hk : u.ownBlock = some k := by simpa using hk
          exact ⟨(hul k hk).2, fun e => hne k hk (List.mem_append_left _ (by simp [e]))⟩
      rcases h10 with e | e
      · exact (hold _ hq).2 e.symm
      · have := e p rfl
        have := (hold _ hq).1
        omega
    exact h g' cap' w' ⟨Nat.le_trans h0 h9.size, _, h14, h12, hnd⟩ h9 h16 h15
end Go.Proofs.YtaiijnepeccllaaGreat
