/-
  The reference's l5Put: a list of entries in a row of its own, their reads anywhere else.
-/
import Derived.Test.YtaiijnepeccllaaGreatQPutE
import Derived.Test.YtaiijnepeccllaaGreatQEdD
import Derived.BigQuiet
namespace Go.Proofs.YtaiijnepeccllaaGreat
set_option linter.unusedVariables false
set_option linter.unusedSimpArgs false
open Go.RowKit Go.Maps

/-- a list of files that lies in another block than og -/
def FlX (w : World) (og : Option Nat) (a : Option Addr) (n : Nat) (fs : List Fl) : Prop := fs.length = n ∧ (0 < n → ∃ b off, a = some ⟨b, off, none⟩ ∧ b < w.heap.size ∧ og ≠ some b ∧ ∀ j u, (fcells fs)[j]? = some u → w.cell? ⟨b, off + j, none⟩ = some u)
theorem FlX.keep {w w' : World} {og og' : Option Nat} {a : Option Addr} {n : Nat} {fs : List Fl} (h : FlX w og a n fs) (hs : w.heap.size ≤ w'.heap.size) (hk : ∀ b : Nat, b < w.heap.size → og ≠ some b → w'.heap[b]? = w.heap[b]?) (ho : og' = og ∨ ∀ g, og' = some g → w.heap.size ≤ g) : FlX w' og' a n fs :=
  ⟨h.1, fun hn => let ⟨b, off, e, hb, hne, hc⟩ := h.2 hn; ⟨b, off, e, by omega, by
    rcases ho with ho | ho
    · rw [ho]; exact hne
    · intro e'; have := ho b e'; omega, fun j u hu => (show w'.cell? ⟨b, off + j, none⟩ = w.cell? ⟨b, off + j, none⟩ from World.cell?_of_block (hk b hb hne)).trans (hc j u hu)⟩⟩
/-- the cells of a row of entries -/
def RowW (w : World) (og : Option Nat) : List En → List Value → Prop
  | [], xs => xs = []
  | (t, s, fs, x) :: r, xs => ∃ a n c ys, xs = .string t :: .string s :: .slice a n c :: .string x :: ys ∧ n ≤ c ∧ FlX w og a n fs ∧ RowW w og r ys
theorem rowW_keep {w w' : World} {og og' : Option Nat} (hs : w.heap.size ≤ w'.heap.size) (hk : ∀ b : Nat, b < w.heap.size → og ≠ some b → w'.heap[b]? = w.heap[b]?) (ho : og' = og ∨ ∀ g, og' = some g → w.heap.size ≤ g) : ∀ {es : List En} {xs : List Value}, RowW w og es xs → RowW w' og' es xs
  | [], _, h => h
  | (t, s, fs, x) :: r, _, ⟨a, n, c, ys, e, hc, hf, h⟩ => ⟨a, n, c, ys, e, hc, hf.keep hs hk ho, rowW_keep hs hk ho h⟩
theorem rowW_snoc {w : World} {og : Option Nat} {t s x : ByteArray} {fs : List Fl} {a : Option Addr} {n c : Nat} (hc : n ≤ c) (hf : FlX w og a n fs) : ∀ {es : List En} {xs : List Value}, RowW w og es xs → RowW w og (es ++ [(t, s, fs, x)]) (xs ++ [.string t, .string s, .slice a n c, .string x])
  | [], _, h => by simp only [RowW] at h; subst h; exact ⟨a, n, c, [], rfl, hc, hf, rfl⟩
  | (_, _, _, _) :: r, _, ⟨a', n', c', ys, e, hc', hf', h⟩ => by subst e; exact ⟨a', n', c', _, rfl, hc', hf', rowW_snoc hc hf h⟩
theorem rowW_get {w : World} {og : Option Nat} : ∀ {es : List En} {xs : List Value} {j : Nat} {t s x : ByteArray} {fs : List Fl}, RowW w og es xs → es[j]? = some (t, s, fs, x) →
    ∃ a n c, xs[j * 4]? = some (.string t) ∧ xs[j * 4 + 1]? = some (.string s) ∧ xs[j * 4 + 2]? = some (.slice a n c) ∧ xs[j * 4 + 3]? = some (.string x) ∧ n ≤ c ∧ FlX w og a n fs
  | [], _, _, _, _, _, _, _, h => by simp at h
  | (t, s, fs, x) :: r, _, 0, _, _, _, _, ⟨a, n, c, ys, e, hc, hf, h⟩, hg => by
    simp only [List.getElem?_cons_zero, Option.some.injEq, Prod.mk.injEq] at hg
    obtain ⟨rfl, rfl, rfl, rfl⟩ := hg
    subst e
    exact ⟨a, n, c, rfl, rfl, rfl, rfl, hc, hf⟩
  | (_, _, _, _) :: r, _, j + 1, t, s, x, fs, ⟨_, _, _, ys, e, _, _, h⟩, hg => by
    subst e
    obtain ⟨a, n, c, q0, q1, q2, q3, hc, hf⟩ := rowW_get (j := j) h (by simpa using hg)
    refine ⟨a, n, c, ?_, ?_, ?_, ?_, hc, hf⟩
    · rw [show (j + 1) * 4 = j * 4 + 4 from by omega]; simpa using q0
    · rw [show (j + 1) * 4 + 1 = (j * 4 + 1) + 4 from by omega]; simpa using q1
    · rw [show (j + 1) * 4 + 2 = (j * 4 + 2) + 4 from by omega]; simpa using q2
    · rw [show (j + 1) * 4 + 3 = (j * 4 + 3) + 4 from by omega]; simpa using q3
def OwnW (w : World) (base : Nat) (v : Value) (es : List En) : Prop := base ≤ w.heap.size ∧ ∃ xs, w.ownsRow base 26 4 v es.length xs ∧ RowW w v.ownBlock es xs
section
variable {w w' : World} {base base' : Nat} {v : Value} {es : List En}
theorem OwnW.made (w : World) : OwnW (w.alloc (.cells #[] 26)) w.heap.size (.slice (some ⟨w.heap.size, 0, none⟩) 0 0) [] := ⟨by simp, [], World.ownsRow_made w _ _ (Nat.le_refl _) (by simp [maxLen]) rfl, rfl⟩
theorem OwnW.lt (h : OwnW w base v es) : ∀ g, v.ownBlock = some g → base ≤ g ∧ g < w.heap.size := let ⟨_, xs, h1, _⟩ := h; World.ownsRow.lt h1
theorem OwnW.below (h : OwnW w base v es) (hb : Below w.heap.size w w') : OwnW w' base v es := by
  obtain ⟨h0, xs, h1, h2⟩ := h
  exact ⟨Nat.le_trans h0 hb.size, xs, World.ownsRow.kept (row := none) h1 ⟨hb.os, hb.tape, hb.output, hb.size, fun i hi _ => hb.block i hi⟩ (by cases v.ownBlock <;> simp), rowW_keep hb.size (fun b hbb _ => hb.block b hbb) (.inl rfl) h2⟩
theorem OwnW.drewN (h : OwnW w base v es) (m : Nat) : OwnW (w.drewN m) base v es := h.below (below_drewN (Below.refl _ _) m)
theorem OwnW.mono (h : OwnW w base v es) (hb : base' ≤ base) : OwnW w base' v es := let ⟨h0, xs, h1, h2⟩ := h; ⟨by omega, xs, World.ownsRow.mono h1 hb, h2⟩
theorem OwnW.form (h : OwnW w base v es) : ∃ a c, v = .slice a es.length c ∧ es.length ≤ c ∧ EnAt w 0 w.heap.size es a es.length := by
  obtain ⟨h0, xs, h1, h2⟩ := h
  rcases h1.2 with ⟨rfl, h0⟩ | ⟨g, cap, cur, rfl, hb, hg, hc, hm, _⟩
  · exact ⟨none, 0, by rw [h0], by omega, rfl, fun h => absurd h (by omega)⟩
  · refine ⟨_, cap, rfl, hc, rfl, fun _ => ⟨g, 0, rfl, Nat.zero_le _, blk_lt hg, ?_⟩⟩
    rintro j ⟨t, s, fs, x⟩ hj
    have hcell : ∀ j u, xs[j]? = some u → w.cell? ⟨g, j, none⟩ = some u := fun j u hu => by
      have := World.ownsRow.cells h1 (g := g) rfl j u hu
      rwa [add_none, Nat.zero_add] at this
    obtain ⟨a, n, c, q0, q1, q2, q3, hc', hf⟩ := rowW_get h2 hj
    rw [Nat.zero_add]
    exact ⟨hcell _ _ q0, hcell _ _ q1, ⟨a, n, c, hcell _ _ q2, hc', hf.1, fun hn => let ⟨b, off, e, hb, _, hcc⟩ := hf.2 hn; ⟨b, off, e, Nat.zero_le _, hb, hcc⟩⟩, hcell _ _ q3⟩
end
theorem FlX.of {w : World} {og : Option Nat} {a : Option Addr} {n : Nat} {fs : List Fl} (h : FilesAt w w.heap.size a n fs) (hne : ∀ b off, a = some ⟨b, off, none⟩ → 0 < n → og ≠ some b) : FlX w og a n fs :=
  ⟨h.1, fun hn => let ⟨b, off, e, hb, hc⟩ := h.2 hn; ⟨b, off, e, hb, hne b off e hn, hc⟩⟩
/-- one more entry, whose reads lie elsewhere -/
theorem wpList_append_ew {w : World} {ops : Array Oper} {rest : List Oper} {o : Oper} {a : Act} {Q : Exit → Act → World → Prop} (hgd : o.guard = none) (s x : Operand)
    (ho : o.op = .call { callee := .builtin .append, args := #[s, x], argTypes := #[29, 29] })
    (base : Nat) (v : Value) (es : List En) (hs : a.eval s = v) (hown : OwnW w base v es) (g c1 : Nat) (hx : a.eval x = .slice (some ⟨g, 0, none⟩) 1 c1)
    (t y z : ByteArray) (fs : List Fl) (ad : Option Addr) (n c : Nat) {T : TypeId} (hbx : w.heap[g]? = some (.cells #[.string t, .string y, .slice ad n c, .string z] T (0, 0))) (hc : n ≤ c) (hk : FlX w v.ownBlock ad n fs)
    (h63 : es.length ≤ 1000000000)
    (h : ∀ g cap w', OwnW w' base (.slice (some ⟨g, 0, none⟩) (es.length + 1) cap) (es ++ [(t, y, fs, z)]) → w.grownBy w' v.ownBlock → g < w'.heap.size → (v.ownBlock = some g ∨ w.heap.size ≤ g) → wpList Tryz.prog ops Q rest (a.put o.dst (.slice (some ⟨g, 0, none⟩) (es.length + 1) cap)) w') :
    wpList Tryz.prog ops Q (o :: rest) a w := by
  obtain ⟨i, hi, hz0, hz1, hz2⟩ := info_parts entry_info
  obtain ⟨h0, xs, h1, h2⟩ := hown
  refine wpList_append_at hgd s x 29 ho base 26 i _ 4 72 entries_under hi hz0 hz1 hz2 rfl (by decide) v es.length xs hs h1 ⟨g, 0, none⟩ 1 c1 [.string t, .string y, .slice ad n c, .string z] hx rfl ?_ (by simp [Value.oneCell']) (by simp only [maxLen]; omega) (by omega) h0 fun v' w' h8 h9 h10 => ?_
  · intro j u hu
    rw [add_none, cell_of_row _ _ _ _ _ _ hbx]
    simpa using hu
  · have h12 : RowW w' v'.ownBlock (es ++ [(t, y, fs, z)]) (xs ++ [.string t, .string y, .slice ad n c, .string z]) :=
      rowW_keep h9.size (fun b hb hne => h9.block b hb fun e => hne e.symm) h10 (rowW_snoc hc hk h2)
    have h14 : w'.ownsRow base 26 4 v' (es ++ [(t, y, fs, z)]).length (xs ++ [.string t, .string y, .slice ad n c, .string z]) := by rw [List.length_append]; exact h8
    obtain ⟨g', cap', rfl, h15, h16⟩ := World.ownsRow.form h8 (by omega)
    refine h g' cap' w' ⟨Nat.le_trans h0 h9.size, _, h14, h12⟩ h9 h16 ?_
    rcases h10 with e | e
    · exact .inl e.symm
    · exact .inr (e g' rfl)

/-- where l5Put stands -/
structure PuS (W w : World) (v : Value) (l : List En) (vr : Value) (rs : List En) (bs : List Nat) (t s : ByteArray) (u : Value) (y : ByteArray) : Prop where
  ow : OwnW W (w.heap.size + 1) v l
  bx : BxN W w.heap.size t s u y 26
  rd : OwnD W (w.heap.size + 2) vr rs bs
  ap : ∀ g, v.ownBlock = some g → g ∉ vr.ownBlock.toList ++ bs
  be : Below w.heap.size w W
section
variable {W W' w : World} {v vr u : Value} {l l' rs : List En} {bs : List Nat} {t s y : ByteArray}
theorem PuS.below (h : PuS W w v l vr rs bs t s u y) (hb : Below W.heap.size W W') : PuS W' w v l vr rs bs t s u y := ⟨h.ow.below hb, h.bx.next hb, h.rd.below hb, h.ap, h.be.trans (hb.mono h.be.size)⟩
theorem PuS.drewN (h : PuS W w v l vr rs bs t s u y) (m : Nat) : PuS (W.drewN m) w v l vr rs bs t s u y := h.below (below_drewN (Below.refl _ _) m)
theorem PuS.alloc (h : PuS W w v l vr rs bs t s u y) (o : Obj) : PuS (W.alloc o) w v l vr rs bs t s u y := h.below ((Below.refl _ _).alloc (Nat.le_refl _) o)
theorem PuS.push {g n cap : Nat} (h : PuS W w v l vr rs bs t s u y) (ho : OwnW W' (w.heap.size + 1) (.slice (some ⟨g, 0, none⟩) n cap) l') (hg : W.grownBy W' v.ownBlock) (hn : v.ownBlock = some g ∨ W.heap.size ≤ g) : PuS W' w (.slice (some ⟨g, 0, none⟩) n cap) l' vr rs bs t s u y := by
  refine ⟨ho, (hg.block w.heap.size (blk_lt h.bx) fun e => ?_).trans h.bx, h.rd.keep hg.size fun k hk => hg.block k (h.rd.in_ k hk).2 fun e => h.ap k e.symm hk, fun k hk => ?_, h.be.grown hg h.be.size fun k e => ?_⟩
  · have := (h.ow.lt _ e.symm).1
    omega
  · have hk : g = k := by simpa [Value.ownBlock] using hk
    subst hk
    rcases hn with e | e
    · exact h.ap g e
    · intro hm
      have := (h.rd.in_ g hm).2
      omega
  · have := (h.ow.lt _ e).1
    omega
end
end Go.Proofs.YtaiijnepeccllaaGreat
