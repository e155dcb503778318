/-
  Lists of files as finite maps: what a map as read holds, put in and struck out; the list in the order of its paths. No program is named here.
-/
import Derived.Test.YtpmncjeccemgfaaGreatFiles
import Derived.Sort.KeysCollected
namespace Go.Proofs.YtpmncjeccemgfaaGreat
set_option linter.unusedVariables false
open Go.RowKit Go.Maps

/-! ### the order of strings -/
theorem sLess_lt (a b : ByteArray) : sLess a b = decide (a.data.toList < b.data.toList) := by
  unfold sLess
  rw [Lib.toList_data, Lib.toList_data]
  generalize a.data.toList = x
  generalize b.data.toList = y
  induction x generalizing y with
  | nil => cases y with
    | nil => simp [Op.bytesLess]
    | cons b bs => simp [Op.bytesLess]
  | cons a ts ih =>
    cases y with
    | nil => simp [Op.bytesLess]
    | cons b bs =>
      rw [Op.bytesLess, ih bs]
      by_cases h1 : a < b
      · simp [h1, List.cons_lt_cons_iff]
      · by_cases h2 : a = b
        · subst h2; simp
        · simp [h1, h2, List.cons_lt_cons_iff]
theorem sLess_iff {a b : ByteArray} : sLess a b = true ↔ a.data.toList < b.data.toList := by rw [sLess_lt]; simp
theorem bytes_ext {a b : ByteArray} (h : a.data.toList = b.data.toList) : a = b := WideShapes.bytes_inj h
theorem sLess_irrefl (a : ByteArray) : sLess a a = false := by rw [sLess_lt]; simp
theorem sLess_trans {a b c : ByteArray} (h1 : sLess a b = true) (h2 : sLess b c = true) : sLess a c = true := by
  rw [sLess_iff] at *; exact List.lt_trans h1 h2
theorem sLess_total {a b : ByteArray} (h : sLess a b = false) (hne : a ≠ b) : sLess b a = true := by
  rw [sLess_lt, decide_eq_false_iff_not] at h
  rw [sLess_iff]
  have h2 : b.data.toList ≤ a.data.toList := h
  rcases List.le_iff_lt_or_eq.1 h2 with h3 | h3
  · exact h3
  · exact absurd (bytes_ext h3.symm) hne
theorem sLess_ne {a b : ByteArray} (h : sLess a b = true) : a ≠ b := by rintro rfl; rw [sLess_irrefl] at h; cases h
theorem sLess_asymm {a b : ByteArray} (h : sLess a b = true) : sLess b a = false := by
  cases h2 : sLess b a
  · rfl
  · have := sLess_trans h h2; rw [sLess_irrefl] at this; cases this
theorem leB_iff {a b : ByteArray} : leB a.data.toList b.data.toList = !sLess b a := by
  rw [sLess_lt]
  generalize a.data.toList = x
  generalize b.data.toList = y
  show decide (x ≤ y) = _
  by_cases h : y < x
  · rw [decide_eq_true h, decide_eq_false (fun hle : x ≤ y => hle h)]; rfl
  · rw [decide_eq_false h, decide_eq_true (show x ≤ y from h)]; rfl

/-! ### lists in order -/
/-- the paths ascend -/
def Asc (fs : List Fl) : Prop := fs.Pairwise fun a b => sLess a.1 b.1 = true
/-- no path stands twice -/
def Once (fs : List Fl) : Prop := fs.Pairwise fun a b => a.1 ≠ b.1
theorem Asc.once {fs : List Fl} (h : Asc fs) : Once fs := h.imp fun h => sLess_ne h
theorem Once.perm {fs gs : List Fl} (h : Once fs) (hp : fs.Perm gs) : Once gs := (hp.pairwise_iff (fun {_ _} hne => Ne.symm hne)).1 h
theorem Once.filter {fs : List Fl} (h : Once fs) (q : Fl → Bool) : Once (fs.filter q) := List.Pairwise.filter q h
theorem Asc.filter {fs : List Fl} (h : Asc fs) (q : Fl → Bool) : Asc (fs.filter q) := List.Pairwise.filter q h
theorem Once.inj {fs : List Fl} (h : Once fs) {f g : Fl} (hf : f ∈ fs) (hg : g ∈ fs) (he : f.1 = g.1) : f = g := by
  induction fs with
  | nil => cases hf
  | cons x fs ih =>
    obtain ⟨h1, h2⟩ := List.pairwise_cons.1 h
    rcases List.mem_cons.1 hf with e1 | m1 <;> rcases List.mem_cons.1 hg with e2 | m2
    · rw [e1, e2]
    · subst e1; exact absurd he (h1 _ m2)
    · subst e2; exact absurd he.symm (h1 _ m1)
    · exact ih h2 m1 m2
/-- two ascending lists that hold the same files are one -/
theorem Asc.eq {fs gs : List Fl} (h1 : Asc fs) (h2 : Asc gs) (hp : fs.Perm gs) : fs = gs :=
  List.Perm.eq_of_pairwise (le := fun a b : Fl => sLess a.1 b.1 = true) (fun a b _ _ h h' => by rw [sLess_asymm h] at h'; cases h') h1 h2 hp

/-- one put in, in whatever place -/
def putU (f : Fl) (fs : List Fl) : List Fl := f :: fs.filter fun g => decide (g.1 ≠ f.1)
/-- one struck out -/
def delU (p : ByteArray) (fs : List Fl) : List Fl := fs.filter fun g => decide (g.1 ≠ p)
theorem putU_once {f : Fl} {fs : List Fl} (h : Once fs) : Once (putU f fs) :=
  List.pairwise_cons.2 ⟨fun g hg => by have := (List.mem_filter.1 hg).2; simp at this; exact fun e => this e.symm, h.filter _⟩
theorem putU_perm {f : Fl} {fs gs : List Fl} (h : fs.Perm gs) : (putU f fs).Perm (putU f gs) := (h.filter _).cons _
theorem delU_perm {p : ByteArray} {fs gs : List Fl} (h : fs.Perm gs) : (delU p fs).Perm (delU p gs) := h.filter _
theorem putU_new {f : Fl} {fs : List Fl} (h : ∀ g ∈ fs, g.1 ≠ f.1) : (putU f fs).Perm (fs ++ [f]) := by
  unfold putU
  rw [List.filter_eq_self.2 fun g hg => by simpa using h g hg]
  exact (List.perm_append_singleton f fs).symm
theorem mem_putU {f g : Fl} {fs : List Fl} : g ∈ putU f fs ↔ g = f ∨ (g ∈ fs ∧ g.1 ≠ f.1) := by simp [putU]
theorem mem_delU {p : ByteArray} {g : Fl} {fs : List Fl} : g ∈ delU p fs ↔ g ∈ fs ∧ g.1 ≠ p := by simp [delU]

/-- the files in the order of their paths -/
def srtF (fs : List Fl) : List Fl := fs.mergeSort fun a b => leB a.1.data.toList b.1.data.toList
theorem leB_trans (a b c : List UInt8) (h1 : leB a b = true) (h2 : leB b c = true) : leB a c = true := by simp only [leB, decide_eq_true_eq] at *; exact List.le_trans h1 h2
theorem leB_total (a b : List UInt8) : (leB a b || leB b a) = true := by simp only [leB, Bool.or_eq_true, decide_eq_true_eq]; exact List.le_total a b
theorem srtF_perm (fs : List Fl) : (srtF fs).Perm fs := List.mergeSort_perm _ _
theorem srtF_pw (fs : List Fl) : (srtF fs).Pairwise fun a b => leB a.1.data.toList b.1.data.toList = true :=
  List.pairwise_mergeSort (le := fun a b : Fl => leB a.1.data.toList b.1.data.toList) (fun a b c => leB_trans a.1.data.toList b.1.data.toList c.1.data.toList) (fun a b => leB_total a.1.data.toList b.1.data.toList) fs
theorem srtF_asc {fs : List Fl} (h : Once fs) : Asc (srtF fs) := by
  have h1 : (srtF fs).Pairwise fun a b => leB a.1.data.toList b.1.data.toList = true := srtF_pw fs
  have h2 : Once (srtF fs) := h.perm (srtF_perm fs).symm
  refine (h1.and h2).imp ?_
  rintro a b ⟨hle, hne⟩
  rw [leB_iff] at hle
  exact sLess_total (by simpa using hle) (fun e => hne e.symm)
theorem srtF_eq {fs gs : List Fl} (h : Once fs) (hp : fs.Perm gs) (ha : Asc gs) : srtF fs = gs := (srtF_asc h).eq ha ((srtF_perm fs).trans hp)
theorem srtF_keys {fs : List Fl} {ss : List (List UInt8)} (hp : ss.Perm (fs.map fun f => f.1.data.toList)) : ss.mergeSort (fun x y => decide (x ≤ y)) = (srtF fs).map fun f => f.1.data.toList := by
  refine List.Perm.eq_of_pairwise (le := fun a b => leB a b = true) (fun a b _ _ h1 h2 => ?_) (List.pairwise_mergeSort leB_trans leB_total ss) ?_ (((List.mergeSort_perm ss _).trans hp).trans ((srtF_perm fs).symm.map _))
  · simp only [leB, decide_eq_true_eq] at h1 h2
    exact List.le_antisymm h1 h2
  · exact List.pairwise_map.2 (srtF_pw fs)

/-! ### a map as read -/
section
variable {H : Type}
def ent (f : Fl) : Lit × DataW H := (.string f.1.data.toList, .lit (.string f.2.data.toList))
/-- the map D holds just the files of gs -/
def Rep (D : DataW H) (gs : List Fl) : Prop := ∃ es, D = .map es ∧ es.Perm (gs.map ent) ∧ Once gs
theorem rep_empty : Rep (.map [] : DataW H) [] := ⟨[], rfl, .nil, List.Pairwise.nil⟩
theorem Rep.once {D : DataW H} {gs : List Fl} (h : Rep D gs) : Once gs := let ⟨_, _, _, h⟩ := h; h
theorem Rep.perm {D : DataW H} {gs hs : List Fl} (h : Rep D gs) (hp : gs.Perm hs) : Rep D hs := by
  obtain ⟨es, rfl, h1, h2⟩ := h
  exact ⟨es, rfl, h1.trans (hp.map _), h2.perm hp⟩
theorem insert_perm (x : Lit × DataW H) : ∀ l : List (Lit × DataW H), (DataW.insert x l).Perm (x :: l)
  | [] => .refl _
  | y :: r => by
    unfold DataW.insert
    split
    · exact .refl _
    · exact ((insert_perm x r).cons y).trans (.swap x y r)
theorem sameKey_str (a b : List UInt8) : (Lit.string a).sameKey (.string b) = decide (a = b) := by
  by_cases h : a = b <;> simp [Lit.sameKey, h]
theorem ent_filter (p : ByteArray) (gs : List Fl) : ((gs.map ent : List (Lit × DataW H)).filter fun e => !e.1.sameKey (.string p.data.toList)) = (delU p gs).map ent := by
  unfold delU
  rw [List.filter_map]
  congr 1
  refine List.filter_congr fun g _ => ?_
  show (!(Lit.string g.1.data.toList).sameKey _) = _
  rw [sameKey_str]
  by_cases h : g.1 = p
  · simp [h]
  · have : ¬ g.1.data.toList = p.data.toList := fun e => h (bytes_ext e)
    simp only [this, h, decide_false, Bool.not_false, ne_eq, not_false_eq_true, decide_true]
theorem Rep.put {D : DataW H} {gs : List Fl} (h : Rep D gs) (f : Fl) : Rep (D.put (.string f.1.data.toList) (.lit (.string f.2.data.toList))) (putU f gs) := by
  obtain ⟨es, rfl, h1, h2⟩ := h
  refine ⟨_, rfl, (insert_perm _ _).trans ?_, putU_once h2⟩
  have h3 := h1.filter fun e => !e.1.sameKey (.string f.1.data.toList)
  rw [ent_filter] at h3
  exact h3.cons _
theorem Rep.del {D : DataW H} {gs : List Fl} (h : Rep D gs) (p : ByteArray) : Rep (D.del (.string p.data.toList)) (delU p gs) := by
  obtain ⟨es, rfl, h1, h2⟩ := h
  refine ⟨_, rfl, ?_, h2.filter _⟩
  have h3 := h1.filter fun e => !e.1.sameKey (.string p.data.toList)
  rwa [ent_filter] at h3
theorem Rep.keys {D : DataW H} {gs : List Fl} (h : Rep D gs) : (strKeys D).Perm (gs.map fun f => f.1.data.toList) := by
  obtain ⟨es, rfl, h1, _⟩ := h
  have := h1.map fun p : Lit × DataW H => strOf p.1
  rw [List.map_map] at this
  exact this
theorem Rep.size {D : DataW H} {gs : List Fl} (h : Rep D gs) : Maps.size D = gs.length := by
  obtain ⟨es, rfl, h1, _⟩ := h
  rw [size_eq, h1.length_eq, List.length_map]
theorem Rep.has {D : DataW H} {gs : List Fl} (h : Rep D gs) (p : ByteArray) : Maps.has D (.string p.data.toList) = gs.any fun g => decide (g.1 = p) := by
  obtain ⟨es, rfl, h1, _⟩ := h
  rw [has_eq, h1.any_eq, List.any_map]
  congr 1
  funext g
  show (Lit.string g.1.data.toList).sameKey (.string p.data.toList) = decide (g.1 = p)
  rw [sameKey_str]
  by_cases hg : g.1 = p
  · simp [hg]
  · have : ¬ g.1.data.toList = p.data.toList := fun e => hg (bytes_ext e)
    simp [hg, this]
theorem Rep.at_ {D : DataW H} {gs : List Fl} (h : Rep D gs) {p t : ByteArray} (hm : (p, t) ∈ gs) (z : DataW H) : D.atKey (.string p.data.toList) z = .lit (.string t.data.toList) := by
  obtain ⟨es, rfl, h1, h2⟩ := h
  show (match es.find? (fun e => e.1.sameKey (.string p.data.toList)) with | some e => e.2 | none => z) = _
  cases hf : es.find? (fun e => e.1.sameKey (.string p.data.toList)) with
  | none =>
    rw [List.find?_eq_none] at hf
    have := hf (ent (p, t)) (h1.mem_iff.2 (List.mem_map.2 ⟨_, hm, rfl⟩))
    simp [ent, sameKey_str] at this
  | some e =>
    have hk := List.find?_some hf
    obtain ⟨g, hg, rfl⟩ := List.mem_map.1 (h1.mem_iff.1 (List.mem_of_find?_eq_some hf))
    simp [ent, sameKey_str] at hk
    obtain rfl : g = (p, t) := h2.inj hg hm (bytes_ext (by simpa using hk))
    rfl
end

/-! ### what valid lists are -/
theorem okTo_iff {fs : List Fl} {n : Nat} : okTo fs n = true ↔ ∀ k, k < n → okAt fs k = true := by
  unfold okTo
  rw [List.all_eq_true]
  exact ⟨fun h k hk => h k (by simpa using hk), fun h k hk => h k (by simpa using hk)⟩
theorem asc_of_next {fs : List Fl} (h : ∀ k p t q r, fs[k + 1]? = some (p, t) → fs[k]? = some (q, r) → sLess q p = true) : Asc fs := by
  induction fs with
  | nil => exact List.Pairwise.nil
  | cons x fs ih =>
    have hi := ih fun k p t q r h1 h2 => h (k + 1) p t q r (by simpa using h1) (by simpa using h2)
    refine List.pairwise_cons.2 ⟨fun y hy => ?_, hi⟩
    cases fs with
    | nil => cases hy
    | cons z fs =>
      have hz : sLess x.1 z.1 = true := h 0 z.1 z.2 x.1 x.2 rfl rfl
      rcases List.mem_cons.1 hy with rfl | hy
      · exact hz
      · exact sLess_trans hz ((List.pairwise_cons.1 hi).1 y hy)
theorem validB_iff {fs : List Fl} : validB fs = true ↔ fs.length ≤ 12 ∧ (∀ f ∈ fs, pathB f.1 = true ∧ textB f.2 = true) ∧ Asc fs := by
  unfold validB
  rw [Bool.and_eq_true, decide_eq_true_eq, okTo_iff]
  refine and_congr_right fun _ => ⟨fun h => ⟨fun f hf => ?_, asc_of_next fun k p t q r h1 h2 => ?_⟩, fun ⟨h1, h2⟩ k hk => ?_⟩
  · obtain ⟨k, hk⟩ := List.getElem?_of_mem hf
    have := h k (List.getElem?_eq_some_iff.1 hk).1
    unfold okAt at this
    rw [hk] at this
    simp only [Bool.and_eq_true] at this
    exact this.1
  · have := h (k + 1) (List.getElem?_eq_some_iff.1 h1).1
    unfold okAt at this
    rw [h1] at this
    simp only [h2, Bool.and_eq_true] at this
    exact this.2
  · have hg : fs[k]? = some (fs[k].1, fs[k].2) := List.getElem?_eq_getElem hk
    have hv := h1 fs[k] (List.getElem_mem _)
    cases k with
    | zero => exact okAt_zero hg hv.1 hv.2
    | succ k =>
      have hq : fs[k]? = some (fs[k].1, fs[k].2) := List.getElem?_eq_getElem (by omega)
      rw [okAt_succ hg hq hv.1 hv.2]
      exact (List.pairwise_iff_getElem.1 h2) k (k + 1) (by omega) hk (by omega)
theorem valid_asc {fs : List Fl} (h : validB fs = true) : Asc fs := (validB_iff.1 h).2.2

theorem findF_mem {fs : List Fl} (h : Once fs) {p t : ByteArray} (hm : (p, t) ∈ fs) : findF fs p = (t, true) := by
  induction fs with
  | nil => cases hm
  | cons x fs ih =>
    obtain ⟨h1, h2⟩ := List.pairwise_cons.1 h
    rw [findF]
    rcases List.mem_cons.1 hm with rfl | hm
    · simp
    · rw [if_neg (h1 _ hm)]
      exact ih h2 hm
theorem findF_not {fs : List Fl} {p : ByteArray} (h : ∀ g ∈ fs, g.1 ≠ p) : findF fs p = (.empty, false) :=
  findF_none fun j q t hj => h _ (List.mem_of_getElem? hj)
theorem findF_cases (fs : List Fl) (p : ByteArray) : ((∃ t, (p, t) ∈ fs ∧ findF fs p = (t, true)) ∨ ((∀ g ∈ fs, g.1 ≠ p) ∧ findF fs p = (.empty, false))) := by
  induction fs with
  | nil => exact .inr ⟨by simp, rfl⟩
  | cons x fs ih =>
    rw [findF]
    by_cases h : x.1 = p
    · rw [if_pos h]; exact .inl ⟨x.2, by rw [← h]; simp, rfl⟩
    · rw [if_neg h]
      rcases ih with ⟨t, hm, hf⟩ | ⟨hn, hf⟩
      · exact .inl ⟨t, List.mem_cons_of_mem _ hm, hf⟩
      · refine .inr ⟨fun g hg => ?_, hf⟩
        rcases List.mem_cons.1 hg with e | hg
        · rw [e]; exact h
        · exact hn g hg
end Go.Proofs.YtpmncjeccemgfaaGreat
