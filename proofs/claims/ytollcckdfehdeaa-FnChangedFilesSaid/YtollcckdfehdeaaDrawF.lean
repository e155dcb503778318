/-
  The drawing functions on lists of files: num, l1Path, l1Files.
-/
import Derived.Test.YtollcckdfehdeaaDraw0
import Derived.Test.YtollcckdfehdeaaListB
namespace Go.Proofs.Ytollcckdfehdeaa
set_option linter.unusedVariables false
open Go.RowKit

theorem putStep_mem {f x : Fl} {s : List Fl × Bool} {y : Fl} (h : y ∈ (putStep f s x).1) : y = f ∨ y = x ∨ y ∈ s.1 := by
  obtain ⟨l, b⟩ := s
  unfold putStep at h
  cases b <;> cases hl : sLess x.1 f.1 <;> by_cases hp : x.1 = f.1 <;> simp [hp, hl] at h <;> grind
theorem putTo_mem {f : Fl} (l : List Fl) : ∀ (s : List Fl × Bool) (y : Fl), y ∈ (l.foldl (putStep f) s).1 → y = f ∨ y ∈ l ∨ y ∈ s.1 := by
  induction l with
  | nil => intro s y h; exact .inr (.inr h)
  | cons x l ih =>
    intro s y h
    rcases ih _ _ h with h | h | h
    · exact .inl h
    · exact .inr (.inl (List.mem_cons_of_mem _ h))
    · rcases putStep_mem h with h | h | h
      · exact .inl h
      · exact .inr (.inl (by rw [h]; exact List.mem_cons_self ..))
      · exact .inr (.inr h)
theorem putF_mem {f y : Fl} {fs : List Fl} (h : y ∈ putF f fs) : y = f ∨ y ∈ fs := by
  have key : ∀ y, y ∈ (putTo f fs).1 → y = f ∨ y ∈ fs := fun y hy => by
    rcases putTo_mem fs _ y hy with h | h | h
    · exact .inl h
    · exact .inr h
    · simp at h
  unfold putF at h
  split at h
  · exact key y h
  · rw [List.mem_append] at h
    rcases h with h | h
    · exact key y h
    · exact .inl (by simpa using h)
theorem putF_length (f : Fl) (fs : List Fl) : (putF f fs).length ≤ fs.length + 1 := by
  have h := putTo_owed f fs ([], false)
  unfold putF
  unfold putTo
  generalize fs.foldl (putStep f) ([], false) = s at *
  obtain ⟨l, b⟩ := s
  cases b <;> simp [owed] at h ⊢ <;> omega

/-- every string of the list has at most m bytes -/
def Short (m : Nat) (fs : List Fl) : Prop := ∀ f ∈ fs, f.1.size ≤ m ∧ f.2.size ≤ m
theorem Short.fits {m : Nat} {fs : List Fl} (h : Short m fs) (hm : m ≤ 1000) : Fits fs := fun f hf => by have := h f hf; unfold maxLen; omega
theorem Short.put {m : Nat} {f : Fl} {fs : List Fl} (h : Short m fs) (hf : f.1.size ≤ m ∧ f.2.size ≤ m) : Short m (putF f fs) := fun y hy => by
  rcases putF_mem hy with rfl | hy
  · exact hf
  · exact h y hy

/-- what 'num' leaves -/
def NumPost (Q : Int → Prop) (w : World) (B R : Nat) (a : Option Addr) (n c p : Nat) (e : Ending) (w' : World) : Prop :=
  (∃ s : Int, e = .returned (.int .i64 s) ∧ Q s) ∧ Step w w' B R a n c p (p + 1) 1
theorem num_new {n c p B R d : Nat} {a : Option Addr} {w : World} {T : TypeId} {cs : Array Value} (Q : Int → Prop) (m : Nat) (h : Rd w B R a n c p) (hp : p ≤ 1073741824) (hm : m ≤ 1048576) (hm1 : 1 ≤ m) (hsz : cs.size = m) (hQ : ∀ u ∈ cs.toList, ∃ s, u = .int .i64 s ∧ Q s) :
    Calls Try.prog 37 #[.pointer (some ⟨R, 0, none⟩), .slice (some ⟨w.heap.size, 0, none⟩) m d] (w.alloc (.cells cs T)) fun e w' => NumPost Q (w.alloc (.cells cs T)) B R a n c p e w' := by
  have hR := h.lt
  go_enter Try.func37, Try.ntmps37
  go_wp2_with fail
  refine (pick_step (h.alloc _) hp (by omega)).mono ?_
  rintro e w1 ⟨⟨x, rfl, hlt, _⟩, hst⟩
  have hxm := hlt (by omega)
  have hxs : x < cs.size := by omega
  obtain ⟨s, hs, hq⟩ := hQ (cs[x]) (by simp)
  have hsc : (w.alloc (.cells cs T)).cell? ⟨w.heap.size, x, none⟩ = some (.int .i64 s) := by rw [cell_of_row _ _ x _ _ _ (heap_alloc_new w _)]; simp [hxs, hs]
  have hsc' : w1.cell? ⟨w.heap.size, x, none⟩ = some (.int .i64 s) := (hst.cell (i := ⟨w.heap.size, x, none⟩) (by simp) (by simp; omega)).trans hsc
  clear hlt hs
  go_wp2_with fail
  go_ret
  exact ⟨⟨s, rfl, hq⟩, hst⟩

set_option maxHeartbeats 400000 in
theorem path_any {n c p B R : Nat} {a : Option Addr} {w : World} (h : Rd w B R a n c p) (hp : p ≤ 1073741824) :
    Calls Try.prog 24 #[.pointer (some ⟨R, 0, none⟩)] w fun e w' => DrawPost (fun s => s.size ≤ 10) w B R a n c p 1 e w' := by
  have hR := h.lt
  go_enter Try.func24, Try.ntmps24
  go_wp2_with fail
  refine (of_new (fun s => s.size ≤ 10) 7 h hp (by omega) (by omega) rfl ?_).mono ?_
  · simp; decide
  rintro e w1 ⟨⟨s, rfl, hq⟩, hst⟩
  go_wp2_with fail
  go_ret
  exact ⟨s, _, rfl, hq, (((Step.refl h).alloc _).trans hst).more (by omega)⟩

/-- what a drawing function of lists leaves -/
def ListPost (w : World) (B R : Nat) (a : Option Addr) (n c p k m l : Nat) (e : Ending) (w' : World) : Prop :=
  ∃ a' c' fs q, e = .returned (.slice a' (List.length fs) c') ∧ FilesAt w' w'.heap.size a' (List.length fs) fs ∧ Short m fs ∧ List.length fs ≤ l ∧ Step w w' B R a n c p q k

set_option maxHeartbeats 1000000 in
theorem files_any {n c p B R : Nat} {a : Option Addr} {w : World} (h : Rd w B R a n c p) (hp : p ≤ 1000000000) :
    Calls Try.prog 21 #[.pointer (some ⟨R, 0, none⟩)] w fun e w' => ListPost w B R a n c p 20 10 5 e w' := by
  have hR := h.lt
  go_enter Try.func21, Try.ntmps21
  go_wp2_with fail
  have e1 : w.heap.size + 1 = (w.alloc (.cells #[] 49)).heap.size := by simp
  rw [e1]
  clear e1
  refine (num_new (fun s => 0 ≤ s ∧ s ≤ 4) 5 (h.alloc _) (by omega) (by omega) (by omega) rfl ?_).mono ?_
  · intro u hu
    have hu' : u = .int .i64 3 ∨ u = .int .i64 4 ∨ u = .int .i64 2 ∨ u = .int .i64 1 ∨ u = .int .i64 0 := by simpa using hu
    rcases hu' with rfl | rfl | rfl | rfl | rfl <;> exact ⟨_, rfl, by omega, by omega⟩
  rintro e w1 ⟨⟨s, rfl, hs0, hs4⟩, hst⟩
  obtain ⟨s, rfl⟩ := Int.eq_ofNat_of_zero_le hs0
  have hst1 := (((Step.refl h).alloc (.cells #[] 49)).alloc _).trans hst
  clear hst
  go_wp2_with fail
  go_loopw [3, 4] (fun v i wr => ∃ (j : Nat) (b : Option Addr) (d : Nat) (fs : List Fl) (q : Nat), i = .int .i64 j ∧ v = .slice b fs.length d ∧ FilesAt wr wr.heap.size b fs.length fs ∧ Short 10 fs ∧ fs.length + j ≤ 4 ∧ Step w wr B R a n c p q (1 + 2 * (4 - j))) (fun _ i _ => (intOf i).toNat)
  case atStart => exact ⟨s, _, 0, [], _, rfl, rfl, ⟨rfl, fun hn => absurd hn (by simp)⟩, fun f hf => by simp at hf, by simp; omega, hst1.more (by omega)⟩
  case round =>
    obtain ⟨j, b, d, fs, q, rfl, rfl, hf, hsh, hlj, hst⟩ := hrel
    have hq := hst.hi
    by_cases hj : 0 < j
    · go_wp2_with fail
      refine (path_any hst.rd (by omega)).mono ?_
      rintro e w2 ⟨s1, q2, rfl, hs1, hst2⟩
      have hq2 := hst2.hi
      have hf2 := hf.step hst.rd hst2
      go_wp2_with fail
      refine (text_any hst2.rd (by omega)).mono ?_
      rintro e w3 ⟨s2, q3, rfl, hs2, hst3⟩
      have hf3 := hf2.step hst2.rd hst3
      go_wp2_with fail
      refine (put_any b fs.length d fs s1 s2 w3 hf3 (by omega)).mono ?_
      rintro e w4 ⟨v, rfl, hown, hB4⟩
      obtain ⟨b4, d4, rfl, hf4⟩ := hown.form
      have hst4 := ((hst.trans hst2).trans hst3).below hB4
      have hln := putF_length (s1, s2) fs
      have hsh4 := hsh.put (f := (s1, s2)) ⟨hs1, hs2⟩
      clear hown hf hf2 hf3
      obtain ⟨j, rfl⟩ : ∃ i, j = i + 1 := ⟨j - 1, by omega⟩
      go_wp2_with fail
      go_roundw
      case rel => exact ⟨j, b4, d4, _, q3, by go_num, rfl, hf4, hsh4, by omega, hst4.more (by omega)⟩
      case measure => simp [intOf]
    · go_wp2_with fail
      go_ret
      exact ⟨b, d, fs, q, rfl, hf, hsh, by omega, hst.more (by omega)⟩
end Go.Proofs.Ytollcckdfehdeaa
