/-
  Plain words on reading expressions back from their texts: a text has one reading. No program is named here.
-/
import Derived.Test.YtfpdeoicalofdaaFmtM
namespace Go.Proofs.Ytfpdeoicalofdaa
set_option linter.unusedVariables false
open Go.RowKit

theorem ba_ext {a b : ByteArray} (h : a.data.toList = b.data.toList) : a = b := by
  cases a; cases b; simp at h; simp [h]
/-- a node whose text can be read back, but for its operands -/
def TxN (k : Int) (s : ByteArray) (n : Nat) : Prop :=
  (k = 1 ∧ n = 0 ∧ (39 : UInt8) ∉ s.data.toList) ∨ (k = 3 ∧ s = .empty) ∨ (k = 4 ∧ n = 4 ∧ s = .empty) ∨ ((k = 2 ∨ k = 5 ∨ k = 6 ∨ k = 7) ∧ n = 1 ∧ s = .empty)
def Tx : Fo → Prop
  | .nil => True
  | .node k s ks r => TxN k s ks.len ∧ Tx ks ∧ Tx r
/-- the byte that a node's text begins with -/
def hdB (k : Int) : UInt8 := if k = 1 then 39 else if k = 3 then 40 else if k = 4 then 91 else chrB k
/-- the rest of its text -/
def tlB (k : Int) (s : ByteArray) (ks : Fo) : List UInt8 := if k = 1 then s.data.toList ++ [39] else if k = 3 then fmS ks [] ++ [41] else if k = 4 then fmS ks [[61], [63], [58], [93]] else fmS ks []
theorem fm1_hd (k : Int) (s : ByteArray) (ks : Fo) : fm1 k s ks = hdB k :: tlB k s ks := by
  unfold fm1 hdB tlB
  by_cases h1 : k = 1
  · simp [h1]
  · by_cases h3 : k = 3
    · simp [h3]
    · by_cases h4 : k = 4
      · simp [h4]
      · simp [h1, h3, h4]
theorem txN_kind {k : Int} {s : ByteArray} {n : Nat} (h : TxN k s n) : k = 1 ∨ k = 2 ∨ k = 3 ∨ k = 4 ∨ k = 5 ∨ k = 6 ∨ k = 7 := by
  rcases h with h | h | h | h <;> omega
theorem hd_inj {k k' : Int} (h : k = 1 ∨ k = 2 ∨ k = 3 ∨ k = 4 ∨ k = 5 ∨ k = 6 ∨ k = 7) (h' : k' = 1 ∨ k' = 2 ∨ k' = 3 ∨ k' = 4 ∨ k' = 5 ∨ k' = 6 ∨ k' = 7) (e : hdB k = hdB k') : k = k' := by
  rcases h with rfl | rfl | rfl | rfl | rfl | rfl | rfl <;> rcases h' with rfl | rfl | rfl | rfl | rfl | rfl | rfl <;> first | rfl | (exact absurd e (by decide))
theorem hd_not {k : Int} (h : k = 1 ∨ k = 2 ∨ k = 3 ∨ k = 4 ∨ k = 5 ∨ k = 6 ∨ k = 7) : hdB k ≠ 41 := by
  rcases h with rfl | rfl | rfl | rfl | rfl | rfl | rfl <;> decide
theorem quote_uniq : ∀ {x y t t' : List UInt8}, (39 : UInt8) ∉ x → (39 : UInt8) ∉ y → x ++ 39 :: t = y ++ 39 :: t' → x = y ∧ t = t'
  | [], [], _, _, _, _, h => ⟨rfl, by simpa using h⟩
  | [], b :: y, _, _, _, hy, h => by simp at h hy; exact absurd h.1 hy.1
  | a :: x, [], _, _, hx, _, h => by simp at h hx; exact absurd h.1.symm hx.1
  | a :: x, b :: y, _, _, hx, hy, h => by
    simp at h hx hy
    obtain ⟨h1, h2⟩ := quote_uniq hx.2 hy.2 h.2
    exact ⟨by rw [h.1, h1], h2⟩
/-- with as many nodes, or before a closing bracket, a list has one reading -/
def UnP (f : Fo) : Prop := ∀ g seps t t', Tx f → Tx g → f.len = g.len → fmS f seps ++ t = fmS g seps ++ t' → f = g ∧ t = t'
def UnJ (f : Fo) : Prop := ∀ g t t', Tx f → Tx g → fmS f [] ++ 41 :: t = fmS g [] ++ 41 :: t' → f = g ∧ t = t'
theorem u1_of {k k' : Int} {s s' : ByteArray} {ks ks' : Fo} {t t' : List UInt8} (ih : UnP ks ∧ UnJ ks) (h : TxN k s ks.len) (hk : Tx ks) (h' : TxN k' s' ks'.len) (hk' : Tx ks') (e : fm1 k s ks ++ t = fm1 k' s' ks' ++ t') : k = k' ∧ s = s' ∧ ks = ks' ∧ t = t' := by
  rw [fm1_hd, fm1_hd, List.cons_append, List.cons_append] at e
  injection e with e1 e2
  obtain rfl := hd_inj (txN_kind h) (txN_kind h') e1
  rcases h with ⟨rfl, h0, hq⟩ | ⟨rfl, hs⟩ | ⟨rfl, h0, hs⟩ | ⟨hk7, h0, hs⟩
  · obtain ⟨h0', hq'⟩ : ks'.len = 0 ∧ (39 : UInt8) ∉ s'.data.toList := by
      rcases h' with ⟨_, h1, h2⟩ | ⟨h', _⟩ | ⟨h', _⟩ | ⟨h', _⟩
      · exact ⟨h1, h2⟩
      all_goals omega
    simp only [tlB, if_true, List.append_assoc, List.singleton_append] at e2
    obtain ⟨h1, h2⟩ := quote_uniq hq hq' e2
    exact ⟨rfl, ba_ext h1, by rw [len_zero h0, len_zero h0'], h2⟩
  · have hs' : s' = .empty := by
      rcases h' with ⟨h', _⟩ | ⟨_, h1⟩ | ⟨h', _⟩ | ⟨h', _⟩
      · omega
      · exact h1
      all_goals omega
    simp only [tlB, if_true, show ¬ ((3 : Int) = 1) from by decide, if_false, List.append_assoc, List.singleton_append] at e2
    obtain ⟨h1, h2⟩ := ih.2 _ _ _ hk hk' e2
    exact ⟨rfl, hs.trans hs'.symm, h1, h2⟩
  · obtain ⟨h0', hs'⟩ : ks'.len = 4 ∧ s' = .empty := by
      rcases h' with ⟨h', _⟩ | ⟨h', _⟩ | ⟨_, h1, h2⟩ | ⟨h', _⟩
      · omega
      · omega
      · exact ⟨h1, h2⟩
      · omega
    simp only [tlB, if_true, show ¬ ((4 : Int) = 1) from by decide, show ¬ ((4 : Int) = 3) from by decide, if_false] at e2
    obtain ⟨h1, h2⟩ := ih.1 _ _ _ _ hk hk' (h0.trans h0'.symm) e2
    exact ⟨rfl, hs.trans hs'.symm, h1, h2⟩
  · obtain ⟨h0', hs'⟩ : ks'.len = 1 ∧ s' = .empty := by
      rcases h' with ⟨h', _⟩ | ⟨h', _⟩ | ⟨h', _⟩ | ⟨_, h1, h2⟩
      · omega
      · omega
      · omega
      · exact ⟨h1, h2⟩
    unfold tlB at e2
    rw [if_neg (by omega), if_neg (by omega), if_neg (by omega), if_neg (by omega), if_neg (by omega), if_neg (by omega)] at e2
    obtain ⟨h1, h2⟩ := ih.1 _ _ _ _ hk hk' (h0.trans h0'.symm) e2
    exact ⟨rfl, hs.trans hs'.symm, h1, h2⟩
theorem un_all : ∀ f : Fo, UnP f ∧ UnJ f
  | .nil => by
    refine ⟨fun g seps t t' _ _ hl e => ?_, fun g t t' _ hg e => ?_⟩
    · obtain rfl := len_zero (ks := g) hl.symm
      exact ⟨rfl, by simpa [fmS] using e⟩
    · match g, hg, e with
      | .nil, _, e => exact ⟨rfl, by simpa [fmS] using e⟩
      | .node k s ks r, hg, e =>
        rw [fmS_node, fm1_hd] at e
        simp only [fmS, List.nil_append, List.cons_append] at e
        injection e with e1 _
        exact absurd e1.symm (hd_not (txN_kind hg.1))
  | .node k s ks r => by
    have ihk := un_all ks
    have ihr := un_all r
    refine ⟨fun g seps t t' hf hg hl e => ?_, fun g t t' hf hg e => ?_⟩
    · match g, hg, hl, e with
      | .nil, _, hl, _ => simp [Fo.len] at hl
      | .node k' s' ks' r', hg, hl, e =>
        rw [fmS_node, fmS_node, List.append_assoc, List.append_assoc, List.append_assoc, List.append_assoc] at e
        obtain ⟨rfl, rfl, rfl, e2⟩ := u1_of ihk hf.1 hf.2.1 hg.1 hg.2.1 e
        have e3 := List.append_cancel_left e2
        obtain ⟨rfl, h2⟩ := ihr.1 r' seps.tail t t' hf.2.2 hg.2.2 (by simp only [Fo.len] at hl; omega) e3
        exact ⟨rfl, h2⟩
    · match g, hg, e with
      | .nil, _, e =>
        rw [fmS_node, fm1_hd] at e
        simp only [fmS, List.nil_append, List.cons_append] at e
        injection e with e1 _
        exact absurd e1 (hd_not (txN_kind hf.1))
      | .node k' s' ks' r', hg, e =>
        rw [fmS_node, fmS_node, List.append_assoc, List.append_assoc, List.append_assoc, List.append_assoc] at e
        obtain ⟨rfl, rfl, rfl, e2⟩ := u1_of ihk hf.1 hf.2.1 hg.1 hg.2.1 e
        simp only [List.headD_nil, List.tail_nil, List.nil_append] at e2
        obtain ⟨rfl, h2⟩ := ihr.2 r' t t' hf.2.2 hg.2.2 e2
        exact ⟨rfl, h2⟩
theorem u1 {k k' : Int} {s s' : ByteArray} {ks ks' : Fo} {t t' : List UInt8} (h : TxN k s ks.len) (hk : Tx ks) (h' : TxN k' s' ks'.len) (hk' : Tx ks') (e : fm1 k s ks ++ t = fm1 k' s' ks' ++ t') : k = k' ∧ s = s' ∧ ks = ks' ∧ t = t' := u1_of (un_all ks) h hk h' hk' e

namespace Fo
/-- two lists, one behind the other -/
def app : Fo → Fo → Fo
  | .nil, g => g
  | .node k s ks r, g => .node k s ks (r.app g)
theorem app_size : ∀ f g : Fo, (f.app g).size = f.size + g.size
  | .nil, g => by simp [app, size]
  | .node k s ks r, g => by simp only [app, size, app_size r]; omega
theorem app_len : ∀ f g : Fo, (f.app g).len = f.len + g.len
  | .nil, g => by simp [app, len]
  | .node k s ks r, g => by simp only [app, len, app_len r]; omega
theorem app_nil : ∀ f : Fo, f.app .nil = f
  | .nil => rfl
  | .node k s ks r => by simp only [app, app_nil r]
end Fo
theorem tx_app : ∀ {f g : Fo}, Tx (f.app g) → Tx g
  | .nil, _, h => h
  | .node k s ks r, _, h => tx_app (f := r) h.2.2
/-- what stands behind the nodes that were read is the text of the others -/
theorem read_on : ∀ {f ks : Fo} {seps : List (List UInt8)} {cur tail : List UInt8}, Tx f → Tx ks → f.len ≤ ks.len → fmS f seps ++ cur = fmS ks seps ++ tail → ∃ g, ks = f.app g ∧ cur = fmS g (seps.drop f.len) ++ tail
  | .nil, ks, seps, cur, tail, _, _, _, e => ⟨ks, rfl, by simpa [fmS, Fo.len] using e⟩
  | .node k s k1 r, .nil, _, _, _, _, _, hl, _ => absurd hl (by simp [Fo.len])
  | .node k s k1 r, .node k' s' k1' r', seps, cur, tail, hf, hg, hl, e => by
    rw [fmS_node, fmS_node, List.append_assoc, List.append_assoc, List.append_assoc, List.append_assoc] at e
    obtain ⟨rfl, rfl, rfl, e2⟩ := u1 hf.1 hf.2.1 hg.1 hg.2.1 e
    obtain ⟨g, rfl, h2⟩ := read_on (f := r) (ks := r') hf.2.2 hg.2.2 (by simp only [Fo.len] at hl; omega) (List.append_cancel_left e2)
    refine ⟨g, rfl, ?_⟩
    rw [h2]
    cases seps with
    | nil => simp [Fo.len]
    | cons a l => simp [Fo.len]
theorem read_join : ∀ {f ks : Fo} {cur tail : List UInt8}, Tx f → Tx ks → fmS f [] ++ cur = fmS ks [] ++ 41 :: tail → ∃ g, ks = f.app g ∧ cur = fmS g [] ++ 41 :: tail
  | .nil, ks, cur, tail, _, _, e => ⟨ks, rfl, by simpa [fmS] using e⟩
  | .node k s k1 r, .nil, cur, tail, hf, _, e => by
    rw [fmS_node, fm1_hd] at e
    simp only [fmS, List.nil_append, List.cons_append] at e
    injection e with e1 _
    exact absurd e1 (hd_not (txN_kind hf.1))
  | .node k s k1 r, .node k' s' k1' r', cur, tail, hf, hg, e => by
    rw [fmS_node, fmS_node, List.append_assoc, List.append_assoc, List.append_assoc, List.append_assoc] at e
    obtain ⟨rfl, rfl, rfl, e2⟩ := u1 hf.1 hf.2.1 hg.1 hg.2.1 e
    simp only [List.headD_nil, List.tail_nil, List.nil_append] at e2
    obtain ⟨g, rfl, h2⟩ := read_join (f := r) (ks := r') hf.2.2 hg.2.2 e2
    exact ⟨g, rfl, h2⟩

/-- no node of at most this size can be read off the text -/
def NoRead (l : List UInt8) (n : Nat) : Prop := ∀ (k : Int) (s : ByteArray) (ks : Fo) (tail : List UInt8), TxN k s ks.len → Tx ks → l = fm1 k s ks ++ tail → n < ks.size + 1
/-- a node is read off the text -/
def Reads1 (l : List UInt8) (n : Nat) (k : Int) (s : ByteArray) (ks : Fo) (tail : List UInt8) : Prop := TxN k s ks.len ∧ Tx ks ∧ l = fm1 k s ks ++ tail ∧ ks.size + 1 ≤ n
theorem noRead_zero (l : List UInt8) : NoRead l 0 := fun _ _ _ _ _ _ _ => Nat.succ_pos _
theorem noRead_nil (n : Nat) : NoRead [] n := fun k s ks tail _ _ e => by rw [fm1_hd] at e; simp at e
theorem noRead_hd {c : UInt8} {l : List UInt8} {n : Nat} (h : ∀ k : Int, (k = 1 ∨ k = 2 ∨ k = 3 ∨ k = 4 ∨ k = 5 ∨ k = 6 ∨ k = 7) → hdB k ≠ c) : NoRead (c :: l) n := fun k s ks tail h1 _ e => by
  rw [fm1_hd, List.cons_append] at e
  injection e with e1 _
  exact absurd e1.symm (h k (txN_kind h1))
/-- a list of nodes that is read off the text: so far -/
def ReadsS (l : List UInt8) (n : Nat) (seps : List (List UInt8)) (f : Fo) (cur : List UInt8) : Prop := Tx f ∧ l = fmS f seps ++ cur ∧ f.size ≤ n
def NoJoin (l : List UInt8) (n : Nat) : Prop := ∀ (ks : Fo) (tail : List UInt8), Tx ks → l = fmS ks [] ++ 41 :: tail → n < ks.size
def NoSeps (l : List UInt8) (n : Nat) (seps : List (List UInt8)) : Prop := ∀ (ks : Fo) (tail : List UInt8), Tx ks → ks.len = seps.length → l = fmS ks seps ++ tail → n < ks.size
theorem noJoin_of {l : List UInt8} {n : Nat} {f : Fo} {cur : List UInt8} (h : ReadsS l n [] f cur) (h1 : ∀ t, cur ≠ 41 :: t) (h2 : NoRead cur (n - f.size)) : NoJoin l n := by
  intro ks tail hk e
  obtain ⟨hf, hl, hz⟩ := h
  obtain ⟨g, rfl, hc⟩ := read_join hf hk (hl.symm.trans e)
  match g, hk, hc with
  | .nil, _, hc => exact absurd (by simpa [fmS] using hc) (h1 tail)
  | .node k s k1 r, hk, hc =>
    have hg := tx_app hk
    rw [fmS_node, List.append_assoc, List.append_assoc] at hc
    have := h2 k s k1 _ hg.1 hg.2.1 hc
    rw [Fo.app_size]
    simp only [Fo.size]
    omega
theorem noSeps_expr {l : List UInt8} {n : Nat} {seps : List (List UInt8)} {f : Fo} {cur : List UInt8} (h : ReadsS l n seps f cur) (hj : f.len < seps.length) (h2 : NoRead cur (n - f.size)) : NoSeps l n seps := by
  intro ks tail hk hlen e
  obtain ⟨hf, hl, hz⟩ := h
  obtain ⟨g, rfl, hc⟩ := read_on hf hk (by omega) (hl.symm.trans e)
  rw [Fo.app_len] at hlen
  match g, hk, hc with
  | .nil, _, _ => simp only [Fo.len] at hlen; omega
  | .node k s k1 r, hk, hc =>
    have hg := tx_app hk
    rw [fmS_node, List.append_assoc, List.append_assoc] at hc
    have := h2 k s k1 _ hg.1 hg.2.1 hc
    rw [Fo.app_size]
    simp only [Fo.size]
    omega
theorem noSeps_mark {l : List UInt8} {n : Nat} {seps : List (List UInt8)} {f : Fo} {cur cur2 : List UInt8} {k : Int} {s : ByteArray} {ks1 : Fo} {m : List UInt8} (h : ReadsS l n seps f cur) (hj : seps[f.len]? = some m) (h2 : Reads1 cur (n - f.size) k s ks1 cur2) (h3 : ∀ t, cur2 ≠ m ++ t) : NoSeps l n seps := by
  intro ks tail hk hlen e
  obtain ⟨hf, hl, hz⟩ := h
  have hjl := (List.getElem?_eq_some_iff.1 hj).1
  obtain ⟨g, rfl, hc⟩ := read_on hf hk (by omega) (hl.symm.trans e)
  rw [Fo.app_len] at hlen
  match g, hk, hc with
  | .nil, _, _ => simp only [Fo.len] at hlen; omega
  | .node k' s' k1 r, hk, hc =>
    have hg := tx_app hk
    rw [fmS_node, List.append_assoc, List.append_assoc, h2.2.2.1] at hc
    obtain ⟨rfl, rfl, rfl, e2⟩ := u1 h2.1 h2.2.1 hg.1 hg.2.1 hc
    have hd : seps.drop f.len = m :: seps.drop (f.len + 1) := by
      obtain ⟨h5, h6⟩ := List.getElem?_eq_some_iff.1 hj
      rw [List.drop_eq_getElem_cons h5, h6]
    rw [hd] at e2
    exact absurd (by simpa using e2) (h3 _)
end Go.Proofs.Ytfpdeoicalofdaa
