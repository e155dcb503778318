/-
  The law's marks: markText, markFileS, heldFileS.
-/
import Derived.Test.YtollcckdfehdeaaProg
import Derived.Test.YtollcckdfehdeaaFPut
import Derived.Outline
import Derived.Deep.RegionHeld3
namespace Go.Proofs.Ytollcckdfehdeaa
set_option linter.unusedVariables false
open Go.RowKit

/-- the decimal digits of k ahead of acc -/
def mkD : Nat → Nat → List UInt8 → List UInt8
  | 0, _, acc => acc
  | fuel + 1, k, acc => if k = 0 then acc else mkD fuel (k / 10) (UInt8.ofNat (48 + k % 10) :: acc)
/-- the mark k -/
def mkS (k : Nat) : ByteArray := ⟨#[109]⟩ ++ ⟨(mkD k k []).toArray⟩

theorem conv_digit (k : Nat) (w : World) : (convert 22 9 (.slice (some ⟨w.heap.size, 0, none⟩) 1 1)).run Try.prog (w.alloc (.cells #[.int .u8 (48 + (k : Int) % 10)] 5)) = .ok (.string ⟨#[UInt8.ofNat (48 + k % 10)]⟩) (w.alloc (.cells #[.int .u8 (48 + (k : Int) % 10)] 5)) := by
  refine run_convert_bytes_back _ 22 9 5 ⟨w.heap.size, 0, none⟩ 1 [UInt8.ofNat (48 + k % 10)] Try.underlying22 Try.underlying5 Try.underlying9 (fun j hj => ?_)
  obtain rfl : j = 0 := by simpa using hj
  rw [add_none, cell_of_row _ _ _ _ _ _ (heap_alloc_new w _)]
  have h : (UInt8.ofNat (48 + k % 10)).toNat = 48 + k % 10 := by rw [UInt8.toNat_ofNat']; omega
  simp only [List.getElem_cons_zero, h]
  simp

set_option maxRecDepth 100000 in
set_option maxHeartbeats 400000 in
theorem markText_any (k : Nat) (w : World) (h0 : 1 ≤ k) (h1 : k ≤ 8388608) :
    Calls Try.prog 36 #[.int .i64 k] w fun e w' => e = .returned (.string (mkS k)) ∧ Below w.heap.size w w' := by
  go_enter Try.func36, Try.ntmps36
  go_wp2_with fail
  go_loopw [0, 3] (fun x s wr => ∃ (fuel kk : Nat) (acc : List UInt8), x = .int .i64 kk ∧ s = .string ⟨acc.toArray⟩ ∧ kk ≤ fuel ∧ mkD fuel kk acc = mkD k k [] ∧ acc.length + fuel = k ∧ Below w.heap.size w wr) (fun x _ _ => (intOf x).toNat)
  case atStart => exact ⟨k, k, [], rfl, rfl, Nat.le_refl _, rfl, by simp, Below.refl _ _⟩
  case round =>
    obtain ⟨fuel, kk, acc, rfl, rfl, hkf, hd, hacc, hB⟩ := hrel
    by_cases hk : 0 < kk
    · have hcv := fun W => conv_digit kk W
      have q := fun W => run_string_add_sum (P := Try.prog) W ⟨#[UInt8.ofNat (48 + kk % 10)]⟩ ⟨acc.toArray⟩ (by simp [ByteArray.size]; omega)
      have HD := Lib.hid hd; clear hd
      go_wp2_with fail
      obtain ⟨f, rfl⟩ : ∃ f, fuel = f + 1 := ⟨fuel - 1, by omega⟩
      exact ⟨⟨f, kk / 10, UInt8.ofNat (48 + kk % 10) :: acc, by go_num, by rw [ByteArray.mk_append_mk]; simp, by omega, by rw [← HD.out, mkD, if_neg (by omega)], by simp; omega, hB.alloc hB.size _⟩, by simp [intOf]; omega⟩
    · obtain rfl : kk = 0 := by omega
      have HD : Hid (acc = mkD k k []) := by
        have : mkD fuel 0 acc = acc := by cases fuel <;> simp [mkD]
        exact Lib.hid (this ▸ hd)
      clear hd
      have q := fun W => run_string_add_sum (P := Try.prog) W ⟨#[109]⟩ ⟨acc.toArray⟩ (by simp [ByteArray.size]; omega)
      go_wp2_with fail
      go_ret
      exact ⟨ret_str (by unfold mkS; rw [← HD.out]), hB⟩

theorem markText_at {z : Int} (m : Nat) (w : World) (hz : z = (m : Int)) (h0 : 1 ≤ m) (h1 : m ≤ 8388608) :
    Calls Try.prog 36 #[.int .i64 z] w fun e w' => e = .returned (.string (mkS m)) ∧ Below w.heap.size w w' := by
  subst hz; exact markText_any m w h0 h1

/-- the first n files marked from k on -/
def mrk (k : Nat) : Nat → List Fl → List Fl
  | 0, fs => fs
  | n + 1, fs => (mrk k n fs).set n (mkS (k + 2 * n), mkS (k + 2 * n + 1))
theorem mrk_length (k : Nat) (fs : List Fl) : ∀ n, (mrk k n fs).length = fs.length
  | 0 => rfl
  | n + 1 => by rw [mrk, List.length_set, mrk_length k fs n]
theorem mrk_get {k j : Nat} {fs : List Fl} (hj : j < fs.length) : ∀ {n}, j < n → (mrk k n fs)[j]? = some (mkS (k + 2 * j), mkS (k + 2 * j + 1))
  | 0, h => absurd h (by omega)
  | n + 1, h => by
    rw [mrk]
    by_cases e : j = n
    · subst e
      rw [List.getElem?_set_self (by rw [mrk_length]; exact hj)]
    · rw [List.getElem?_set_ne (fun h => e h.symm)]
      exact mrk_get hj (by omega)

theorem growT {w w' w'' : World} {row : Option Nat} (h : w.grownBy w' row) (k : w'.grownBy w'' row) : w.grownBy w'' row :=
  ⟨k.os.trans h.os, k.tape.trans h.tape, k.output.trans h.output, Nat.le_trans h.size k.size, fun i hi hne => (k.block i (Nat.lt_of_lt_of_le hi h.size) hne).trans (h.block i hi hne)⟩
theorem growB {w w' w'' : World} {row : Option Nat} (h : w.grownBy w' row) (hb : Below w'.heap.size w' w'') : w.grownBy w'' row :=
  ⟨hb.os.trans h.os, hb.tape.trans h.tape, hb.output.trans h.output, Nat.le_trans h.size hb.size, fun i hi hne => (hb.block i (Nat.lt_of_lt_of_le hi h.size)).trans (h.block i hi hne)⟩
theorem row_mark1 {w : World} {B g n cap j : Nat} {gs : List Fl} {p t s : ByteArray} (h : w.ownsRow B 49 2 (.slice (some ⟨g, 0, none⟩) n cap) n (fcells gs)) (hg : gs[j]? = some (p, t)) :
    (w.setCell ⟨g, j * 2, none⟩ (.string s)).ownsRow B 49 2 (.slice (some ⟨g, 0, none⟩) n cap) n (fcells (gs.set j (s, t))) := by
  rw [fcells_set1 hg]; exact (World.ownsRow.stored h _ _).1
theorem row_mark2 {w : World} {B g n cap j : Nat} {gs : List Fl} {p t s : ByteArray} (h : w.ownsRow B 49 2 (.slice (some ⟨g, 0, none⟩) n cap) n (fcells gs)) (hg : gs[j]? = some (p, t)) :
    (w.setCell ⟨g, j * 2 + 1, none⟩ (.string s)).ownsRow B 49 2 (.slice (some ⟨g, 0, none⟩) n cap) n (fcells (gs.set j (p, s))) := by
  rw [fcells_set2 hg]; exact (World.ownsRow.stored h _ _).1

set_option maxRecDepth 100000 in
set_option maxHeartbeats 1000000 in
theorem markF_any (v : Value) (B k : Nat) (fs : List Fl) (w : World) (ho : OwnsF w B v fs) (hn : fs.length ≤ 1048576) (h0 : 1 ≤ k) (h1 : k + 2 * fs.length ≤ 8388600) :
    Calls Try.prog 17 #[v, .int .i64 k] w fun e w' =>
      e = .returned (.int .i64 (k + 2 * fs.length : Nat)) ∧ OwnsF w' B v (mrk k fs.length fs) ∧ w.grownBy w' v.ownBlock := by
  rcases ho.2 with ⟨rfl, h00⟩ | ⟨g, cap, cur, rfl, hb, hg, _⟩
  · obtain rfl : fs = [] := List.eq_nil_of_length_eq_zero h00
    go_enter Try.func17, Try.ntmps17
    go_wp2_with fail
    go_loopw [1, 5] (fun x i wr => x = .int .i64 k ∧ i = .int .i64 0 ∧ wr = w) (fun _ _ _ => 0)
    case atStart => exact ⟨rfl, rfl, rfl⟩
    case round =>
      obtain ⟨rfl, rfl, rfl⟩ := hrel
      go_wp2_with fail
      go_ret
      exact ⟨rfl, ho, World.grownBy.refl _ _⟩
  · have hgl : g < w.heap.size := blk_lt hg
    have Ho := Lib.hid ho
    clear ho hg
    go_enter Try.func17, Try.ntmps17
    go_wp2_with fail
    go_loopw [1, 5] (fun x i wr => ∃ j : Nat, j ≤ fs.length ∧ i = .int .i64 j ∧ x = .int .i64 (k + 2 * j : Nat) ∧ wr.ownsRow B 49 2 (.slice (some ⟨g, 0, none⟩) fs.length cap) fs.length (fcells (mrk k j fs)) ∧ w.grownBy wr (some g)) (fun _ i _ => fs.length - (intOf i).toNat)
    case atStart => exact ⟨0, Nat.zero_le _, rfl, by simp, Ho.out, World.grownBy.refl _ _⟩
    case round =>
      obtain ⟨j, hj, rfl, rfl, hown, hgr⟩ := hrel
      have hln := Lib.hid (mrk_length k fs j)
      have hgw := hgr.size
      by_cases hlt : j < fs.length
      · have Hown := Lib.hid hown
        have hgt : (mrk k j fs)[j]? = some ((mrk k j fs)[j]'(by rw [hln.out]; exact hlt)) := List.getElem?_eq_getElem _
        generalize (mrk k j fs)[j]'(by rw [hln.out]; exact hlt) = f at hgt
        obtain ⟨p, t⟩ := f
        have Hgt := Lib.hid hgt
        clear hown hgt
        go_wp2_with fail
        refine (markText_any (k + 2 * j) _ (by omega) (by omega)).mono ?_
        rintro e w1 ⟨rfl, hB1⟩
        have ho1 := row_below Hown.out hB1 (by omega)
        have hc1 : w1.cell? ⟨g, j * 2, none⟩ = some (.string p) := (World.ownsRow.cellAt ho1 (j * 2) (by omega)).trans (fcells_get _ Hgt.out).1
        have hf1 := World.ownsRow.frozenAt ho1 (j * 2)
        have Ho1 := Lib.hid (row_mark1 (s := mkS (k + 2 * j)) ho1 Hgt.out)
        have Hg1 := Lib.hid (growT (growB hgr hB1) (World.ownsRow.stored ho1 (j * 2) (.string (mkS (k + 2 * j)))).2)
        have Hgt1 : Hid (((mrk k j fs).set j (mkS (k + 2 * j), t))[j]? = some (mkS (k + 2 * j), t)) := Lib.hid (by rw [List.getElem?_set_self (by rw [hln.out]; exact hlt)])
        have hgs := Hg1.out.size
        clear ho1 hgr
        go_wp2_with fail
        refine (markText_at (k + 2 * j + 1) _ (by omega) (by omega) (by omega)).mono ?_
        rintro e w2 ⟨rfl, hB2⟩
        have ho2 := row_below Ho1.out hB2 (by omega)
        have hc2 : w2.cell? ⟨g, j * 2 + 1, none⟩ = some (.string t) := (World.ownsRow.cellAt ho2 (j * 2 + 1) (by omega)).trans (fcells_get _ Hgt1.out).2
        have hf2 := World.ownsRow.frozenAt ho2 (j * 2 + 1)
        have Ho2 := Lib.hid (row_mark2 (s := mkS (k + 2 * j + 1)) ho2 Hgt1.out)
        have Hg2 := Lib.hid (growT (growB Hg1.out hB2) (World.ownsRow.stored ho2 (j * 2 + 1) (.string (mkS (k + 2 * j + 1)))).2)
        clear ho2
        go_wp2_with fail
        exact ⟨⟨j + 1, by omega, by go_num, by go_num, by have := Ho2.out; rw [List.set_set] at this; exact this, Hg2.out⟩, by simp [intOf]; omega⟩
      · have e : j = fs.length := by omega
        have Ho2 : Hid (OwnsF wr B (.slice (some ⟨g, 0, none⟩) fs.length cap) (mrk k fs.length fs)) := Lib.hid (by
          rw [OwnsF, mrk_length, ← e]; rw [← e] at hown; exact hown)
        have Hr : Hid (((k + 2 * j : Nat) : Int) = ((k + 2 * fs.length : Nat) : Int)) := Lib.hid (by rw [e])
        clear e hown
        go_wp2_with fail
        go_ret
        exact ⟨ret_int Hr.out, Ho2.out, hgr⟩

end Go.Proofs.Ytollcckdfehdeaa
