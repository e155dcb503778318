/-
  What the model's l18Cut, l1Split and ParseFiles answer.
-/
import Derived.Test.YtoggclkbmhgfhaaParseI
import Derived.Test.YtoggclkbmhgfhaaFFormat
namespace Go.Proofs.Ytoggclkbmhgfhaa
set_option linter.unusedVariables false
open Go.RowKit

theorem byte_ne {s : ByteArray} {c : UInt8} {k : Nat} (hk : k < s.size) (h : s[k] ≠ c) : ((s[k].toNat : Int) == (c.toNat : Int)) = false := by
  rw [beq_eq_false_iff_ne]
  intro e
  exact h (UInt8.toNat_inj.1 (by omega))
theorem byte_eq {s : ByteArray} {c : UInt8} {k : Nat} (hk : k < s.size) (h : s[k] = c) : ((s[k].toNat : Int) == (c.toNat : Int)) = true := by
  rw [h]; simp
theorem byte_at {s : ByteArray} {k : Nat} (hk : k < s.size) : s.data.toList[k]'(by rw [size_list]; exact hk) = s[k] := by rfl

/-- what l1Split answers -/
def SpPost (p t : List UInt8) (w : World) (e : Ending) (w' : World) : Prop := ∃ b, e = .returned (.tuple #[.string ⟨p.toArray⟩, .string ⟨t.toArray⟩, .bool b]) ∧ Below w.heap.size w w'

set_option maxHeartbeats 1000000 in
theorem split_hit (s : ByteArray) (x y : List UInt8) (w : World) (h : s.data.toList = x ++ 32 :: y) (hx : (32 : UInt8) ∉ x) (hs : s.size ≤ maxLen) :
    Calls Try.prog 32 #[.string s] w (SpPost x y w) := by
  have hz := size_parts h
  have e1 := Lib.hid (ext_before h)
  have e2 := Lib.hid (ext_after h)
  have hat : ∀ k, k < x.length → ∀ hk : k < s.size, s[k] ≠ 32 := fun k hk hks e => hx (by
    rw [← byte_at hks] at e
    have : s.data.toList[k]? = some 32 := by rw [List.getElem?_eq_getElem (by rw [size_list]; exact hks), e]
    rw [h, List.getElem?_append_left hk] at this
    exact List.mem_of_getElem? this)
  have hlast : ∀ hk : x.length < s.size, s[x.length] = 32 := fun hks => by
    rw [← byte_at hks]
    have : s.data.toList[x.length]? = some 32 := by rw [h]; simp
    rw [List.getElem?_eq_getElem (by rw [size_list]; exact hks)] at this
    exact Option.some.inj this
  have Hat := Lib.hid hat
  have Hlast := Lib.hid hlast
  have hz1 : x.length + 1 ≤ s.size := by omega
  clear hat hlast h hx hz
  unfold maxLen at hs
  go_enter Try.func32, Try.ntmps32
  go_wp2_with fail
  go_loopw [5] (fun i wr => ∃ k : Nat, k ≤ x.length ∧ i = .int .i64 k ∧ wr = w) (fun i _ => s.size - (intOf i).toNat)
  case atStart => exact ⟨0, Nat.zero_le _, rfl, rfl⟩
  case round =>
    obtain ⟨k, hk, rfl, rfl⟩ := hrel
    have hks : k < s.size := by omega
    by_cases hlt : k < x.length
    · have hd : ((s[k].toNat : Int) == 32) = false := byte_ne (c := 32) hks (Hat.out k hlt hks)
      go_wp2_with fail
      exact ⟨⟨k + 1, by omega, by go_num, trivial⟩, by simp [intOf]; omega⟩
    · obtain rfl : k = x.length := by omega
      have hd : ((s[x.length].toNat : Int) == 32) = true := byte_eq (c := 32) hks (Hlast.out hks)
      have c1 : (0 : Int) ≤ (x.length : Int) := by omega
      have c2 : (x.length : Int) ≤ (s.size : Int) := by omega
      have c3 : (0 : Int) ≤ (x.length : Int) + 1 := by omega
      have c4 : (x.length : Int) + 1 ≤ (s.size : Int) := by omega
      go_wp2_with fail
      go_quiet (fail)
      go_wp2_with fail
      go_ret3
      exact ⟨true, by rw [← e1.out, ← e2.out]; rfl, below_drewN (Below.refl _ _) _⟩

set_option maxHeartbeats 1000000 in
theorem split_miss (s : ByteArray) (w : World) (h : (32 : UInt8) ∉ s.data.toList) (hs : s.size ≤ maxLen) :
    Calls Try.prog 32 #[.string s] w (SpPost s.data.toList [] w) := by
  have hat : ∀ k, ∀ hk : k < s.size, s[k] ≠ 32 := fun k hks e => h (by
    rw [← byte_at hks] at e
    rw [← e]
    exact List.getElem_mem _)
  have Hat := Lib.hid hat
  clear hat h
  unfold maxLen at hs
  go_enter Try.func32, Try.ntmps32
  go_wp2_with fail
  go_loopw [5] (fun i wr => ∃ k : Nat, k ≤ s.size ∧ i = .int .i64 k ∧ wr = w) (fun i _ => s.size - (intOf i).toNat)
  case atStart => exact ⟨0, Nat.zero_le _, rfl, rfl⟩
  case round =>
    obtain ⟨k, hk, rfl, rfl⟩ := hrel
    by_cases hks : k < s.size
    · have hd : ((s[k].toNat : Int) == 32) = false := byte_ne (c := 32) hks (Hat.out k hks)
      go_wp2_with fail
      exact ⟨⟨k + 1, by omega, by go_num, trivial⟩, by simp [intOf]; omega⟩
    · go_wp2_with fail
      go_ret3
      exact ⟨false, by rw [toArray_list]; rfl, Below.refl _ _⟩

theorem split_any (s : ByteArray) (w : World) (hs : s.size ≤ maxLen) :
    Calls Try.prog 32 #[.string s] w (SpPost (partB s.data.toList).1 (partB s.data.toList).2 w) := by
  by_cases h : (32 : UInt8) ∈ s.data.toList
  · obtain ⟨x, y, hxy, hx⟩ := mem_parts h
    have := split_hit s x y w hxy hx hs
    rwa [hxy, partB_hit hx]
  · rw [partB_miss h]
    exact split_miss s w h hs

/-! ### l18Cut -/
def encS (l : List UInt8) : Value := .string ⟨l.toArray⟩
/-- the slice v is the call's own row of the strings ls -/
def OwnsS (w : World) (B : Nat) (v : Value) (ls : List (List UInt8)) : Prop := w.ownsRow B 9 1 v ls.length (ls.map encS)
theorem OwnsS.grew {w : World} {B : Nat} {v : Value} {ls : List (List UInt8)} {z : List UInt8} (h : w.ownsRow B 9 1 v (ls.length + 1) (ls.map encS ++ [.string ⟨z.toArray⟩])) : OwnsS w B v (ls ++ [z]) := by
  unfold OwnsS
  rw [List.map_append, List.length_append]
  exact h
theorem OwnsS.below {w w' : World} {B : Nat} {v : Value} {ls : List (List UInt8)} (h : OwnsS w B v ls) (hb : Below w.heap.size w w') : OwnsS w' B v ls := by
  refine ⟨h.1, h.2.imp id ?_⟩
  rintro ⟨g, cap, cur, e1, h1, h2, r⟩
  exact ⟨g, cap, cur, e1, h1, (hb.block g (blk_lt h2)).trans h2, r⟩
theorem str_info : (Try.prog.info? 9).map (fun i => (i.zero, i.size, i.bytes)) = some (some (.string .empty), 1, 16) := by kernel_rfl
theorem one_new (w : World) (x : Value) (t : TypeId) : ∀ j u, [x][j]? = some u → (w.alloc (.cells #[x] t)).cell? ((⟨w.heap.size, 0, none⟩ : Addr).add j) = some u := by
  intro j u h
  rw [add_none, cell_of_row _ _ _ _ _ _ (heap_alloc_new w _)]
  simpa using h
/-- what holds at the head of each round: the lines so far, the line under way -/
def CRel (s : ByteArray) (w : World) (v f i : Value) (wr : World) : Prop :=
  ∃ (ls : List (List UInt8)) (z : List UInt8), (∀ l ∈ ls, (10 : UInt8) ∉ l) ∧ (10 : UInt8) ∉ z ∧ Below w.heap.size w wr ∧
    ((∃ k a : Nat, k ≤ s.size ∧ i = .int .i64 k ∧ f = .int .i64 a ∧ a + z.length = k ∧ ls.length ≤ k ∧ s.data.toList.take k = flat ls ++ z ∧ OwnsS wr w.heap.size v ls) ∨
     (i = .int .i64 (s.size + 1 : Nat) ∧ flat ls ++ z = s.data.toList ∧ ls.length ≤ s.size ∧ OwnsS wr w.heap.size v (ls ++ [z])))
theorem flat_length (ls : List (List UInt8)) (z s : List UInt8) (k a : Nat) (h : s.take k = flat ls ++ z) (ha : a + z.length = k) (hk : k ≤ s.length) : (flat ls).length = a := by
  have := congrArg List.length h
  rw [List.length_take, List.length_append] at this
  omega
theorem ext_line {s : ByteArray} {ls : List (List UInt8)} {z : List UInt8} {k a : Nat} (h : s.data.toList.take k = flat ls ++ z) (ha : a + z.length = k) (hk : k ≤ s.size) : s.extract a k = ⟨z.toArray⟩ := by
  have hl := flat_length ls z _ k a h ha (by rw [size_list]; exact hk)
  refine bytes_ext ?_
  rw [ByteArray.data_extract, Array.toList_extract, List.extract_eq_take_drop, ← List.drop_take, h, List.drop_append, List.drop_eq_nil_of_le (by omega), hl]
  simp
/-- what l18Cut answers at a newline -/
def CutPost (s : ByteArray) (w : World) (e : Ending) (w' : World) : Prop :=
  ∃ v ls z, e = .returned v ∧ OwnsS w' w.heap.size v (ls ++ [z]) ∧ (∀ l ∈ ls, (10 : UInt8) ∉ l) ∧ (10 : UInt8) ∉ z ∧ flat ls ++ z = s.data.toList ∧ List.length ls ≤ s.size ∧ Below w.heap.size w w'

theorem take_one {s : ByteArray} {k : Nat} (h : k < s.size) : s.data.toList.take (k + 1) = s.data.toList.take k ++ [s[k]] := by
  rw [List.take_succ_eq_append_getElem (by rw [size_list]; exact h)]
  rfl
theorem crel_cut {s : ByteArray} {ls : List (List UInt8)} {z : List UInt8} {k : Nat} (hcl : ∀ l ∈ ls, (10 : UInt8) ∉ l) (hzc : (10 : UInt8) ∉ z) (hk : k < s.size) (hc : s[k] = 10) (h : s.data.toList.take k = flat ls ++ z) :
    (∀ l ∈ ls ++ [z], (10 : UInt8) ∉ l) ∧ s.data.toList.take (k + 1) = flat (ls ++ [z]) ++ [] := by
  refine ⟨fun l hl => ?_, ?_⟩
  · rcases List.mem_append.1 hl with hl | hl
    · exact hcl l hl
    · obtain rfl : l = z := by simpa using hl
      exact hzc
  · rw [take_one hk, h, hc, flat_append]
    simp [flat]
theorem crel_on {s : ByteArray} {ls : List (List UInt8)} {z : List UInt8} {k : Nat} (hzc : (10 : UInt8) ∉ z) (hk : k < s.size) (hc : ¬ s[k] = 10) (h : s.data.toList.take k = flat ls ++ z) :
    (10 : UInt8) ∉ z ++ [s[k]] ∧ s.data.toList.take (k + 1) = flat ls ++ (z ++ [s[k]]) := by
  refine ⟨?_, ?_⟩
  · rw [List.mem_append]
    rintro (h1 | h1)
    · exact hzc h1
    · have e : (10 : UInt8) = s[k] := by simpa using h1
      exact hc e.symm
  · rw [take_one hk, h, List.append_assoc]

set_option maxRecDepth 100000 in
set_option maxHeartbeats 2000000 in
theorem lines_any (s : ByteArray) (w : World) (hs : s.size ≤ 1048576) :
    Calls Try.prog 31 #[.string s, .int .u8 10] w (CutPost s w) := by
  obtain ⟨i0, hi, hz0, hz1, hz2⟩ := info_parts str_info
  go_enter Try.func31, Try.ntmps31
  go_wp2_with fail
  go_loopw [5, 6, 7] (fun v f i wr => CRel s w v f i wr) (fun _ _ i _ => s.size + 2 - (intOf i).toNat)
  case atStart => exact ⟨[], [], (fun l hl => nomatch hl), (by simp), (Below.refl _ _).alloc (Nat.le_refl _) _, .inl ⟨0, 0, Nat.zero_le _, rfl, rfl, rfl, Nat.zero_le _, by simp [flat], World.ownsRow_made _ _ _ (Nat.le_refl _) (by simp [maxLen]) rfl⟩⟩
  case round =>
    obtain ⟨ls, z, hcl, hzc, hB, hh⟩ := hrel
    have Hcl := Lib.hid hcl
    have Hzc := Lib.hid hzc
    have hbs := hB.size
    clear hcl hzc
    rcases hh with ⟨k, a, hk, rfl, rfl, hak, hlk, htk, hown⟩ | ⟨rfl, hfl, hll, hown⟩
    · have Hak := Lib.hid hak
      have Htk := Lib.hid htk
      have Hown := Lib.hid hown
      have hle : a ≤ k := by omega
      have Hline := Lib.hid (ext_line htk hak hk)
      clear hak htk hown
      by_cases hlt : k < s.size
      · by_cases hc : s[k] = 10
        · have hd : ((s[k].toNat : Int) == 10) = true := byte_eq (c := 10) hlt hc
          have hks : ((k : Int) == (s.size : Int)) = false := by rw [beq_eq_false_iff_ne]; omega
          go_wp2_with (at_builtin; refine wpList_append_own _ rfl _ _ 53 rfl w.heap.size 9 i0 _ 1 16 Try.underlying53 hi hz0 hz1 hz2 rfl (by decide) _ _ _ rfl (World.ownsRow.alloc Hown.out _) ⟨wr.heap.size, 0, none⟩ 1 1 [.string (s.extract a k)] rfl rfl (one_new _ _ _) (by simp [Value.oneCell']) (by simp only [maxLen]; omega) (by omega) (by simp; omega) ?_; intro v2 w2 hown2 hgrow _)
          have hst := crel_cut Hcl.out Hzc.out hlt hc Htk.out
          refine ⟨⟨ls ++ [z], [], hst.1, (by simp), (hB.alloc hbs _).grown hgrow (by simp; omega) (own_at Hown.out), .inl ⟨k + 1, k + 1, by omega, by go_num, by go_num, rfl, by simp; omega, hst.2, OwnsS.grew (by rw [← Hline.out]; exact hown2)⟩⟩, by simp [intOf]; omega⟩
        · have hd : ((s[k].toNat : Int) == 10) = false := byte_ne (c := 10) hlt hc
          have hks : ((k : Int) == (s.size : Int)) = false := by rw [beq_eq_false_iff_ne]; omega
          have Hc := Lib.hid hc
          clear hc
          go_wp2_with fail
          have hst := crel_on Hzc.out hlt Hc.out Htk.out
          refine ⟨⟨ls, z ++ [s[k]], Hcl.out, hst.1, hB, .inl ⟨k + 1, a, by omega, by go_num, rfl, by have := Hak.out; simp; omega, by omega, hst.2, Hown.out⟩⟩, by simp [intOf]; omega⟩
      · have e : k = s.size := by omega
        have hks : ((k : Int) == (s.size : Int)) = true := by rw [beq_iff_eq]; omega
        have Hfl : Hid (flat ls ++ z = s.data.toList) := Lib.hid (by rw [← Htk.out, List.take_of_length_le (by rw [size_list]; omega)])
        have hk1 : k ≤ s.size := by omega
        have hk2 : s.size ≤ k := by omega
        clear e
        go_wp2_with (at_builtin; refine wpList_append_own _ rfl _ _ 53 rfl w.heap.size 9 i0 _ 1 16 Try.underlying53 hi hz0 hz1 hz2 rfl (by decide) _ _ _ rfl (World.ownsRow.alloc Hown.out _) ⟨wr.heap.size, 0, none⟩ 1 1 [.string (s.extract a k)] rfl rfl (one_new _ _ _) (by simp [Value.oneCell']) (by simp only [maxLen]; omega) (by omega) (by simp; omega) ?_; intro v2 w2 hown2 hgrow _)
        refine ⟨⟨ls, z, Hcl.out, Hzc.out, (hB.alloc hbs _).grown hgrow (by simp; omega) (own_at Hown.out), .inr ⟨by have e : k = s.size := by omega
                                                                                                                    rw [e]; go_num, Hfl.out, by omega, OwnsS.grew (by rw [← Hline.out]; exact hown2)⟩⟩, by simp [intOf]; omega⟩
    · have Hown := Lib.hid hown
      have Hfl := Lib.hid hfl
      clear hown hfl
      go_wp2_with fail
      go_ret
      exact ⟨_, ls, z, rfl, Hown.out, Hcl.out, Hzc.out, Hfl.out, hll, hB⟩
end Go.Proofs.Ytoggclkbmhgfhaa
