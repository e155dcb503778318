/-
  The exact law of ParseExpr, walked.
-/
import Derived.Test.YtfeepecmijmddaaParP
import Derived.Test.YtfeepecmijmddaaParQ
import Derived.Test.YtfeepecmijmddaaBkW
import Derived.Test.YtfeepecmijmddaaTreeE
import Derived.Deep.DeepCutAuto
namespace Go.Proofs.Ytfeepecmijmddaa
set_option linter.unusedVariables false
set_option linter.unusedSimpArgs false
open Go.RowKit

theorem valid_uniq {k k' : Int} {s s' : ByteArray} {ks ks' : Fo} (h : validE k s ks = true) (h' : validE k' s' ks' = true) (e : fm1 k s ks = fm1 k' s' ks') : k = k' ∧ s = s' ∧ ks = ks' := by
  obtain ⟨h1, h2, _⟩ := valid_tx h
  obtain ⟨h3, h4, _⟩ := valid_tx h'
  obtain ⟨a, b, c, _⟩ := u1 (t := []) (t' := []) h1 h2 h3 h4 (by rw [e])
  exact ⟨a, b, c⟩
theorem valid_fits {l : List UInt8} {k : Int} {s : ByteArray} {ks : Fo} (h : validE k s ks = true) (e : l = fm1 k s ks) (hl : l.length ≤ 1048576) : s.size ≤ maxLen ∧ ks.Fits ∧ ks.len ≤ maxLen := by
  obtain ⟨h1, h2, h3⟩ := valid_tx h
  exact reads_fits (l := l) (n := 20) (t := []) ⟨h1, h2, by rw [e, List.append_nil], h3⟩ (Nat.le_refl _) hl
/-- ParseExpr's answers: at the text of a valid expression -/
def PsYes (k : Int) (s : ByteArray) (ks : Fo) (w : World) (e : Ending) (w' : World) : Prop := ∃ a c, e = .returned (.tuple #[.agg #[.int .i64 k, .string s, .slice a (Fo.len ks) c], .bool true]) ∧ KA w' w.heap.size w'.heap.size ks a ks.len ∧ ks.len ≤ c ∧ Below w.heap.size w w'
def PeYes (k : Int) (s : ByteArray) (ks : Fo) (w : World) (e : Ending) (w' : World) : Prop := ∃ a c bk g, e = .returned (.tuple #[.agg #[.int .i64 k, .string s, .slice a (Fo.len ks) c], .bool true]) ∧ CopX w' w.heap.size ks a c bk g ∧ Below w.heap.size w w'
def PxNo (w : World) (e : Ending) (w' : World) : Prop := e = .returned (.tuple #[.agg #[.int .i64 0, .string ⟨#[]⟩, .slice none 0 0], .bool false]) ∧ Below w.heap.size w w'
section
variable {l : List UInt8} {w w' : World} {e : Ending} {k : Int} {s : ByteArray} {ks : Fo}
theorem PsPost.yes (h : PsPost l w e w') (hv : validE k s ks = true) (hl : l = fm1 k s ks) : PsYes k s ks w e w' := by
  obtain ⟨hB, ⟨k', s', ks', a, c, he, hk, hc, hv', hl'⟩ | ⟨_, hno⟩⟩ := h
  · obtain ⟨rfl, rfl, rfl⟩ := valid_uniq hv hv' (hl ▸ hl')
    exact ⟨a, c, he, hk, hc, hB⟩
  · exact absurd hl (hno k s ks hv)
theorem PePost.yes (h : PePost l w e w') (hv : validE k s ks = true) (hl : l = fm1 k s ks) : PeYes k s ks w e w' := by
  obtain ⟨hB, ⟨k', s', ks', a, c, bk, g, he, hk, hv', hl'⟩ | ⟨_, hno⟩⟩ := h
  · obtain ⟨rfl, rfl, rfl⟩ := valid_uniq hv hv' (hl ▸ hl')
    exact ⟨a, c, bk, g, he, hk, hB⟩
  · exact absurd hl (hno k s ks hv)
theorem PsPost.no (h : PsPost l w e w') (hn : ∀ k s ks, validE k s ks = true → l ≠ fm1 k s ks) : PxNo w e w' := by
  obtain ⟨hB, ⟨k', s', ks', a, c, he, hk, hc, hv', hl'⟩ | ⟨he, _⟩⟩ := h
  · exact absurd hl' (hn _ _ _ hv')
  · exact ⟨he, hB⟩
theorem PePost.no (h : PePost l w e w') (hn : ∀ k s ks, validE k s ks = true → l ≠ fm1 k s ks) : PxNo w e w' := by
  obtain ⟨hB, ⟨k', s', ks', a, c, bk, g, he, hk, hv', hl'⟩ | ⟨he, _⟩⟩ := h
  · exact absurd hl' (hn _ _ _ hv')
  · exact ⟨he, hB⟩
theorem below_tch {B : Nat} {bs : List Nat} {w'' : World} (h : Below B w w') (t : TchL bs w' w'') (hb : ∀ x ∈ bs, B ≤ x) (hB : B ≤ w.heap.size) : Below B w w'' :=
  ⟨t.os.trans h.os, t.tape.trans h.tape, t.output.trans h.output, Nat.le_trans h.size t.size, fun i hi => (t.out i (Nat.lt_of_lt_of_le hi (Nat.le_trans hB h.size)) (fun hx => by have := hb i hx; omega)).trans (h.block i hi)⟩
theorem BxE.tch {g : Nat} {v : Value} {T : TypeId} {bs : List Nat} (h : BxE w g k s v T) (t : TchL bs w w') (hg : g ∉ bs) : BxE w' g k s v T := (t.out g (blk_lt h) hg).trans h
theorem nil_sep (w : World) (a : Option Addr) : SepA w .nil 0 a 0 := ⟨rfl, fun h => absurd h (by simp)⟩
end

set_option maxRecDepth 100000 in
set_option maxHeartbeats 4000000 in
theorem walkFnExactParseExpr (s : ByteArray) (w : World) (hs0 : s.size ≤ maxLen) :
    Calls Try.prog 3 #[.string s] w fun e w' => e = .returned (.bool true) ∧ Below w.heap.size w w' := by
  by_cases hs : s.size ≤ 1048576
  case neg =>
    have h1 : (1048576 : Int) < (s.size : Int) := by omega
    clear hs
    unfold maxLen at hs0
    go_enter Try.func3, Try.ntmps3
    go_wp2_with fail
    go_ret
    exact ⟨rfl, Below.refl _ _⟩
  case pos =>
  have hll : s.data.toList.length ≤ 1048576 := by rw [Array.length_toList]; exact hs
  have h1 : ¬ (1048576 : Int) < (s.size : Int) := by omega
  have HS := fun W => Lib.hid (parseS_any s _ W rfl hs)
  have HI := fun W => Lib.hid (parseI_any s _ W rfl hs)
  clear hs hs0
  by_cases hex : ∃ k s' ks, validE k s' ks = true ∧ s.data.toList = fm1 k s' ks
  · obtain ⟨k, s', ks, hv, he⟩ := hex
    obtain ⟨f1, f2, f3⟩ := valid_fits hv he hll
    have hz20 := (valid_tx hv).2.2
    have Hf := Lib.hid (And.intro f2 f3)
    have HSy := fun W => Lib.hid ((HS W).out.mono fun e w' h => h.yes hv he)
    have HIy := fun W => Lib.hid ((HI W).out.mono fun e w' h => h.yes hv he)
    clear HS HI hv he f1 f2 f3 hll
    go_enter Try.func3, Try.ntmps3
    go_wp2_with fail
    refine (HSy _).out.mono ?_
    rintro e w1 ⟨a1, c1, rfl, hk1, hc1, hB1⟩
    have hA1 := (Below.refl w1.heap.size w1).alloc (Nat.le_refl _) (.cells #[.int .i64 k, .string s', .slice a1 ks.len c1] 24)
    have hx1 := BxE.new w1 k s' (.slice a1 ks.len c1) 24
    have hk1 := (hk1.more (Nat.zero_le _) (Nat.le_refl _)).next hA1
    have B1 := hB1.trans (hA1.mono hB1.size)
    have hl1 : w1.heap.size < (w1.alloc (.cells #[.int .i64 k, .string s', .slice a1 ks.len c1] 24)).heap.size := by simp
    have hl0 := hB1.size
    go_upto_region 4 with (fail)
    generalize w1.alloc (.cells #[.int .i64 k, .string s', .slice a1 ks.len c1] 24) = V1 at *
    have Hx1 := Lib.hid hx1
    have Hk1 := Lib.hid hk1
    clear hB1 hA1 hx1 hk1
    go_wp2_with fail
    refine (HIy _).out.mono ?_
    rintro e w2 ⟨a2, c2, bk, g, rfl, hcx, hB2⟩
    have hA2 := (Below.refl w2.heap.size w2).alloc (Nat.le_refl _) (.cells #[.int .i64 k, .string s', .slice a2 ks.len c2] 24)
    have hx2 := BxE.new w2 k s' (.slice a2 ks.len c2) 24
    have hBA2 := hB2.trans (hA2.mono hB2.size)
    have Hin : Hid (∀ x ∈ blksA g bk, V1.heap.size ≤ x ∧ x < w2.heap.size) := Lib.hid hcx.2.2.2.2.2.1
    have Hcx := Lib.hid (hcx.any (grown_of_below hA2))
    have B2 := B1.trans (hBA2.mono B1.size)
    have Hx1 := Lib.hid (Hx1.out.next hBA2)
    have Hk1 := Lib.hid (Hk1.out.below hBA2)
    have hl2 : V1.heap.size ≤ w2.heap.size := hB2.size
    have hl3 : w2.heap.size < (w2.alloc (.cells #[.int .i64 k, .string s', .slice a2 ks.len c2] 24)).heap.size := by simp
    go_upto_region 5 with (fail)
    generalize w2.alloc (.cells #[.int .i64 k, .string s', .slice a2 ks.len c2] 24) = V2 at *
    have Hx2 := Lib.hid hx2
    clear hB2 hA2 hx2 hBA2 hcx
    obtain ⟨p0, p1, p2, pf0, pf1, pf2, pl⟩ := Hx1.out.facts
    obtain ⟨q0, q1, q2, qf0, qf1, qf2, ql⟩ := Hx2.out.facts
    go_wp2_with fail
    refine (eqExpr_yes k s' ks a2 a1 ks.len c2 c1 V2 (Hcx.out.2.2.1.more (Nat.zero_le _) (Nat.le_refl _)) (Hk1.out.more (Nat.le_refl _) (by omega)) Hf.out.1 Hf.out.2).mono ?_
    rintro e w3 ⟨rfl, hB3⟩
    have B3 := B2.trans (hB3.mono B2.size)
    have Hx1 := Lib.hid (Hx1.out.next hB3)
    have Hk1 := Lib.hid (Hk1.out.below (hB3.mono (by omega)))
    have Hx2 := Lib.hid (Hx2.out.next hB3)
    have Hcx := Lib.hid (Hcx.out.any (grown_of_below hB3))
    have hl4 := hB3.size
    clear p0 p1 p2 pf0 pf1 pf2 pl q0 q1 q2 qf0 qf1 qf2 ql hB3
    obtain ⟨q0, q1, q2, qf0, qf1, qf2, ql⟩ := Hx2.out.facts
    have hbz : bk.size = ks.size := Hcx.out.2.2.2.2.2.2
    have hbig : 1 + 2 * bk.size ≤ 8388600 := by omega
    have hbn : ¬ ((1 + 2 * bk.size : Nat) : Int) < 0 := by omega
    have Hbz := Lib.hid hbz
    clear hbz
    go_wp2_with fail
    refine (markX_any k s' bk a2 g ks.len c2 1 w3 Hcx.out.2.2.2.1 Hcx.out.2.2.2.2.1 (fun x hx => by have := Hin.out x hx; omega) (Nat.le_refl _) hbig Hf.out.2).mono ?_
    rintro e w4 ⟨rfl, hmk, hT⟩
    have B4 := below_tch B3 hT (fun x hx => by have := Hin.out x hx; omega) (Nat.le_refl _)
    have Hx1 := Lib.hid (Hx1.out.tch hT (fun hx => by have := Hin.out _ hx; omega))
    have Hx2 := Lib.hid (Hx2.out.tch hT (fun hx => by have := Hin.out _ hx; omega))
    have Hk1 : Hid (KA w4 0 V1.heap.size ks a1 ks.len) := Lib.hid (Hk1.out.keep (Nat.le_refl _) (Nat.le_refl _) fun p _ hp => World.cell?_of_block (hT.out p.block (by omega) (fun hx => by have := Hin.out _ hx; omega)))
    have Hmk := Lib.hid hmk
    have hl5 := hT.size
    clear hmk hT Hcx q0 q1 q2 qf0 qf1 qf2 ql
    obtain ⟨q0, q1, q2, qf0, qf1, qf2, ql⟩ := Hx2.out.facts
    go_wp2_with fail
    refine (heldX_any k s' bk a2 g ks.len c2 1 w4 Hmk.out (Nat.le_refl _) hbig Hf.out.2).mono ?_
    rintro e w5 ⟨rfl, hB5⟩
    have B5 := B4.trans (hB5.mono B4.size)
    have Hx1 := Lib.hid (Hx1.out.next hB5)
    have Hk1 := Lib.hid (Hk1.out.below (hB5.mono (by omega)))
    have Hx2 := Lib.hid (Hx2.out.next hB5)
    have Hmk := Lib.hid (Hmk.out.keep fun x _ hx => hB5.block x hx)
    have hl6 := hB5.size
    have hne : (((1 + 2 * bk.size : Nat) : Int) != ((1 + 2 * bk.size : Nat) : Int)) = false := by simp
    clear hB5 q0 q1 q2 qf0 qf1 qf2 ql
    go_wp2_with fail
    refine (HIy _).out.mono ?_
    rintro e w6 ⟨a3, c3, bk3, g3, rfl, hcx3, hB6⟩
    have hA6 := (Below.refl w6.heap.size w6).alloc (Nat.le_refl _) (.cells #[.int .i64 k, .string s', .slice a3 ks.len c3] 24)
    have hx6 := BxE.new w6 k s' (.slice a3 ks.len c3) 24
    have hBA6 := hB6.trans (hA6.mono hB6.size)
    have Hk3 := Lib.hid ((hcx3.any (grown_of_below hA6)).2.2.1.more (Nat.zero_le _) (Nat.le_refl _))
    have B6 := B5.trans (hBA6.mono B5.size)
    have Hx1 := Lib.hid (Hx1.out.next hBA6)
    have Hk1 := Lib.hid (Hk1.out.below (hBA6.mono (by omega)))
    have Hx2 := Lib.hid (Hx2.out.next hBA6)
    have Hmk := Lib.hid (Hmk.out.keep fun x _ hx => hBA6.block x hx)
    have hl7 := hBA6.size
    go_upto_region 16 with (fail)
    generalize w6.alloc (.cells #[.int .i64 k, .string s', .slice a3 ks.len c3] 24) = V6 at *
    have Hx6 := Lib.hid hx6
    clear hB6 hA6 hx6 hBA6 hcx3
    obtain ⟨p0, p1, p2, pf0, pf1, pf2, pl⟩ := Hx1.out.facts
    obtain ⟨q0, q1, q2, qf0, qf1, qf2, ql⟩ := Hx6.out.facts
    go_wp2_with fail
    refine (eqExpr_yes k s' ks a3 a1 ks.len c3 c1 V6 Hk3.out (Hk1.out.more (Nat.le_refl _) (by omega)) Hf.out.1 Hf.out.2).mono ?_
    rintro e w7 ⟨rfl, hB7⟩
    have B7 := B6.trans (hB7.mono B6.size)
    have Hx2 := Lib.hid (Hx2.out.next hB7)
    have Hmk := Lib.hid (Hmk.out.keep fun x _ hx => hB7.block x hx)
    clear p0 p1 p2 pf0 pf1 pf2 pl q0 q1 q2 qf0 qf1 qf2 ql hB7
    obtain ⟨q0, q1, q2, qf0, qf1, qf2, ql⟩ := Hx2.out.facts
    go_wp2_with fail
    refine (heldX_any k s' bk a2 g ks.len c2 1 w7 Hmk.out (Nat.le_refl _) hbig Hf.out.2).mono ?_
    rintro e w8 ⟨rfl, hB8⟩
    have B8 := B7.trans (hB8.mono B7.size)
    go_wp2_with fail
    go_ret
    exact ⟨rfl, B8⟩
  · have hno : ∀ k s' ks, validE k s' ks = true → s.data.toList ≠ fm1 k s' ks := fun k s' ks h1 h2 => hex ⟨k, s', ks, h1, h2⟩
    have HSy := fun W => Lib.hid ((HS W).out.mono fun e w' h => h.no hno)
    have HIy := fun W => Lib.hid ((HI W).out.mono fun e w' h => h.no hno)
    clear HS HI hno hex hll
    have hne : (((1 + 2 * Fo.nil.size : Nat) : Int) != ((1 + 2 * Fo.nil.size : Nat) : Int)) = false := by simp
    go_enter Try.func3, Try.ntmps3
    go_wp2_with fail
    refine (HSy _).out.mono ?_
    rintro e w1 ⟨rfl, hB1⟩
    have hA1 := (Below.refl w1.heap.size w1).alloc (Nat.le_refl _) (.cells #[.int .i64 0, .string ⟨#[]⟩, .slice none 0 0] 24)
    have hx1 := BxE.new w1 0 ⟨#[]⟩ (.slice none 0 0) 24
    have B1 := hB1.trans (hA1.mono hB1.size)
    go_upto_region 4 with (fail)
    generalize w1.alloc (.cells #[.int .i64 0, .string ⟨#[]⟩, .slice none 0 0] 24) = V1 at *
    have Hx1 := Lib.hid hx1
    clear hB1 hA1 hx1
    go_wp2_with fail
    refine (HIy _).out.mono ?_
    rintro e w2 ⟨rfl, hB2⟩
    have hA2 := (Below.refl w2.heap.size w2).alloc (Nat.le_refl _) (.cells #[.int .i64 0, .string ⟨#[]⟩, .slice none 0 0] 24)
    have hx2 := BxE.new w2 0 ⟨#[]⟩ (.slice none 0 0) 24
    have hBA2 := hB2.trans (hA2.mono hB2.size)
    have B2 := B1.trans (hBA2.mono B1.size)
    have Hx1 := Lib.hid (Hx1.out.next hBA2)
    go_upto_region 5 with (fail)
    generalize w2.alloc (.cells #[.int .i64 0, .string ⟨#[]⟩, .slice none 0 0] 24) = V2 at *
    have Hx2 := Lib.hid hx2
    clear hB2 hA2 hx2 hBA2
    obtain ⟨p0, p1, p2, pf0, pf1, pf2, pl⟩ := Hx1.out.facts
    obtain ⟨q0, q1, q2, qf0, qf1, qf2, ql⟩ := Hx2.out.facts
    go_wp2_with fail
    refine (eqExpr_yes 0 ⟨#[]⟩ .nil none none 0 0 0 V2 KA.nil KA.nil trivial (Nat.zero_le _)).mono ?_
    rintro e w3 ⟨rfl, hB3⟩
    have B3 := B2.trans (hB3.mono B2.size)
    have Hx1 := Lib.hid (Hx1.out.next hB3)
    have Hx2 := Lib.hid (Hx2.out.next hB3)
    clear p0 p1 p2 pf0 pf1 pf2 pl q0 q1 q2 qf0 qf1 qf2 ql hB3
    obtain ⟨q0, q1, q2, qf0, qf1, qf2, ql⟩ := Hx2.out.facts
    go_wp2_with fail
    refine (markX_any 0 ⟨#[]⟩ .nil none 0 0 0 1 w3 (nil_sep _ _) (by simp [blksA, Fo.len]) (fun x hx => by simp [blksA, Fo.len] at hx) (Nat.le_refl _) (by decide) (Nat.zero_le _)).mono ?_
    rintro e w4 ⟨rfl, hmk, hT⟩
    have hBT : Below w3.heap.size w3 w4 := ⟨hT.os, hT.tape, hT.output, hT.size, fun i hi => hT.out i hi (fun hx => by simp [blksA, Fo.len] at hx)⟩
    have B4 := B3.trans (hBT.mono B3.size)
    have Hx1 := Lib.hid (Hx1.out.next hBT)
    have Hx2 := Lib.hid (Hx2.out.next hBT)
    have Hmk := Lib.hid hmk
    clear hmk hT hBT q0 q1 q2 qf0 qf1 qf2 ql
    obtain ⟨q0, q1, q2, qf0, qf1, qf2, ql⟩ := Hx2.out.facts
    go_wp2_with fail
    refine (heldX_any 0 ⟨#[]⟩ .nil none 0 0 0 1 w4 Hmk.out (Nat.le_refl _) (by decide) (Nat.zero_le _)).mono ?_
    rintro e w5 ⟨rfl, hB5⟩
    have B5 := B4.trans (hB5.mono B4.size)
    have Hx1 := Lib.hid (Hx1.out.next hB5)
    have Hx2 := Lib.hid (Hx2.out.next hB5)
    have Hmk := Lib.hid (Hmk.out.keep fun x _ hx => hB5.block x hx)
    clear hB5 q0 q1 q2 qf0 qf1 qf2 ql
    go_wp2_with fail
    refine (HIy _).out.mono ?_
    rintro e w6 ⟨rfl, hB6⟩
    have hA6 := (Below.refl w6.heap.size w6).alloc (Nat.le_refl _) (.cells #[.int .i64 0, .string ⟨#[]⟩, .slice none 0 0] 24)
    have hx6 := BxE.new w6 0 ⟨#[]⟩ (.slice none 0 0) 24
    have hBA6 := hB6.trans (hA6.mono hB6.size)
    have B6 := B5.trans (hBA6.mono B5.size)
    have Hx1 := Lib.hid (Hx1.out.next hBA6)
    have Hx2 := Lib.hid (Hx2.out.next hBA6)
    have Hmk := Lib.hid (Hmk.out.keep fun x _ hx => hBA6.block x hx)
    go_upto_region 16 with (fail)
    generalize w6.alloc (.cells #[.int .i64 0, .string ⟨#[]⟩, .slice none 0 0] 24) = V6 at *
    have Hx6 := Lib.hid hx6
    clear hB6 hA6 hx6 hBA6
    obtain ⟨p0, p1, p2, pf0, pf1, pf2, pl⟩ := Hx1.out.facts
    obtain ⟨q0, q1, q2, qf0, qf1, qf2, ql⟩ := Hx6.out.facts
    go_wp2_with fail
    refine (eqExpr_yes 0 ⟨#[]⟩ .nil none none 0 0 0 V6 KA.nil KA.nil trivial (Nat.zero_le _)).mono ?_
    rintro e w7 ⟨rfl, hB7⟩
    have B7 := B6.trans (hB7.mono B6.size)
    have Hx2 := Lib.hid (Hx2.out.next hB7)
    have Hmk := Lib.hid (Hmk.out.keep fun x _ hx => hB7.block x hx)
    clear p0 p1 p2 pf0 pf1 pf2 pl q0 q1 q2 qf0 qf1 qf2 ql hB7
    obtain ⟨q0, q1, q2, qf0, qf1, qf2, ql⟩ := Hx2.out.facts
    go_wp2_with fail
    refine (heldX_any 0 ⟨#[]⟩ .nil none 0 0 0 1 w7 Hmk.out (Nat.le_refl _) (by decide) (Nat.zero_le _)).mono ?_
    rintro e w8 ⟨rfl, hB8⟩
    have B8 := B7.trans (hB8.mono B7.size)
    go_wp2_with fail
    go_ret
    exact ⟨rfl, B8⟩
end Go.Proofs.Ytfeepecmijmddaa
