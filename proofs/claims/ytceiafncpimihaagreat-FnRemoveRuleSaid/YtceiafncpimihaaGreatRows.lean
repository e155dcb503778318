/-
  No cell of these rows narrows 'for every input' (looked for: loops, veiled, ifaces, maps, wideKeys, modest, calm, conditions, laid).
  DERIVED. THE GIVEN ROWS OF THIS SEAT. 5 by the template 'for every input the law returns true; each argument reads behind the call as it read before'; 0 by the template 'total and deterministic' (their statements: YtceiafncpimihaaGreatTotals.lean).
  GIVEN WITH THE SEED: the statements are not yours to turn. If you find one false, say at which input.
  Laid BY PROGRAM, IN A SANDBOX (cutbox-rows.mjs): the forced cells as the released guide's own fill.sh prints them over the translation 7c220b3914d486d7… (all of the seat's roots in one cut). By AI agents, Wed Nov 11 2026. No macro, syntax, notation, axiom, sorry.
-/
import Derived.Test.YtceiafncpimihaaGreatChecked
import GoSem.Claim
import GoSem.ClaimJoined
import GoSem.ClaimMapViews
import Derived.JoinedTies
import Derived.KernelRfl
namespace Go.Proofs.YtceiafncpimihaaGreat
/- THE CELL 'sum', in the pinned program and in every row, IS THE sha256 OF THE DUMP (.gsa) THAT YtceiafncpimihaaGreatProg.lean LOADS. Nothing in Lean hashes anything: it is a label: what it is worth is what the hold of that sum in a sandbox is worth. -/
noncomputable def Tryz.pinned : Pinned := { name := "ytceiafncpimihaagreat", sum := "7c220b3914d486d7c665453946a26e964c3f95d234224424b2b94d1287c23071", checked := Tryz.checked }
namespace Rows
def none {H : Type} : Left H := { results := [], args := [] }

/-- 'laws.FnSetSource': WHATEVER THE INPUT: true; the input reads as it did. -/
def fnSetSourceSpec : ChangeSpec := { name := "fnSetSource", fn := fun _ => fun
  | [d] => { results := [.lit (.bool true)], args := [d] }
  | _ => none }
def fnSetSourceRow : OpenClaim := { program := "ytceiafncpimihaagreat", sum := "7c220b3914d486d7c665453946a26e964c3f95d234224424b2b94d1287c23071", func := "loop.example/buildengine/laws.FnSetSource", spec := "fnSetSource", inPlace := ["internal/bytealg.IndexByteString", "internal/bytealg.IndexString"], unfollowed := true, recurses := true, named := ["internal/bytealg.MaxLen"], plainKeys := false, apart := false }
def FnSetSourceSaid : Prop := fnSetSourceRow.holds Tryz.pinned (OpenSpec.ofChange fnSetSourceSpec)

/-- ITS FALSE NEIGHBOUR: 'it returns false'. Refute it at one input. -/
def fnSetSourceWrong : ChangeSpec := { name := "fnSetSource", fn := fun _ => fun
  | [d] => { results := [.lit (.bool false)], args := [d] }
  | _ => none }
def FnSetSourceWrongFalsely : Prop := fnSetSourceRow.holds Tryz.pinned (OpenSpec.ofChange fnSetSourceWrong)

/-- 'laws.FnRemoveSource': WHATEVER THE INPUT: true; the input reads as it did. -/
def fnRemoveSourceSpec : ChangeSpec := { name := "fnRemoveSource", fn := fun _ => fun
  | [d] => { results := [.lit (.bool true)], args := [d] }
  | _ => none }
def fnRemoveSourceRow : OpenClaim := { program := "ytceiafncpimihaagreat", sum := "7c220b3914d486d7c665453946a26e964c3f95d234224424b2b94d1287c23071", func := "loop.example/buildengine/laws.FnRemoveSource", spec := "fnRemoveSource", inPlace := ["internal/bytealg.IndexByteString", "internal/bytealg.IndexString"], unfollowed := true, recurses := true, named := ["internal/bytealg.MaxLen"], plainKeys := false, apart := false }
def FnRemoveSourceSaid : Prop := fnRemoveSourceRow.holds Tryz.pinned (OpenSpec.ofChange fnRemoveSourceSpec)

/-- ITS FALSE NEIGHBOUR: 'it returns false'. Refute it at one input. -/
def fnRemoveSourceWrong : ChangeSpec := { name := "fnRemoveSource", fn := fun _ => fun
  | [d] => { results := [.lit (.bool false)], args := [d] }
  | _ => none }
def FnRemoveSourceWrongFalsely : Prop := fnRemoveSourceRow.holds Tryz.pinned (OpenSpec.ofChange fnRemoveSourceWrong)

/-- 'laws.FnSetRule': WHATEVER THE INPUT: true; the input reads as it did. -/
def fnSetRuleSpec : ChangeSpec := { name := "fnSetRule", fn := fun _ => fun
  | [d] => { results := [.lit (.bool true)], args := [d] }
  | _ => none }
def fnSetRuleRow : OpenClaim := { program := "ytceiafncpimihaagreat", sum := "7c220b3914d486d7c665453946a26e964c3f95d234224424b2b94d1287c23071", func := "loop.example/buildengine/laws.FnSetRule", spec := "fnSetRule", inPlace := ["internal/bytealg.IndexByteString", "internal/bytealg.IndexString"], unfollowed := true, recurses := true, named := ["internal/bytealg.MaxLen"], plainKeys := false, apart := false }
def FnSetRuleSaid : Prop := fnSetRuleRow.holds Tryz.pinned (OpenSpec.ofChange fnSetRuleSpec)

/-- ITS FALSE NEIGHBOUR: 'it returns false'. Refute it at one input. -/
def fnSetRuleWrong : ChangeSpec := { name := "fnSetRule", fn := fun _ => fun
  | [d] => { results := [.lit (.bool false)], args := [d] }
  | _ => none }
def FnSetRuleWrongFalsely : Prop := fnSetRuleRow.holds Tryz.pinned (OpenSpec.ofChange fnSetRuleWrong)

/-- 'laws.FnRemoveRule': WHATEVER THE INPUT: true; the input reads as it did. -/
def fnRemoveRuleSpec : ChangeSpec := { name := "fnRemoveRule", fn := fun _ => fun
  | [d] => { results := [.lit (.bool true)], args := [d] }
  | _ => none }
def fnRemoveRuleRow : OpenClaim := { program := "ytceiafncpimihaagreat", sum := "7c220b3914d486d7c665453946a26e964c3f95d234224424b2b94d1287c23071", func := "loop.example/buildengine/laws.FnRemoveRule", spec := "fnRemoveRule", inPlace := ["internal/bytealg.IndexByteString", "internal/bytealg.IndexString"], unfollowed := true, recurses := true, named := ["internal/bytealg.MaxLen"], plainKeys := false, apart := false }
def FnRemoveRuleSaid : Prop := fnRemoveRuleRow.holds Tryz.pinned (OpenSpec.ofChange fnRemoveRuleSpec)

/-- ITS FALSE NEIGHBOUR: 'it returns false'. Refute it at one input. -/
def fnRemoveRuleWrong : ChangeSpec := { name := "fnRemoveRule", fn := fun _ => fun
  | [d] => { results := [.lit (.bool false)], args := [d] }
  | _ => none }
def FnRemoveRuleWrongFalsely : Prop := fnRemoveRuleRow.holds Tryz.pinned (OpenSpec.ofChange fnRemoveRuleWrong)

/-- 'laws.FnSetCommute': WHATEVER THE INPUT: true; the input reads as it did. -/
def fnSetCommuteSpec : ChangeSpec := { name := "fnSetCommute", fn := fun _ => fun
  | [d1, d2] => { results := [.lit (.bool true)], args := [d1, d2] }
  | _ => none }
def fnSetCommuteRow : OpenClaim := { program := "ytceiafncpimihaagreat", sum := "7c220b3914d486d7c665453946a26e964c3f95d234224424b2b94d1287c23071", func := "loop.example/buildengine/laws.FnSetCommute", spec := "fnSetCommute", inPlace := ["internal/bytealg.IndexByteString", "internal/bytealg.IndexString"], unfollowed := true, recurses := true, named := ["internal/bytealg.MaxLen"], plainKeys := false, apart := false }
def FnSetCommuteSaid : Prop := fnSetCommuteRow.holds Tryz.pinned (OpenSpec.ofChange fnSetCommuteSpec)

/-- ITS FALSE NEIGHBOUR: 'it returns false'. Refute it at one input. -/
def fnSetCommuteWrong : ChangeSpec := { name := "fnSetCommute", fn := fun _ => fun
  | [d1, d2] => { results := [.lit (.bool false)], args := [d1, d2] }
  | _ => none }
def FnSetCommuteWrongFalsely : Prop := fnSetCommuteRow.holds Tryz.pinned (OpenSpec.ofChange fnSetCommuteWrong)

/- THE SECOND FORM. 'bulk': how many values and letters a reading holds, each counted each time it is reached (what is shared counts as often as it is met; a slice's spare places count too). A statement '..UptoSaid' is the law's where the arguments, and the package variables that the reading takes, are together of bulk at most 1048576: NARROWER than '..Said'. Prove '..Said' where nothing that the law and all that it calls make is longer than what came in: it says more and counts as full. Else prove '..UptoSaid'. A law counts once. -/
mutual
def uptoBulk {H : Type} : DataW H → Nat
  | .lit (.string bytes) => bytes.length + 1
  | .lit _ => 1
  | .nil => 1
  | .ptr d => uptoBulk d + 1
  | .slice elems spare => uptoBulkAll elems + uptoBulkAll spare + 1
  | .agg parts => uptoBulkAll parts + 1
  | .iface _ d => uptoBulk d + 1
  | .map entries => uptoBulkEntries entries + 1
  | .held _ => 1
def uptoBulkAll {H : Type} : List (DataW H) → Nat
  | [] => 0
  | d :: r => uptoBulk d + uptoBulkAll r
def uptoBulkEntries {H : Type} : List (Lit × DataW H) → Nat
  | [] => 0
  | x :: r => uptoBulkEntry x + uptoBulkEntries r
def uptoBulkEntry {H : Type} : Lit × DataW H → Nat
  | (.string bytes, d) => bytes.length + uptoBulk d + 1
  | (_, d) => uptoBulk d + 1
 end
def uptoSmall : (H : Type) → List (DataW H) → Bool := fun _ ds => decide (uptoBulkAll ds ≤ 1048576)
def OpenSpec.upto (s : _root_.Go.ChangeSpec) : _root_.Go.OpenSpec := { _root_.Go.OpenSpec.ofChange s with cond := some uptoSmall }

/-- 'laws.FnSetSource', WHERE WHAT IT READS IS OF BULK AT MOST 1048576: true; the input reads as it did. -/
def fnSetSourceUptoRow : OpenClaim := { program := "ytceiafncpimihaagreat", sum := "7c220b3914d486d7c665453946a26e964c3f95d234224424b2b94d1287c23071", func := "loop.example/buildengine/laws.FnSetSource", spec := "fnSetSource", inPlace := ["internal/bytealg.IndexByteString", "internal/bytealg.IndexString"], unfollowed := true, recurses := true, named := ["internal/bytealg.MaxLen"], plainKeys := false, apart := false, narrowed := true }
def FnSetSourceUptoSaid : Prop := fnSetSourceUptoRow.holds Tryz.pinned (OpenSpec.upto fnSetSourceSpec)

/-- 'laws.FnRemoveSource', WHERE WHAT IT READS IS OF BULK AT MOST 1048576: true; the input reads as it did. -/
def fnRemoveSourceUptoRow : OpenClaim := { program := "ytceiafncpimihaagreat", sum := "7c220b3914d486d7c665453946a26e964c3f95d234224424b2b94d1287c23071", func := "loop.example/buildengine/laws.FnRemoveSource", spec := "fnRemoveSource", inPlace := ["internal/bytealg.IndexByteString", "internal/bytealg.IndexString"], unfollowed := true, recurses := true, named := ["internal/bytealg.MaxLen"], plainKeys := false, apart := false, narrowed := true }
def FnRemoveSourceUptoSaid : Prop := fnRemoveSourceUptoRow.holds Tryz.pinned (OpenSpec.upto fnRemoveSourceSpec)

/-- 'laws.FnSetRule', WHERE WHAT IT READS IS OF BULK AT MOST 1048576: true; the input reads as it did. -/
def fnSetRuleUptoRow : OpenClaim := { program := "ytceiafncpimihaagreat", sum := "7c220b3914d486d7c665453946a26e964c3f95d234224424b2b94d1287c23071", func := "loop.example/buildengine/laws.FnSetRule", spec := "fnSetRule", inPlace := ["internal/bytealg.IndexByteString", "internal/bytealg.IndexString"], unfollowed := true, recurses := true, named := ["internal/bytealg.MaxLen"], plainKeys := false, apart := false, narrowed := true }
def FnSetRuleUptoSaid : Prop := fnSetRuleUptoRow.holds Tryz.pinned (OpenSpec.upto fnSetRuleSpec)

/-- 'laws.FnRemoveRule', WHERE WHAT IT READS IS OF BULK AT MOST 1048576: true; the input reads as it did. -/
def fnRemoveRuleUptoRow : OpenClaim := { program := "ytceiafncpimihaagreat", sum := "7c220b3914d486d7c665453946a26e964c3f95d234224424b2b94d1287c23071", func := "loop.example/buildengine/laws.FnRemoveRule", spec := "fnRemoveRule", inPlace := ["internal/bytealg.IndexByteString", "internal/bytealg.IndexString"], unfollowed := true, recurses := true, named := ["internal/bytealg.MaxLen"], plainKeys := false, apart := false, narrowed := true }
def FnRemoveRuleUptoSaid : Prop := fnRemoveRuleUptoRow.holds Tryz.pinned (OpenSpec.upto fnRemoveRuleSpec)

/-- 'laws.FnSetCommute', WHERE WHAT IT READS IS OF BULK AT MOST 1048576: true; the input reads as it did. -/
def fnSetCommuteUptoRow : OpenClaim := { program := "ytceiafncpimihaagreat", sum := "7c220b3914d486d7c665453946a26e964c3f95d234224424b2b94d1287c23071", func := "loop.example/buildengine/laws.FnSetCommute", spec := "fnSetCommute", inPlace := ["internal/bytealg.IndexByteString", "internal/bytealg.IndexString"], unfollowed := true, recurses := true, named := ["internal/bytealg.MaxLen"], plainKeys := false, apart := false, narrowed := true }
def FnSetCommuteUptoSaid : Prop := fnSetCommuteUptoRow.holds Tryz.pinned (OpenSpec.upto fnSetCommuteSpec)

end Rows
end Go.Proofs.YtceiafncpimihaaGreat
