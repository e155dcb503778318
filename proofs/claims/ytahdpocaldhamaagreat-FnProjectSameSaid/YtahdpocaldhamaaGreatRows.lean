/-
  No cell of these rows narrows 'for every input' (looked for: loops, veiled, ifaces, maps, wideKeys, modest, calm, conditions, laid).
  DERIVED. THE GIVEN ROWS OF THIS SEAT. 3 by the template 'for every input the law returns true; each argument reads behind the call as it read before'; 0 by the template 'total and deterministic' (their statements: YtahdpocaldhamaaGreatTotals.lean).
  GIVEN WITH THE SEED: the statements are not yours to turn. If you find one false, say at which input.
  Laid BY PROGRAM, IN A SANDBOX (cutbox-rows.mjs): the forced cells as the released guide's own fill.sh prints them over the translation 1b494fb130870144… (all of the seat's roots in one cut). By AI agents, Wed Nov 11 2026. No macro, syntax, notation, axiom, sorry.
-/
import Derived.Test.YtahdpocaldhamaaGreatChecked
import GoSem.Claim
import GoSem.ClaimJoined
import GoSem.ClaimMapViews
import Derived.JoinedTies
import Derived.KernelRfl
namespace Go.Proofs.YtahdpocaldhamaaGreat
/- THE CELL 'sum', in the pinned program and in every row, IS THE sha256 OF THE DUMP (.gsa) THAT YtahdpocaldhamaaGreatProg.lean LOADS. Nothing in Lean hashes anything: it is a label: what it is worth is what the hold of that sum in a sandbox is worth. -/
noncomputable def Tryz.pinned : Pinned := { name := "ytahdpocaldhamaagreat", sum := "1b494fb13087014482e91fcd6da3b91cb1b6ec37d54725bc6dbbff2c76af1715", checked := Tryz.checked }
namespace Rows
def none {H : Type} : Left H := { results := [], args := [] }

/-- 'laws.FnProjectSame': WHATEVER THE INPUT: true; the input reads as it did. -/
def fnProjectSameSpec : ChangeSpec := { name := "fnProjectSame", fn := fun _ => fun
  | [d] => { results := [.lit (.bool true)], args := [d] }
  | _ => none }
def fnProjectSameRow : OpenClaim := { program := "ytahdpocaldhamaagreat", sum := "1b494fb13087014482e91fcd6da3b91cb1b6ec37d54725bc6dbbff2c76af1715", func := "loop.example/buildengine/laws.FnProjectSame", spec := "fnProjectSame", inPlace := ["internal/bytealg.IndexByteString", "internal/bytealg.IndexString", "internal/abi.NoEscape", "internal/bytealg.MakeNoZero"], unfollowed := true, recurses := true, named := ["internal/bytealg.MaxLen"], plainKeys := false, apart := false }
def FnProjectSameSaid : Prop := fnProjectSameRow.holds Tryz.pinned (OpenSpec.ofChange fnProjectSameSpec)

/-- ITS FALSE NEIGHBOUR: 'it returns false'. Refute it at one input. -/
def fnProjectSameWrong : ChangeSpec := { name := "fnProjectSame", fn := fun _ => fun
  | [d] => { results := [.lit (.bool false)], args := [d] }
  | _ => none }
def FnProjectSameWrongFalsely : Prop := fnProjectSameRow.holds Tryz.pinned (OpenSpec.ofChange fnProjectSameWrong)

/-- 'laws.FnProjectPaths': WHATEVER THE INPUT: true; the input reads as it did. -/
def fnProjectPathsSpec : ChangeSpec := { name := "fnProjectPaths", fn := fun _ => fun
  | [d] => { results := [.lit (.bool true)], args := [d] }
  | _ => none }
def fnProjectPathsRow : OpenClaim := { program := "ytahdpocaldhamaagreat", sum := "1b494fb13087014482e91fcd6da3b91cb1b6ec37d54725bc6dbbff2c76af1715", func := "loop.example/buildengine/laws.FnProjectPaths", spec := "fnProjectPaths", inPlace := ["internal/bytealg.IndexByteString", "internal/bytealg.IndexString"], unfollowed := true, recurses := true, named := ["internal/bytealg.MaxLen"], plainKeys := false, apart := false }
def FnProjectPathsSaid : Prop := fnProjectPathsRow.holds Tryz.pinned (OpenSpec.ofChange fnProjectPathsSpec)

/-- ITS FALSE NEIGHBOUR: 'it returns false'. Refute it at one input. -/
def fnProjectPathsWrong : ChangeSpec := { name := "fnProjectPaths", fn := fun _ => fun
  | [d] => { results := [.lit (.bool false)], args := [d] }
  | _ => none }
def FnProjectPathsWrongFalsely : Prop := fnProjectPathsRow.holds Tryz.pinned (OpenSpec.ofChange fnProjectPathsWrong)

/-- 'laws.FnFindRule': WHATEVER THE INPUT: true; the input reads as it did. -/
def fnFindRuleSpec : ChangeSpec := { name := "fnFindRule", fn := fun _ => fun
  | [d] => { results := [.lit (.bool true)], args := [d] }
  | _ => none }
def fnFindRuleRow : OpenClaim := { program := "ytahdpocaldhamaagreat", sum := "1b494fb13087014482e91fcd6da3b91cb1b6ec37d54725bc6dbbff2c76af1715", func := "loop.example/buildengine/laws.FnFindRule", spec := "fnFindRule", inPlace := ["internal/bytealg.IndexByteString", "internal/bytealg.IndexString"], unfollowed := true, recurses := true, named := ["internal/bytealg.MaxLen"], plainKeys := false, apart := false }
def FnFindRuleSaid : Prop := fnFindRuleRow.holds Tryz.pinned (OpenSpec.ofChange fnFindRuleSpec)

/-- ITS FALSE NEIGHBOUR: 'it returns false'. Refute it at one input. -/
def fnFindRuleWrong : ChangeSpec := { name := "fnFindRule", fn := fun _ => fun
  | [d] => { results := [.lit (.bool false)], args := [d] }
  | _ => none }
def FnFindRuleWrongFalsely : Prop := fnFindRuleRow.holds Tryz.pinned (OpenSpec.ofChange fnFindRuleWrong)

/- THE SECOND FORM. 'bulk': how many values and letters a reading holds, each counted each time it is reached (what is shared counts as often as it is met; a slice's spare places count too). A statement '..UptoSaid' is the law's where the arguments, and the package variables that the reading takes, are together of bulk at most 1048576: NARROWER than '..Said'. Prove '..Said' where nothing that the law and all that it calls make is longer than what came in: it says more and counts as full. Else prove '..UptoSaid'. A law counts once. -/
mutual
def uptoBulk {H : Type} : DataW H → Nat
  | .lit (.string bytes) => bytes.length + 1
  | .lit _ => 1
  | .nil => 1
  | .ptr d => uptoBulk d + 1
  | .slice elems spare => uptoBulkAll elems + uptoBulkAll spare + 1
  | .agg parts => uptoBulkAll parts + 1
  | .iface _ d => uptoBulk d + 1
  | .map entries => uptoBulkEntries entries + 1
  | .held _ => 1
def uptoBulkAll {H : Type} : List (DataW H) → Nat
  | [] => 0
  | d :: r => uptoBulk d + uptoBulkAll r
def uptoBulkEntries {H : Type} : List (Lit × DataW H) → Nat
  | [] => 0
  | x :: r => uptoBulkEntry x + uptoBulkEntries r
def uptoBulkEntry {H : Type} : Lit × DataW H → Nat
  | (.string bytes, d) => bytes.length + uptoBulk d + 1
  | (_, d) => uptoBulk d + 1
 end
def uptoSmall : (H : Type) → List (DataW H) → Bool := fun _ ds => decide (uptoBulkAll ds ≤ 1048576)
def OpenSpec.upto (s : _root_.Go.ChangeSpec) : _root_.Go.OpenSpec := { _root_.Go.OpenSpec.ofChange s with cond := some uptoSmall }

/-- 'laws.FnProjectSame', WHERE WHAT IT READS IS OF BULK AT MOST 1048576: true; the input reads as it did. -/
def fnProjectSameUptoRow : OpenClaim := { program := "ytahdpocaldhamaagreat", sum := "1b494fb13087014482e91fcd6da3b91cb1b6ec37d54725bc6dbbff2c76af1715", func := "loop.example/buildengine/laws.FnProjectSame", spec := "fnProjectSame", inPlace := ["internal/bytealg.IndexByteString", "internal/bytealg.IndexString", "internal/abi.NoEscape", "internal/bytealg.MakeNoZero"], unfollowed := true, recurses := true, named := ["internal/bytealg.MaxLen"], plainKeys := false, apart := false, narrowed := true }
def FnProjectSameUptoSaid : Prop := fnProjectSameUptoRow.holds Tryz.pinned (OpenSpec.upto fnProjectSameSpec)

/-- 'laws.FnProjectPaths', WHERE WHAT IT READS IS OF BULK AT MOST 1048576: true; the input reads as it did. -/
def fnProjectPathsUptoRow : OpenClaim := { program := "ytahdpocaldhamaagreat", sum := "1b494fb13087014482e91fcd6da3b91cb1b6ec37d54725bc6dbbff2c76af1715", func := "loop.example/buildengine/laws.FnProjectPaths", spec := "fnProjectPaths", inPlace := ["internal/bytealg.IndexByteString", "internal/bytealg.IndexString"], unfollowed := true, recurses := true, named := ["internal/bytealg.MaxLen"], plainKeys := false, apart := false, narrowed := true }
def FnProjectPathsUptoSaid : Prop := fnProjectPathsUptoRow.holds Tryz.pinned (OpenSpec.upto fnProjectPathsSpec)

/-- 'laws.FnFindRule', WHERE WHAT IT READS IS OF BULK AT MOST 1048576: true; the input reads as it did. -/
def fnFindRuleUptoRow : OpenClaim := { program := "ytahdpocaldhamaagreat", sum := "1b494fb13087014482e91fcd6da3b91cb1b6ec37d54725bc6dbbff2c76af1715", func := "loop.example/buildengine/laws.FnFindRule", spec := "fnFindRule", inPlace := ["internal/bytealg.IndexByteString", "internal/bytealg.IndexString"], unfollowed := true, recurses := true, named := ["internal/bytealg.MaxLen"], plainKeys := false, apart := false, narrowed := true }
def FnFindRuleUptoSaid : Prop := fnFindRuleUptoRow.holds Tryz.pinned (OpenSpec.upto fnFindRuleSpec)

end Rows
end Go.Proofs.YtahdpocaldhamaaGreat
