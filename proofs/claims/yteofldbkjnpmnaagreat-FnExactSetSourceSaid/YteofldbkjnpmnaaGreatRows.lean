/-
  NARROWER THAN 'FOR EVERY INPUT', by the rows' own cells (each row's printed sentence says how): FnExactSetSource: loops · FnExactRemoveSource: loops · FnExactSetRule: loops · FnExactRemoveRule: loops.
  DERIVED. THE GIVEN ROWS OF THIS SEAT. 4 by the template 'for every input the law returns true; each argument reads behind the call as it read before'; 0 by the template 'total and deterministic' (their statements: YteofldbkjnpmnaaGreatTotals.lean).
  GIVEN WITH THE SEED: the statements are not yours to turn. If you find one false, say at which input.
  Laid BY PROGRAM, IN A SANDBOX (cutbox-rows.mjs): the forced cells as the released guide's own fill.sh prints them over the translation 13a9f1a929c1c4e2… (all of the seat's roots in one cut). By AI agents, Wed Nov 11 2026. No macro, syntax, notation, axiom, sorry.
-/
import Derived.Test.YteofldbkjnpmnaaGreatChecked
import GoSem.Claim
import GoSem.ClaimJoined
import GoSem.ClaimMapViews
import Derived.JoinedTies
import Derived.KernelRfl
namespace Go.Proofs.YteofldbkjnpmnaaGreat
/- THE CELL 'sum', in the pinned program and in every row, IS THE sha256 OF THE DUMP (.gsa) THAT YteofldbkjnpmnaaGreatProg.lean LOADS. Nothing in Lean hashes anything: it is a label: what it is worth is what the hold of that sum in a sandbox is worth. -/
noncomputable def Tryz.pinned : Pinned := { name := "yteofldbkjnpmnaagreat", sum := "13a9f1a929c1c4e2d9bc88091b7f50c824559cd175cc0d50c8ed68ed9bd40e78", checked := Tryz.checked }
namespace Rows
def none {H : Type} : Left H := { results := [], args := [] }

/-- 'laws.FnExactSetSource': WHATEVER THE INPUT: true; the input reads as it did. -/
def fnExactSetSourceSpec : ChangeSpec := { name := "fnExactSetSource", fn := fun _ => fun
  | [d1, d2] => { results := [.lit (.bool true)], args := [d1, d2] }
  | _ => none }
def fnExactSetSourceRow : OpenClaim := { program := "yteofldbkjnpmnaagreat", sum := "13a9f1a929c1c4e2d9bc88091b7f50c824559cd175cc0d50c8ed68ed9bd40e78", func := "loop.example/buildengine/laws.FnExactSetSource", spec := "fnExactSetSource", inPlace := ["internal/bytealg.IndexByteString", "internal/bytealg.IndexString"], unfollowed := true, recurses := true, named := ["internal/bytealg.MaxLen"], loops := true, apart := false }
def FnExactSetSourceSaid : Prop := fnExactSetSourceRow.holds Tryz.pinned (OpenSpec.ofChange fnExactSetSourceSpec)

/-- ITS FALSE NEIGHBOUR: 'it returns false'. Refute it at one input. -/
def fnExactSetSourceWrong : ChangeSpec := { name := "fnExactSetSource", fn := fun _ => fun
  | [d1, d2] => { results := [.lit (.bool false)], args := [d1, d2] }
  | _ => none }
def FnExactSetSourceWrongFalsely : Prop := fnExactSetSourceRow.holds Tryz.pinned (OpenSpec.ofChange fnExactSetSourceWrong)

/-- 'laws.FnExactRemoveSource': WHATEVER THE INPUT: true; the input reads as it did. -/
def fnExactRemoveSourceSpec : ChangeSpec := { name := "fnExactRemoveSource", fn := fun _ => fun
  | [d1, d2] => { results := [.lit (.bool true)], args := [d1, d2] }
  | _ => none }
def fnExactRemoveSourceRow : OpenClaim := { program := "yteofldbkjnpmnaagreat", sum := "13a9f1a929c1c4e2d9bc88091b7f50c824559cd175cc0d50c8ed68ed9bd40e78", func := "loop.example/buildengine/laws.FnExactRemoveSource", spec := "fnExactRemoveSource", inPlace := ["internal/bytealg.IndexByteString", "internal/bytealg.IndexString"], unfollowed := true, recurses := true, named := ["internal/bytealg.MaxLen"], loops := true, apart := false }
def FnExactRemoveSourceSaid : Prop := fnExactRemoveSourceRow.holds Tryz.pinned (OpenSpec.ofChange fnExactRemoveSourceSpec)

/-- ITS FALSE NEIGHBOUR: 'it returns false'. Refute it at one input. -/
def fnExactRemoveSourceWrong : ChangeSpec := { name := "fnExactRemoveSource", fn := fun _ => fun
  | [d1, d2] => { results := [.lit (.bool false)], args := [d1, d2] }
  | _ => none }
def FnExactRemoveSourceWrongFalsely : Prop := fnExactRemoveSourceRow.holds Tryz.pinned (OpenSpec.ofChange fnExactRemoveSourceWrong)

/-- 'laws.FnExactSetRule': WHATEVER THE INPUT: true; the input reads as it did. -/
def fnExactSetRuleSpec : ChangeSpec := { name := "fnExactSetRule", fn := fun _ => fun
  | [d1, d2] => { results := [.lit (.bool true)], args := [d1, d2] }
  | _ => none }
def fnExactSetRuleRow : OpenClaim := { program := "yteofldbkjnpmnaagreat", sum := "13a9f1a929c1c4e2d9bc88091b7f50c824559cd175cc0d50c8ed68ed9bd40e78", func := "loop.example/buildengine/laws.FnExactSetRule", spec := "fnExactSetRule", inPlace := ["internal/bytealg.IndexByteString", "internal/bytealg.IndexString"], unfollowed := true, recurses := true, named := ["internal/bytealg.MaxLen"], loops := true, apart := false }
def FnExactSetRuleSaid : Prop := fnExactSetRuleRow.holds Tryz.pinned (OpenSpec.ofChange fnExactSetRuleSpec)

/-- ITS FALSE NEIGHBOUR: 'it returns false'. Refute it at one input. -/
def fnExactSetRuleWrong : ChangeSpec := { name := "fnExactSetRule", fn := fun _ => fun
  | [d1, d2] => { results := [.lit (.bool false)], args := [d1, d2] }
  | _ => none }
def FnExactSetRuleWrongFalsely : Prop := fnExactSetRuleRow.holds Tryz.pinned (OpenSpec.ofChange fnExactSetRuleWrong)

/-- 'laws.FnExactRemoveRule': WHATEVER THE INPUT: true; the input reads as it did. -/
def fnExactRemoveRuleSpec : ChangeSpec := { name := "fnExactRemoveRule", fn := fun _ => fun
  | [d1, d2] => { results := [.lit (.bool true)], args := [d1, d2] }
  | _ => none }
def fnExactRemoveRuleRow : OpenClaim := { program := "yteofldbkjnpmnaagreat", sum := "13a9f1a929c1c4e2d9bc88091b7f50c824559cd175cc0d50c8ed68ed9bd40e78", func := "loop.example/buildengine/laws.FnExactRemoveRule", spec := "fnExactRemoveRule", inPlace := ["internal/bytealg.IndexByteString", "internal/bytealg.IndexString"], unfollowed := true, recurses := true, named := ["internal/bytealg.MaxLen"], loops := true, apart := false }
def FnExactRemoveRuleSaid : Prop := fnExactRemoveRuleRow.holds Tryz.pinned (OpenSpec.ofChange fnExactRemoveRuleSpec)

/-- ITS FALSE NEIGHBOUR: 'it returns false'. Refute it at one input. -/
def fnExactRemoveRuleWrong : ChangeSpec := { name := "fnExactRemoveRule", fn := fun _ => fun
  | [d1, d2] => { results := [.lit (.bool false)], args := [d1, d2] }
  | _ => none }
def FnExactRemoveRuleWrongFalsely : Prop := fnExactRemoveRuleRow.holds Tryz.pinned (OpenSpec.ofChange fnExactRemoveRuleWrong)

/- THE SECOND FORM. 'bulk': how many values and letters a reading holds, each counted each time it is reached (what is shared counts as often as it is met; a slice's spare places count too). A statement '..UptoSaid' is the law's where the arguments, and the package variables that the reading takes, are together of bulk at most 1048576: NARROWER than '..Said'. Prove '..Said' where nothing that the law and all that it calls make is longer than what came in: it says more and counts as full. Else prove '..UptoSaid'. A law counts once. -/
mutual
def uptoBulk {H : Type} : DataW H → Nat
  | .lit (.string bytes) => bytes.length + 1
  | .lit _ => 1
  | .nil => 1
  | .ptr d => uptoBulk d + 1
  | .slice elems spare => uptoBulkAll elems + uptoBulkAll spare + 1
  | .agg parts => uptoBulkAll parts + 1
  | .iface _ d => uptoBulk d + 1
  | .map entries => uptoBulkEntries entries + 1
  | .held _ => 1
def uptoBulkAll {H : Type} : List (DataW H) → Nat
  | [] => 0
  | d :: r => uptoBulk d + uptoBulkAll r
def uptoBulkEntries {H : Type} : List (Lit × DataW H) → Nat
  | [] => 0
  | x :: r => uptoBulkEntry x + uptoBulkEntries r
def uptoBulkEntry {H : Type} : Lit × DataW H → Nat
  | (.string bytes, d) => bytes.length + uptoBulk d + 1
  | (_, d) => uptoBulk d + 1
 end
def uptoSmall : (H : Type) → List (DataW H) → Bool := fun _ ds => decide (uptoBulkAll ds ≤ 1048576)
def OpenSpec.upto (s : _root_.Go.ChangeSpec) : _root_.Go.OpenSpec := { _root_.Go.OpenSpec.ofChange s with cond := some uptoSmall }

/-- 'laws.FnExactSetSource', WHERE WHAT IT READS IS OF BULK AT MOST 1048576: true; the input reads as it did. -/
def fnExactSetSourceUptoRow : OpenClaim := { program := "yteofldbkjnpmnaagreat", sum := "13a9f1a929c1c4e2d9bc88091b7f50c824559cd175cc0d50c8ed68ed9bd40e78", func := "loop.example/buildengine/laws.FnExactSetSource", spec := "fnExactSetSource", inPlace := ["internal/bytealg.IndexByteString", "internal/bytealg.IndexString"], unfollowed := true, recurses := true, named := ["internal/bytealg.MaxLen"], loops := true, apart := false, narrowed := true }
def FnExactSetSourceUptoSaid : Prop := fnExactSetSourceUptoRow.holds Tryz.pinned (OpenSpec.upto fnExactSetSourceSpec)

/-- 'laws.FnExactRemoveSource', WHERE WHAT IT READS IS OF BULK AT MOST 1048576: true; the input reads as it did. -/
def fnExactRemoveSourceUptoRow : OpenClaim := { program := "yteofldbkjnpmnaagreat", sum := "13a9f1a929c1c4e2d9bc88091b7f50c824559cd175cc0d50c8ed68ed9bd40e78", func := "loop.example/buildengine/laws.FnExactRemoveSource", spec := "fnExactRemoveSource", inPlace := ["internal/bytealg.IndexByteString", "internal/bytealg.IndexString"], unfollowed := true, recurses := true, named := ["internal/bytealg.MaxLen"], loops := true, apart := false, narrowed := true }
def FnExactRemoveSourceUptoSaid : Prop := fnExactRemoveSourceUptoRow.holds Tryz.pinned (OpenSpec.upto fnExactRemoveSourceSpec)

/-- 'laws.FnExactSetRule', WHERE WHAT IT READS IS OF BULK AT MOST 1048576: true; the input reads as it did. -/
def fnExactSetRuleUptoRow : OpenClaim := { program := "yteofldbkjnpmnaagreat", sum := "13a9f1a929c1c4e2d9bc88091b7f50c824559cd175cc0d50c8ed68ed9bd40e78", func := "loop.example/buildengine/laws.FnExactSetRule", spec := "fnExactSetRule", inPlace := ["internal/bytealg.IndexByteString", "internal/bytealg.IndexString"], unfollowed := true, recurses := true, named := ["internal/bytealg.MaxLen"], loops := true, apart := false, narrowed := true }
def FnExactSetRuleUptoSaid : Prop := fnExactSetRuleUptoRow.holds Tryz.pinned (OpenSpec.upto fnExactSetRuleSpec)

/-- 'laws.FnExactRemoveRule', WHERE WHAT IT READS IS OF BULK AT MOST 1048576: true; the input reads as it did. -/
def fnExactRemoveRuleUptoRow : OpenClaim := { program := "yteofldbkjnpmnaagreat", sum := "13a9f1a929c1c4e2d9bc88091b7f50c824559cd175cc0d50c8ed68ed9bd40e78", func := "loop.example/buildengine/laws.FnExactRemoveRule", spec := "fnExactRemoveRule", inPlace := ["internal/bytealg.IndexByteString", "internal/bytealg.IndexString"], unfollowed := true, recurses := true, named := ["internal/bytealg.MaxLen"], loops := true, apart := false, narrowed := true }
def FnExactRemoveRuleUptoSaid : Prop := fnExactRemoveRuleUptoRow.holds Tryz.pinned (OpenSpec.upto fnExactRemoveRuleSpec)

end Rows
end Go.Proofs.YteofldbkjnpmnaaGreat
