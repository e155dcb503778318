/-
  NARROWER THAN 'FOR EVERY INPUT', by the rows' own cells (each row's printed sentence says how): FnExactExprValid: loops · FnExactFormatExpr: loops · FnExactExprDynamic: loops · FnExactExprFree: loops · FnExactExprReads: loops.
  DERIVED. THE GIVEN ROWS OF THIS SEAT. 5 by the template 'for every input the law returns true; each argument reads behind the call as it read before'; 0 by the template 'total and deterministic' (their statements: YtmcanhmgllfndaaTotals.lean).
  GIVEN WITH THE SEED: the statements are not yours to turn. If you find one false, say at which input.
  Laid BY PROGRAM, IN A SANDBOX (cutbox-rows.mjs): the forced cells as the released guide's own fill.sh prints them over the translation 269e5f24393f78f0… (all of the seat's roots in one cut). By AI agents, Wed Nov 11 2026. No macro, syntax, notation, axiom, sorry.
-/
import Derived.Test.YtmcanhmgllfndaaChecked
import GoSem.Claim
import GoSem.ClaimJoined
import GoSem.ClaimMapViews
import Derived.JoinedTies
import Derived.KernelRfl
namespace Go.Proofs.Ytmcanhmgllfndaa
/- THE CELL 'sum', in the pinned program and in every row, IS THE sha256 OF THE DUMP (.gsa) THAT YtmcanhmgllfndaaProg.lean LOADS. Nothing in Lean hashes anything: it is a label: what it is worth is what the hold of that sum in a sandbox is worth. -/
noncomputable def Try.pinned : Pinned := { name := "ytmcanhmgllfndaa", sum := "269e5f24393f78f03a913ee9f3a6f25f77d4a50e49e26bbbe336a3a12241a622", checked := Try.checked }
namespace Rows
def none {H : Type} : Left H := { results := [], args := [] }

/-- 'laws.FnExactExprValid': WHATEVER THE INPUT: true; the input reads as it did. -/
def fnExactExprValidSpec : ChangeSpec := { name := "fnExactExprValid", fn := fun _ => fun
  | [d] => { results := [.lit (.bool true)], args := [d] }
  | _ => none }
def fnExactExprValidRow : OpenClaim := { program := "ytmcanhmgllfndaa", sum := "269e5f24393f78f03a913ee9f3a6f25f77d4a50e49e26bbbe336a3a12241a622", func := "loop.example/buildengine/laws.FnExactExprValid", spec := "fnExactExprValid", inPlace := ["internal/bytealg.IndexByteString", "internal/bytealg.IndexString"], recurses := true, named := ["internal/bytealg.MaxLen"], loops := true, apart := false }
def FnExactExprValidSaid : Prop := fnExactExprValidRow.holds Try.pinned (OpenSpec.ofChange fnExactExprValidSpec)

/-- ITS FALSE NEIGHBOUR: 'it returns false'. Refute it at one input. -/
def fnExactExprValidWrong : ChangeSpec := { name := "fnExactExprValid", fn := fun _ => fun
  | [d] => { results := [.lit (.bool false)], args := [d] }
  | _ => none }
def FnExactExprValidWrongFalsely : Prop := fnExactExprValidRow.holds Try.pinned (OpenSpec.ofChange fnExactExprValidWrong)

/-- 'laws.FnExactFormatExpr': WHATEVER THE INPUT: true; the input reads as it did. -/
def fnExactFormatExprSpec : ChangeSpec := { name := "fnExactFormatExpr", fn := fun _ => fun
  | [d] => { results := [.lit (.bool true)], args := [d] }
  | _ => none }
def fnExactFormatExprRow : OpenClaim := { program := "ytmcanhmgllfndaa", sum := "269e5f24393f78f03a913ee9f3a6f25f77d4a50e49e26bbbe336a3a12241a622", func := "loop.example/buildengine/laws.FnExactFormatExpr", spec := "fnExactFormatExpr", inPlace := ["internal/bytealg.IndexByteString", "internal/bytealg.IndexString"], unfollowed := true, recurses := true, named := ["internal/bytealg.MaxLen"], loops := true, apart := false }
def FnExactFormatExprSaid : Prop := fnExactFormatExprRow.holds Try.pinned (OpenSpec.ofChange fnExactFormatExprSpec)

/-- ITS FALSE NEIGHBOUR: 'it returns false'. Refute it at one input. -/
def fnExactFormatExprWrong : ChangeSpec := { name := "fnExactFormatExpr", fn := fun _ => fun
  | [d] => { results := [.lit (.bool false)], args := [d] }
  | _ => none }
def FnExactFormatExprWrongFalsely : Prop := fnExactFormatExprRow.holds Try.pinned (OpenSpec.ofChange fnExactFormatExprWrong)

/-- 'laws.FnExactExprDynamic': WHATEVER THE INPUT: true; the input reads as it did. -/
def fnExactExprDynamicSpec : ChangeSpec := { name := "fnExactExprDynamic", fn := fun _ => fun
  | [d] => { results := [.lit (.bool true)], args := [d] }
  | _ => none }
def fnExactExprDynamicRow : OpenClaim := { program := "ytmcanhmgllfndaa", sum := "269e5f24393f78f03a913ee9f3a6f25f77d4a50e49e26bbbe336a3a12241a622", func := "loop.example/buildengine/laws.FnExactExprDynamic", spec := "fnExactExprDynamic", inPlace := ["internal/bytealg.IndexByteString", "internal/bytealg.IndexString"], unfollowed := true, recurses := true, named := ["internal/bytealg.MaxLen"], loops := true, apart := false }
def FnExactExprDynamicSaid : Prop := fnExactExprDynamicRow.holds Try.pinned (OpenSpec.ofChange fnExactExprDynamicSpec)

/-- ITS FALSE NEIGHBOUR: 'it returns false'. Refute it at one input. -/
def fnExactExprDynamicWrong : ChangeSpec := { name := "fnExactExprDynamic", fn := fun _ => fun
  | [d] => { results := [.lit (.bool false)], args := [d] }
  | _ => none }
def FnExactExprDynamicWrongFalsely : Prop := fnExactExprDynamicRow.holds Try.pinned (OpenSpec.ofChange fnExactExprDynamicWrong)

/-- 'laws.FnExactExprFree': WHATEVER THE INPUT: true; the input reads as it did. -/
def fnExactExprFreeSpec : ChangeSpec := { name := "fnExactExprFree", fn := fun _ => fun
  | [d] => { results := [.lit (.bool true)], args := [d] }
  | _ => none }
def fnExactExprFreeRow : OpenClaim := { program := "ytmcanhmgllfndaa", sum := "269e5f24393f78f03a913ee9f3a6f25f77d4a50e49e26bbbe336a3a12241a622", func := "loop.example/buildengine/laws.FnExactExprFree", spec := "fnExactExprFree", inPlace := ["internal/bytealg.IndexByteString", "internal/bytealg.IndexString"], unfollowed := true, recurses := true, named := ["internal/bytealg.MaxLen"], loops := true, apart := false }
def FnExactExprFreeSaid : Prop := fnExactExprFreeRow.holds Try.pinned (OpenSpec.ofChange fnExactExprFreeSpec)

/-- ITS FALSE NEIGHBOUR: 'it returns false'. Refute it at one input. -/
def fnExactExprFreeWrong : ChangeSpec := { name := "fnExactExprFree", fn := fun _ => fun
  | [d] => { results := [.lit (.bool false)], args := [d] }
  | _ => none }
def FnExactExprFreeWrongFalsely : Prop := fnExactExprFreeRow.holds Try.pinned (OpenSpec.ofChange fnExactExprFreeWrong)

/-- 'laws.FnExactExprReads': WHATEVER THE INPUT: true; the input reads as it did. -/
def fnExactExprReadsSpec : ChangeSpec := { name := "fnExactExprReads", fn := fun _ => fun
  | [d] => { results := [.lit (.bool true)], args := [d] }
  | _ => none }
def fnExactExprReadsRow : OpenClaim := { program := "ytmcanhmgllfndaa", sum := "269e5f24393f78f03a913ee9f3a6f25f77d4a50e49e26bbbe336a3a12241a622", func := "loop.example/buildengine/laws.FnExactExprReads", spec := "fnExactExprReads", inPlace := ["internal/bytealg.IndexByteString", "internal/bytealg.IndexString"], unfollowed := true, recurses := true, named := ["internal/bytealg.MaxLen"], loops := true, apart := false }
def FnExactExprReadsSaid : Prop := fnExactExprReadsRow.holds Try.pinned (OpenSpec.ofChange fnExactExprReadsSpec)

/-- ITS FALSE NEIGHBOUR: 'it returns false'. Refute it at one input. -/
def fnExactExprReadsWrong : ChangeSpec := { name := "fnExactExprReads", fn := fun _ => fun
  | [d] => { results := [.lit (.bool false)], args := [d] }
  | _ => none }
def FnExactExprReadsWrongFalsely : Prop := fnExactExprReadsRow.holds Try.pinned (OpenSpec.ofChange fnExactExprReadsWrong)

/- THE SECOND FORM. 'bulk': how many values and letters a reading holds, each counted each time it is reached (what is shared counts as often as it is met; a slice's spare places count too). A statement '..UptoSaid' is the law's where the arguments, and the package variables that the reading takes, are together of bulk at most 1048576: NARROWER than '..Said'. Prove '..Said' where nothing that the law and all that it calls make is longer than what came in: it says more and counts as full. Else prove '..UptoSaid'. A law counts once. -/
mutual
def uptoBulk {H : Type} : DataW H → Nat
  | .lit (.string bytes) => bytes.length + 1
  | .lit _ => 1
  | .nil => 1
  | .ptr d => uptoBulk d + 1
  | .slice elems spare => uptoBulkAll elems + uptoBulkAll spare + 1
  | .agg parts => uptoBulkAll parts + 1
  | .iface _ d => uptoBulk d + 1
  | .map entries => uptoBulkEntries entries + 1
  | .held _ => 1
def uptoBulkAll {H : Type} : List (DataW H) → Nat
  | [] => 0
  | d :: r => uptoBulk d + uptoBulkAll r
def uptoBulkEntries {H : Type} : List (Lit × DataW H) → Nat
  | [] => 0
  | x :: r => uptoBulkEntry x + uptoBulkEntries r
def uptoBulkEntry {H : Type} : Lit × DataW H → Nat
  | (.string bytes, d) => bytes.length + uptoBulk d + 1
  | (_, d) => uptoBulk d + 1
 end
def uptoSmall : (H : Type) → List (DataW H) → Bool := fun _ ds => decide (uptoBulkAll ds ≤ 1048576)
def OpenSpec.upto (s : _root_.Go.ChangeSpec) : _root_.Go.OpenSpec := { _root_.Go.OpenSpec.ofChange s with cond := some uptoSmall }

/-- 'laws.FnExactExprValid', WHERE WHAT IT READS IS OF BULK AT MOST 1048576: true; the input reads as it did. -/
def fnExactExprValidUptoRow : OpenClaim := { program := "ytmcanhmgllfndaa", sum := "269e5f24393f78f03a913ee9f3a6f25f77d4a50e49e26bbbe336a3a12241a622", func := "loop.example/buildengine/laws.FnExactExprValid", spec := "fnExactExprValid", inPlace := ["internal/bytealg.IndexByteString", "internal/bytealg.IndexString"], recurses := true, named := ["internal/bytealg.MaxLen"], loops := true, apart := false, narrowed := true }
def FnExactExprValidUptoSaid : Prop := fnExactExprValidUptoRow.holds Try.pinned (OpenSpec.upto fnExactExprValidSpec)

/-- 'laws.FnExactFormatExpr', WHERE WHAT IT READS IS OF BULK AT MOST 1048576: true; the input reads as it did. -/
def fnExactFormatExprUptoRow : OpenClaim := { program := "ytmcanhmgllfndaa", sum := "269e5f24393f78f03a913ee9f3a6f25f77d4a50e49e26bbbe336a3a12241a622", func := "loop.example/buildengine/laws.FnExactFormatExpr", spec := "fnExactFormatExpr", inPlace := ["internal/bytealg.IndexByteString", "internal/bytealg.IndexString"], unfollowed := true, recurses := true, named := ["internal/bytealg.MaxLen"], loops := true, apart := false, narrowed := true }
def FnExactFormatExprUptoSaid : Prop := fnExactFormatExprUptoRow.holds Try.pinned (OpenSpec.upto fnExactFormatExprSpec)

/-- 'laws.FnExactExprDynamic', WHERE WHAT IT READS IS OF BULK AT MOST 1048576: true; the input reads as it did. -/
def fnExactExprDynamicUptoRow : OpenClaim := { program := "ytmcanhmgllfndaa", sum := "269e5f24393f78f03a913ee9f3a6f25f77d4a50e49e26bbbe336a3a12241a622", func := "loop.example/buildengine/laws.FnExactExprDynamic", spec := "fnExactExprDynamic", inPlace := ["internal/bytealg.IndexByteString", "internal/bytealg.IndexString"], unfollowed := true, recurses := true, named := ["internal/bytealg.MaxLen"], loops := true, apart := false, narrowed := true }
def FnExactExprDynamicUptoSaid : Prop := fnExactExprDynamicUptoRow.holds Try.pinned (OpenSpec.upto fnExactExprDynamicSpec)

/-- 'laws.FnExactExprFree', WHERE WHAT IT READS IS OF BULK AT MOST 1048576: true; the input reads as it did. -/
def fnExactExprFreeUptoRow : OpenClaim := { program := "ytmcanhmgllfndaa", sum := "269e5f24393f78f03a913ee9f3a6f25f77d4a50e49e26bbbe336a3a12241a622", func := "loop.example/buildengine/laws.FnExactExprFree", spec := "fnExactExprFree", inPlace := ["internal/bytealg.IndexByteString", "internal/bytealg.IndexString"], unfollowed := true, recurses := true, named := ["internal/bytealg.MaxLen"], loops := true, apart := false, narrowed := true }
def FnExactExprFreeUptoSaid : Prop := fnExactExprFreeUptoRow.holds Try.pinned (OpenSpec.upto fnExactExprFreeSpec)

/-- 'laws.FnExactExprReads', WHERE WHAT IT READS IS OF BULK AT MOST 1048576: true; the input reads as it did. -/
def fnExactExprReadsUptoRow : OpenClaim := { program := "ytmcanhmgllfndaa", sum := "269e5f24393f78f03a913ee9f3a6f25f77d4a50e49e26bbbe336a3a12241a622", func := "loop.example/buildengine/laws.FnExactExprReads", spec := "fnExactExprReads", inPlace := ["internal/bytealg.IndexByteString", "internal/bytealg.IndexString"], unfollowed := true, recurses := true, named := ["internal/bytealg.MaxLen"], loops := true, apart := false, narrowed := true }
def FnExactExprReadsUptoSaid : Prop := fnExactExprReadsUptoRow.holds Try.pinned (OpenSpec.upto fnExactExprReadsSpec)

end Rows
end Go.Proofs.Ytmcanhmgllfndaa
