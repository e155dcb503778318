/-
  No cell of these rows narrows 'for every input' (looked for: loops, veiled, ifaces, maps, wideKeys, modest, calm, conditions, laid).
  DERIVED. THE GIVEN ROWS OF THIS SEAT. 4 by the template 'for every input the law returns true; each argument reads behind the call as it read before'; 0 by the template 'total and deterministic' (their statements: YtbcghkdjhicocaaTotals.lean).
  GIVEN WITH THE SEED: the statements are not yours to turn. If you find one false, say at which input.
  Laid BY PROGRAM, IN A SANDBOX (cutbox-rows.mjs): the forced cells as the released guide's own fill.sh prints them over the translation 6170d887649b26b2… (all of the seat's roots in one cut). By AI agents, Wed Nov 11 2026. No macro, syntax, notation, axiom, sorry.
-/
import Derived.Test.YtbcghkdjhicocaaChecked
import GoSem.Claim
import GoSem.ClaimJoined
import GoSem.ClaimMapViews
import Derived.JoinedTies
import Derived.KernelRfl
namespace Go.Proofs.Ytbcghkdjhicocaa
/- THE CELL 'sum', in the pinned program and in every row, IS THE sha256 OF THE DUMP (.gsa) THAT YtbcghkdjhicocaaProg.lean LOADS. Nothing in Lean hashes anything: it is a label: what it is worth is what the hold of that sum in a sandbox is worth. -/
noncomputable def Try.pinned : Pinned := { name := "ytbcghkdjhicocaa", sum := "6170d887649b26b2fcf8cb2b9420c974583d8583ef41626d634ee80377ac2d0c", checked := Try.checked }
namespace Rows
def none {H : Type} : Left H := { results := [], args := [] }

/-- 'laws.FnExprReads': WHATEVER THE INPUT: true; the input reads as it did. -/
def fnExprReadsSpec : ChangeSpec := { name := "fnExprReads", fn := fun _ => fun
  | [d1, d2] => { results := [.lit (.bool true)], args := [d1, d2] }
  | _ => none }
def fnExprReadsRow : OpenClaim := { program := "ytbcghkdjhicocaa", sum := "6170d887649b26b2fcf8cb2b9420c974583d8583ef41626d634ee80377ac2d0c", func := "loop.example/buildengine/laws.FnExprReads", spec := "fnExprReads", inPlace := ["internal/bytealg.IndexByteString", "internal/bytealg.IndexString"], unfollowed := true, recurses := true, named := ["internal/bytealg.MaxLen"], apart := false }
def FnExprReadsSaid : Prop := fnExprReadsRow.holds Try.pinned (OpenSpec.ofChange fnExprReadsSpec)

/-- ITS FALSE NEIGHBOUR: 'it returns false'. Refute it at one input. -/
def fnExprReadsWrong : ChangeSpec := { name := "fnExprReads", fn := fun _ => fun
  | [d1, d2] => { results := [.lit (.bool false)], args := [d1, d2] }
  | _ => none }
def FnExprReadsWrongFalsely : Prop := fnExprReadsRow.holds Try.pinned (OpenSpec.ofChange fnExprReadsWrong)

/-- 'laws.FnExprFirst': WHATEVER THE INPUT: true; the input reads as it did. -/
def fnExprFirstSpec : ChangeSpec := { name := "fnExprFirst", fn := fun _ => fun
  | [d] => { results := [.lit (.bool true)], args := [d] }
  | _ => none }
def fnExprFirstRow : OpenClaim := { program := "ytbcghkdjhicocaa", sum := "6170d887649b26b2fcf8cb2b9420c974583d8583ef41626d634ee80377ac2d0c", func := "loop.example/buildengine/laws.FnExprFirst", spec := "fnExprFirst", inPlace := ["internal/bytealg.IndexByteString", "internal/bytealg.IndexString"], unfollowed := true, recurses := true, named := ["internal/bytealg.MaxLen"], apart := false }
def FnExprFirstSaid : Prop := fnExprFirstRow.holds Try.pinned (OpenSpec.ofChange fnExprFirstSpec)

/-- ITS FALSE NEIGHBOUR: 'it returns false'. Refute it at one input. -/
def fnExprFirstWrong : ChangeSpec := { name := "fnExprFirst", fn := fun _ => fun
  | [d] => { results := [.lit (.bool false)], args := [d] }
  | _ => none }
def FnExprFirstWrongFalsely : Prop := fnExprFirstRow.holds Try.pinned (OpenSpec.ofChange fnExprFirstWrong)

/-- 'laws.FnExprSame': WHATEVER THE INPUT: true; the input reads as it did. -/
def fnExprSameSpec : ChangeSpec := { name := "fnExprSame", fn := fun _ => fun
  | [d1, d2] => { results := [.lit (.bool true)], args := [d1, d2] }
  | _ => none }
def fnExprSameRow : OpenClaim := { program := "ytbcghkdjhicocaa", sum := "6170d887649b26b2fcf8cb2b9420c974583d8583ef41626d634ee80377ac2d0c", func := "loop.example/buildengine/laws.FnExprSame", spec := "fnExprSame", inPlace := ["internal/bytealg.IndexByteString", "internal/bytealg.IndexString"], unfollowed := true, recurses := true, named := ["internal/bytealg.MaxLen"], apart := false }
def FnExprSameSaid : Prop := fnExprSameRow.holds Try.pinned (OpenSpec.ofChange fnExprSameSpec)

/-- ITS FALSE NEIGHBOUR: 'it returns false'. Refute it at one input. -/
def fnExprSameWrong : ChangeSpec := { name := "fnExprSame", fn := fun _ => fun
  | [d1, d2] => { results := [.lit (.bool false)], args := [d1, d2] }
  | _ => none }
def FnExprSameWrongFalsely : Prop := fnExprSameRow.holds Try.pinned (OpenSpec.ofChange fnExprSameWrong)

/-- 'laws.FnExprCount': WHATEVER THE INPUT: true; the input reads as it did. -/
def fnExprCountSpec : ChangeSpec := { name := "fnExprCount", fn := fun _ => fun
  | [d] => { results := [.lit (.bool true)], args := [d] }
  | _ => none }
def fnExprCountRow : OpenClaim := { program := "ytbcghkdjhicocaa", sum := "6170d887649b26b2fcf8cb2b9420c974583d8583ef41626d634ee80377ac2d0c", func := "loop.example/buildengine/laws.FnExprCount", spec := "fnExprCount", inPlace := ["internal/bytealg.IndexByteString", "internal/bytealg.IndexString"], unfollowed := true, recurses := true, named := ["internal/bytealg.MaxLen"], apart := false }
def FnExprCountSaid : Prop := fnExprCountRow.holds Try.pinned (OpenSpec.ofChange fnExprCountSpec)

/-- ITS FALSE NEIGHBOUR: 'it returns false'. Refute it at one input. -/
def fnExprCountWrong : ChangeSpec := { name := "fnExprCount", fn := fun _ => fun
  | [d] => { results := [.lit (.bool false)], args := [d] }
  | _ => none }
def FnExprCountWrongFalsely : Prop := fnExprCountRow.holds Try.pinned (OpenSpec.ofChange fnExprCountWrong)

/- THE SECOND FORM. 'bulk': how many values and letters a reading holds, each counted each time it is reached (what is shared counts as often as it is met; a slice's spare places count too). A statement '..UptoSaid' is the law's where the arguments, and the package variables that the reading takes, are together of bulk at most 1048576: NARROWER than '..Said'. Prove '..Said' where nothing that the law and all that it calls make is longer than what came in: it says more and counts as full. Else prove '..UptoSaid'. A law counts once. -/
mutual
def uptoBulk {H : Type} : DataW H → Nat
  | .lit (.string bytes) => bytes.length + 1
  | .lit _ => 1
  | .nil => 1
  | .ptr d => uptoBulk d + 1
  | .slice elems spare => uptoBulkAll elems + uptoBulkAll spare + 1
  | .agg parts => uptoBulkAll parts + 1
  | .iface _ d => uptoBulk d + 1
  | .map entries => uptoBulkEntries entries + 1
  | .held _ => 1
def uptoBulkAll {H : Type} : List (DataW H) → Nat
  | [] => 0
  | d :: r => uptoBulk d + uptoBulkAll r
def uptoBulkEntries {H : Type} : List (Lit × DataW H) → Nat
  | [] => 0
  | x :: r => uptoBulkEntry x + uptoBulkEntries r
def uptoBulkEntry {H : Type} : Lit × DataW H → Nat
  | (.string bytes, d) => bytes.length + uptoBulk d + 1
  | (_, d) => uptoBulk d + 1
 end
def uptoSmall : (H : Type) → List (DataW H) → Bool := fun _ ds => decide (uptoBulkAll ds ≤ 1048576)
def OpenSpec.upto (s : _root_.Go.ChangeSpec) : _root_.Go.OpenSpec := { _root_.Go.OpenSpec.ofChange s with cond := some uptoSmall }

/-- 'laws.FnExprReads', WHERE WHAT IT READS IS OF BULK AT MOST 1048576: true; the input reads as it did. -/
def fnExprReadsUptoRow : OpenClaim := { program := "ytbcghkdjhicocaa", sum := "6170d887649b26b2fcf8cb2b9420c974583d8583ef41626d634ee80377ac2d0c", func := "loop.example/buildengine/laws.FnExprReads", spec := "fnExprReads", inPlace := ["internal/bytealg.IndexByteString", "internal/bytealg.IndexString"], unfollowed := true, recurses := true, named := ["internal/bytealg.MaxLen"], apart := false, narrowed := true }
def FnExprReadsUptoSaid : Prop := fnExprReadsUptoRow.holds Try.pinned (OpenSpec.upto fnExprReadsSpec)

/-- 'laws.FnExprFirst', WHERE WHAT IT READS IS OF BULK AT MOST 1048576: true; the input reads as it did. -/
def fnExprFirstUptoRow : OpenClaim := { program := "ytbcghkdjhicocaa", sum := "6170d887649b26b2fcf8cb2b9420c974583d8583ef41626d634ee80377ac2d0c", func := "loop.example/buildengine/laws.FnExprFirst", spec := "fnExprFirst", inPlace := ["internal/bytealg.IndexByteString", "internal/bytealg.IndexString"], unfollowed := true, recurses := true, named := ["internal/bytealg.MaxLen"], apart := false, narrowed := true }
def FnExprFirstUptoSaid : Prop := fnExprFirstUptoRow.holds Try.pinned (OpenSpec.upto fnExprFirstSpec)

/-- 'laws.FnExprSame', WHERE WHAT IT READS IS OF BULK AT MOST 1048576: true; the input reads as it did. -/
def fnExprSameUptoRow : OpenClaim := { program := "ytbcghkdjhicocaa", sum := "6170d887649b26b2fcf8cb2b9420c974583d8583ef41626d634ee80377ac2d0c", func := "loop.example/buildengine/laws.FnExprSame", spec := "fnExprSame", inPlace := ["internal/bytealg.IndexByteString", "internal/bytealg.IndexString"], unfollowed := true, recurses := true, named := ["internal/bytealg.MaxLen"], apart := false, narrowed := true }
def FnExprSameUptoSaid : Prop := fnExprSameUptoRow.holds Try.pinned (OpenSpec.upto fnExprSameSpec)

/-- 'laws.FnExprCount', WHERE WHAT IT READS IS OF BULK AT MOST 1048576: true; the input reads as it did. -/
def fnExprCountUptoRow : OpenClaim := { program := "ytbcghkdjhicocaa", sum := "6170d887649b26b2fcf8cb2b9420c974583d8583ef41626d634ee80377ac2d0c", func := "loop.example/buildengine/laws.FnExprCount", spec := "fnExprCount", inPlace := ["internal/bytealg.IndexByteString", "internal/bytealg.IndexString"], unfollowed := true, recurses := true, named := ["internal/bytealg.MaxLen"], apart := false, narrowed := true }
def FnExprCountUptoSaid : Prop := fnExprCountUptoRow.holds Try.pinned (OpenSpec.upto fnExprCountSpec)

end Rows
end Go.Proofs.Ytbcghkdjhicocaa
