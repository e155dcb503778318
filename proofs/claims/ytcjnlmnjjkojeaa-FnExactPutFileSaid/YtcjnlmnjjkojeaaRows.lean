/-
  No cell of these rows narrows 'for every input' (looked for: loops, veiled, ifaces, maps, wideKeys, modest, calm, conditions, laid).
  DERIVED. THE GIVEN ROWS OF THIS SEAT. 6 by the template 'for every input the law returns true; each argument reads behind the call as it read before'; 0 by the template 'total and deterministic' (their statements: YtcjnlmnjjkojeaaTotals.lean).
  GIVEN WITH THE SEED: the statements are not yours to turn. If you find one false, say at which input.
  Laid BY PROGRAM, IN A SANDBOX (cutbox-rows.mjs): the forced cells as the released guide's own fill.sh prints them over the translation 10964664fd3ddb3a… (all of the seat's roots in one cut). By AI agents, Wed Nov 11 2026. No macro, syntax, notation, axiom, sorry.
-/
import Derived.Test.YtcjnlmnjjkojeaaChecked
import GoSem.Claim
import GoSem.ClaimJoined
import GoSem.ClaimMapViews
import Derived.JoinedTies
import Derived.KernelRfl
namespace Go.Proofs.Ytcjnlmnjjkojeaa
/- THE CELL 'sum', in the pinned program and in every row, IS THE sha256 OF THE DUMP (.gsa) THAT YtcjnlmnjjkojeaaProg.lean LOADS. Nothing in Lean hashes anything: it is a label: what it is worth is what the hold of that sum in a sandbox is worth. -/
noncomputable def Try.pinned : Pinned := { name := "ytcjnlmnjjkojeaa", sum := "10964664fd3ddb3a10bf75b985bef05fb85842ca5c2987c01faa4c35da2c3e65", checked := Try.checked }
namespace Rows
def none {H : Type} : Left H := { results := [], args := [] }

/-- 'laws.FnPutFile': WHATEVER THE INPUT: true; the input reads as it did. -/
def fnPutFileSpec : ChangeSpec := { name := "fnPutFile", fn := fun _ => fun
  | [d1, d2] => { results := [.lit (.bool true)], args := [d1, d2] }
  | _ => none }
def fnPutFileRow : OpenClaim := { program := "ytcjnlmnjjkojeaa", sum := "10964664fd3ddb3a10bf75b985bef05fb85842ca5c2987c01faa4c35da2c3e65", func := "loop.example/buildengine/laws.FnPutFile", spec := "fnPutFile", unfollowed := true, recurses := true, apart := false }
def FnPutFileSaid : Prop := fnPutFileRow.holds Try.pinned (OpenSpec.ofChange fnPutFileSpec)

/-- ITS FALSE NEIGHBOUR: 'it returns false'. Refute it at one input. -/
def fnPutFileWrong : ChangeSpec := { name := "fnPutFile", fn := fun _ => fun
  | [d1, d2] => { results := [.lit (.bool false)], args := [d1, d2] }
  | _ => none }
def FnPutFileWrongFalsely : Prop := fnPutFileRow.holds Try.pinned (OpenSpec.ofChange fnPutFileWrong)

/-- 'laws.FnPutTwice': WHATEVER THE INPUT: true; the input reads as it did. -/
def fnPutTwiceSpec : ChangeSpec := { name := "fnPutTwice", fn := fun _ => fun
  | [d1, d2] => { results := [.lit (.bool true)], args := [d1, d2] }
  | _ => none }
def fnPutTwiceRow : OpenClaim := { program := "ytcjnlmnjjkojeaa", sum := "10964664fd3ddb3a10bf75b985bef05fb85842ca5c2987c01faa4c35da2c3e65", func := "loop.example/buildengine/laws.FnPutTwice", spec := "fnPutTwice", unfollowed := true, recurses := true, apart := false }
def FnPutTwiceSaid : Prop := fnPutTwiceRow.holds Try.pinned (OpenSpec.ofChange fnPutTwiceSpec)

/-- ITS FALSE NEIGHBOUR: 'it returns false'. Refute it at one input. -/
def fnPutTwiceWrong : ChangeSpec := { name := "fnPutTwice", fn := fun _ => fun
  | [d1, d2] => { results := [.lit (.bool false)], args := [d1, d2] }
  | _ => none }
def FnPutTwiceWrongFalsely : Prop := fnPutTwiceRow.holds Try.pinned (OpenSpec.ofChange fnPutTwiceWrong)

/-- 'laws.FnRemoveFile': WHATEVER THE INPUT: true; the input reads as it did. -/
def fnRemoveFileSpec : ChangeSpec := { name := "fnRemoveFile", fn := fun _ => fun
  | [d] => { results := [.lit (.bool true)], args := [d] }
  | _ => none }
def fnRemoveFileRow : OpenClaim := { program := "ytcjnlmnjjkojeaa", sum := "10964664fd3ddb3a10bf75b985bef05fb85842ca5c2987c01faa4c35da2c3e65", func := "loop.example/buildengine/laws.FnRemoveFile", spec := "fnRemoveFile", unfollowed := true, recurses := true, apart := false }
def FnRemoveFileSaid : Prop := fnRemoveFileRow.holds Try.pinned (OpenSpec.ofChange fnRemoveFileSpec)

/-- ITS FALSE NEIGHBOUR: 'it returns false'. Refute it at one input. -/
def fnRemoveFileWrong : ChangeSpec := { name := "fnRemoveFile", fn := fun _ => fun
  | [d] => { results := [.lit (.bool false)], args := [d] }
  | _ => none }
def FnRemoveFileWrongFalsely : Prop := fnRemoveFileRow.holds Try.pinned (OpenSpec.ofChange fnRemoveFileWrong)

/-- 'laws.FnPutRemove': WHATEVER THE INPUT: true; the input reads as it did. -/
def fnPutRemoveSpec : ChangeSpec := { name := "fnPutRemove", fn := fun _ => fun
  | [d] => { results := [.lit (.bool true)], args := [d] }
  | _ => none }
def fnPutRemoveRow : OpenClaim := { program := "ytcjnlmnjjkojeaa", sum := "10964664fd3ddb3a10bf75b985bef05fb85842ca5c2987c01faa4c35da2c3e65", func := "loop.example/buildengine/laws.FnPutRemove", spec := "fnPutRemove", unfollowed := true, recurses := true, apart := false }
def FnPutRemoveSaid : Prop := fnPutRemoveRow.holds Try.pinned (OpenSpec.ofChange fnPutRemoveSpec)

/-- ITS FALSE NEIGHBOUR: 'it returns false'. Refute it at one input. -/
def fnPutRemoveWrong : ChangeSpec := { name := "fnPutRemove", fn := fun _ => fun
  | [d] => { results := [.lit (.bool false)], args := [d] }
  | _ => none }
def FnPutRemoveWrongFalsely : Prop := fnPutRemoveRow.holds Try.pinned (OpenSpec.ofChange fnPutRemoveWrong)

/-- 'laws.FnExactPutFile': WHATEVER THE INPUT: true; the input reads as it did. -/
def fnExactPutFileSpec : ChangeSpec := { name := "fnExactPutFile", fn := fun _ => fun
  | [d1, d2] => { results := [.lit (.bool true)], args := [d1, d2] }
  | _ => none }
def fnExactPutFileRow : OpenClaim := { program := "ytcjnlmnjjkojeaa", sum := "10964664fd3ddb3a10bf75b985bef05fb85842ca5c2987c01faa4c35da2c3e65", func := "loop.example/buildengine/laws.FnExactPutFile", spec := "fnExactPutFile", unfollowed := true, recurses := true, apart := false }
def FnExactPutFileSaid : Prop := fnExactPutFileRow.holds Try.pinned (OpenSpec.ofChange fnExactPutFileSpec)

/-- ITS FALSE NEIGHBOUR: 'it returns false'. Refute it at one input. -/
def fnExactPutFileWrong : ChangeSpec := { name := "fnExactPutFile", fn := fun _ => fun
  | [d1, d2] => { results := [.lit (.bool false)], args := [d1, d2] }
  | _ => none }
def FnExactPutFileWrongFalsely : Prop := fnExactPutFileRow.holds Try.pinned (OpenSpec.ofChange fnExactPutFileWrong)

/-- 'laws.FnExactRemoveFile': WHATEVER THE INPUT: true; the input reads as it did. -/
def fnExactRemoveFileSpec : ChangeSpec := { name := "fnExactRemoveFile", fn := fun _ => fun
  | [d1, d2] => { results := [.lit (.bool true)], args := [d1, d2] }
  | _ => none }
def fnExactRemoveFileRow : OpenClaim := { program := "ytcjnlmnjjkojeaa", sum := "10964664fd3ddb3a10bf75b985bef05fb85842ca5c2987c01faa4c35da2c3e65", func := "loop.example/buildengine/laws.FnExactRemoveFile", spec := "fnExactRemoveFile", unfollowed := true, recurses := true, apart := false }
def FnExactRemoveFileSaid : Prop := fnExactRemoveFileRow.holds Try.pinned (OpenSpec.ofChange fnExactRemoveFileSpec)

/-- ITS FALSE NEIGHBOUR: 'it returns false'. Refute it at one input. -/
def fnExactRemoveFileWrong : ChangeSpec := { name := "fnExactRemoveFile", fn := fun _ => fun
  | [d1, d2] => { results := [.lit (.bool false)], args := [d1, d2] }
  | _ => none }
def FnExactRemoveFileWrongFalsely : Prop := fnExactRemoveFileRow.holds Try.pinned (OpenSpec.ofChange fnExactRemoveFileWrong)

/- THE SECOND FORM. 'bulk': how many values and letters a reading holds, each counted each time it is reached (what is shared counts as often as it is met; a slice's spare places count too). A statement '..UptoSaid' is the law's where the arguments, and the package variables that the reading takes, are together of bulk at most 1048576: NARROWER than '..Said'. Prove '..Said' where nothing that the law and all that it calls make is longer than what came in: it says more and counts as full. Else prove '..UptoSaid'. A law counts once. -/
mutual
def uptoBulk {H : Type} : DataW H → Nat
  | .lit (.string bytes) => bytes.length + 1
  | .lit _ => 1
  | .nil => 1
  | .ptr d => uptoBulk d + 1
  | .slice elems spare => uptoBulkAll elems + uptoBulkAll spare + 1
  | .agg parts => uptoBulkAll parts + 1
  | .iface _ d => uptoBulk d + 1
  | .map entries => uptoBulkEntries entries + 1
  | .held _ => 1
def uptoBulkAll {H : Type} : List (DataW H) → Nat
  | [] => 0
  | d :: r => uptoBulk d + uptoBulkAll r
def uptoBulkEntries {H : Type} : List (Lit × DataW H) → Nat
  | [] => 0
  | x :: r => uptoBulkEntry x + uptoBulkEntries r
def uptoBulkEntry {H : Type} : Lit × DataW H → Nat
  | (.string bytes, d) => bytes.length + uptoBulk d + 1
  | (_, d) => uptoBulk d + 1
 end
def uptoSmall : (H : Type) → List (DataW H) → Bool := fun _ ds => decide (uptoBulkAll ds ≤ 1048576)
def OpenSpec.upto (s : _root_.Go.ChangeSpec) : _root_.Go.OpenSpec := { _root_.Go.OpenSpec.ofChange s with cond := some uptoSmall }

/-- 'laws.FnPutFile', WHERE WHAT IT READS IS OF BULK AT MOST 1048576: true; the input reads as it did. -/
def fnPutFileUptoRow : OpenClaim := { program := "ytcjnlmnjjkojeaa", sum := "10964664fd3ddb3a10bf75b985bef05fb85842ca5c2987c01faa4c35da2c3e65", func := "loop.example/buildengine/laws.FnPutFile", spec := "fnPutFile", unfollowed := true, recurses := true, apart := false, narrowed := true }
def FnPutFileUptoSaid : Prop := fnPutFileUptoRow.holds Try.pinned (OpenSpec.upto fnPutFileSpec)

/-- 'laws.FnPutTwice', WHERE WHAT IT READS IS OF BULK AT MOST 1048576: true; the input reads as it did. -/
def fnPutTwiceUptoRow : OpenClaim := { program := "ytcjnlmnjjkojeaa", sum := "10964664fd3ddb3a10bf75b985bef05fb85842ca5c2987c01faa4c35da2c3e65", func := "loop.example/buildengine/laws.FnPutTwice", spec := "fnPutTwice", unfollowed := true, recurses := true, apart := false, narrowed := true }
def FnPutTwiceUptoSaid : Prop := fnPutTwiceUptoRow.holds Try.pinned (OpenSpec.upto fnPutTwiceSpec)

/-- 'laws.FnRemoveFile', WHERE WHAT IT READS IS OF BULK AT MOST 1048576: true; the input reads as it did. -/
def fnRemoveFileUptoRow : OpenClaim := { program := "ytcjnlmnjjkojeaa", sum := "10964664fd3ddb3a10bf75b985bef05fb85842ca5c2987c01faa4c35da2c3e65", func := "loop.example/buildengine/laws.FnRemoveFile", spec := "fnRemoveFile", unfollowed := true, recurses := true, apart := false, narrowed := true }
def FnRemoveFileUptoSaid : Prop := fnRemoveFileUptoRow.holds Try.pinned (OpenSpec.upto fnRemoveFileSpec)

/-- 'laws.FnPutRemove', WHERE WHAT IT READS IS OF BULK AT MOST 1048576: true; the input reads as it did. -/
def fnPutRemoveUptoRow : OpenClaim := { program := "ytcjnlmnjjkojeaa", sum := "10964664fd3ddb3a10bf75b985bef05fb85842ca5c2987c01faa4c35da2c3e65", func := "loop.example/buildengine/laws.FnPutRemove", spec := "fnPutRemove", unfollowed := true, recurses := true, apart := false, narrowed := true }
def FnPutRemoveUptoSaid : Prop := fnPutRemoveUptoRow.holds Try.pinned (OpenSpec.upto fnPutRemoveSpec)

/-- 'laws.FnExactPutFile', WHERE WHAT IT READS IS OF BULK AT MOST 1048576: true; the input reads as it did. -/
def fnExactPutFileUptoRow : OpenClaim := { program := "ytcjnlmnjjkojeaa", sum := "10964664fd3ddb3a10bf75b985bef05fb85842ca5c2987c01faa4c35da2c3e65", func := "loop.example/buildengine/laws.FnExactPutFile", spec := "fnExactPutFile", unfollowed := true, recurses := true, apart := false, narrowed := true }
def FnExactPutFileUptoSaid : Prop := fnExactPutFileUptoRow.holds Try.pinned (OpenSpec.upto fnExactPutFileSpec)

/-- 'laws.FnExactRemoveFile', WHERE WHAT IT READS IS OF BULK AT MOST 1048576: true; the input reads as it did. -/
def fnExactRemoveFileUptoRow : OpenClaim := { program := "ytcjnlmnjjkojeaa", sum := "10964664fd3ddb3a10bf75b985bef05fb85842ca5c2987c01faa4c35da2c3e65", func := "loop.example/buildengine/laws.FnExactRemoveFile", spec := "fnExactRemoveFile", unfollowed := true, recurses := true, apart := false, narrowed := true }
def FnExactRemoveFileUptoSaid : Prop := fnExactRemoveFileUptoRow.holds Try.pinned (OpenSpec.upto fnExactRemoveFileSpec)

end Rows
end Go.Proofs.Ytcjnlmnjjkojeaa
