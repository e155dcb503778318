/-
  No cell of these rows narrows 'for every input' (looked for: loops, veiled, ifaces, maps, wideKeys, modest, calm, conditions, laid).
  DERIVED. THE GIVEN ROWS OF THIS SEAT. 6 by the template 'for every input the law returns true; each argument reads behind the call as it read before'; 0 by the template 'total and deterministic' (their statements: YtoemflipmcdklaaTotals.lean).
  GIVEN WITH THE SEED: the statements are not yours to turn. If you find one false, say at which input.
  Laid BY PROGRAM, IN A SANDBOX (cutbox-rows.mjs): the forced cells as the released guide's own fill.sh prints them over the translation 15c52c52e518eea2… (all of the seat's roots in one cut). By AI agents, Wed Nov 11 2026. No macro, syntax, notation, axiom, sorry.
-/
import Derived.Test.YtoemflipmcdklaaChecked
import GoSem.Claim
import GoSem.ClaimJoined
import GoSem.ClaimMapViews
import Derived.JoinedTies
import Derived.KernelRfl
namespace Go.Proofs.Ytoemflipmcdklaa
/- THE CELL 'sum', in the pinned program and in every row, IS THE sha256 OF THE DUMP (.gsa) THAT YtoemflipmcdklaaProg.lean LOADS. Nothing in Lean hashes anything: it is a label: what it is worth is what the hold of that sum in a sandbox is worth. -/
noncomputable def Try.pinned : Pinned := { name := "ytoemflipmcdklaa", sum := "15c52c52e518eea22de371cdca8e01f31a7b47810033dc26c3239dbda4abdc33", checked := Try.checked }
namespace Rows
def none {H : Type} : Left H := { results := [], args := [] }

/-- 'laws.FnExactPathValid': WHATEVER THE INPUT: true; the input reads as it did. -/
def fnExactPathValidSpec : ChangeSpec := { name := "fnExactPathValid", fn := fun _ => fun
  | [d] => { results := [.lit (.bool true)], args := [d] }
  | _ => none }
def fnExactPathValidRow : OpenClaim := { program := "ytoemflipmcdklaa", sum := "15c52c52e518eea22de371cdca8e01f31a7b47810033dc26c3239dbda4abdc33", func := "loop.example/buildengine/laws.FnExactPathValid", spec := "fnExactPathValid", apart := false }
def FnExactPathValidSaid : Prop := fnExactPathValidRow.holds Try.pinned (OpenSpec.ofChange fnExactPathValidSpec)

/-- ITS FALSE NEIGHBOUR: 'it returns false'. Refute it at one input. -/
def fnExactPathValidWrong : ChangeSpec := { name := "fnExactPathValid", fn := fun _ => fun
  | [d] => { results := [.lit (.bool false)], args := [d] }
  | _ => none }
def FnExactPathValidWrongFalsely : Prop := fnExactPathValidRow.holds Try.pinned (OpenSpec.ofChange fnExactPathValidWrong)

/-- 'laws.FnExactTextValid': WHATEVER THE INPUT: true; the input reads as it did. -/
def fnExactTextValidSpec : ChangeSpec := { name := "fnExactTextValid", fn := fun _ => fun
  | [d] => { results := [.lit (.bool true)], args := [d] }
  | _ => none }
def fnExactTextValidRow : OpenClaim := { program := "ytoemflipmcdklaa", sum := "15c52c52e518eea22de371cdca8e01f31a7b47810033dc26c3239dbda4abdc33", func := "loop.example/buildengine/laws.FnExactTextValid", spec := "fnExactTextValid", apart := false }
def FnExactTextValidSaid : Prop := fnExactTextValidRow.holds Try.pinned (OpenSpec.ofChange fnExactTextValidSpec)

/-- ITS FALSE NEIGHBOUR: 'it returns false'. Refute it at one input. -/
def fnExactTextValidWrong : ChangeSpec := { name := "fnExactTextValid", fn := fun _ => fun
  | [d] => { results := [.lit (.bool false)], args := [d] }
  | _ => none }
def FnExactTextValidWrongFalsely : Prop := fnExactTextValidRow.holds Try.pinned (OpenSpec.ofChange fnExactTextValidWrong)

/-- 'laws.FnPathValid': WHATEVER THE INPUT: true; the input reads as it did. -/
def fnPathValidSpec : ChangeSpec := { name := "fnPathValid", fn := fun _ => fun
  | [d] => { results := [.lit (.bool true)], args := [d] }
  | _ => none }
def fnPathValidRow : OpenClaim := { program := "ytoemflipmcdklaa", sum := "15c52c52e518eea22de371cdca8e01f31a7b47810033dc26c3239dbda4abdc33", func := "loop.example/buildengine/laws.FnPathValid", spec := "fnPathValid", apart := false }
def FnPathValidSaid : Prop := fnPathValidRow.holds Try.pinned (OpenSpec.ofChange fnPathValidSpec)

/-- ITS FALSE NEIGHBOUR: 'it returns false'. Refute it at one input. -/
def fnPathValidWrong : ChangeSpec := { name := "fnPathValid", fn := fun _ => fun
  | [d] => { results := [.lit (.bool false)], args := [d] }
  | _ => none }
def FnPathValidWrongFalsely : Prop := fnPathValidRow.holds Try.pinned (OpenSpec.ofChange fnPathValidWrong)

/-- 'laws.FnTextValid': WHATEVER THE INPUT: true; the input reads as it did. -/
def fnTextValidSpec : ChangeSpec := { name := "fnTextValid", fn := fun _ => fun
  | [d1, d2] => { results := [.lit (.bool true)], args := [d1, d2] }
  | _ => none }
def fnTextValidRow : OpenClaim := { program := "ytoemflipmcdklaa", sum := "15c52c52e518eea22de371cdca8e01f31a7b47810033dc26c3239dbda4abdc33", func := "loop.example/buildengine/laws.FnTextValid", spec := "fnTextValid", apart := false }
def FnTextValidSaid : Prop := fnTextValidRow.holds Try.pinned (OpenSpec.ofChange fnTextValidSpec)

/-- ITS FALSE NEIGHBOUR: 'it returns false'. Refute it at one input. -/
def fnTextValidWrong : ChangeSpec := { name := "fnTextValid", fn := fun _ => fun
  | [d1, d2] => { results := [.lit (.bool false)], args := [d1, d2] }
  | _ => none }
def FnTextValidWrongFalsely : Prop := fnTextValidRow.holds Try.pinned (OpenSpec.ofChange fnTextValidWrong)

/-- 'laws.FnExactFilesValid': WHATEVER THE INPUT: true; the input reads as it did. -/
def fnExactFilesValidSpec : ChangeSpec := { name := "fnExactFilesValid", fn := fun _ => fun
  | [d] => { results := [.lit (.bool true)], args := [d] }
  | _ => none }
def fnExactFilesValidRow : OpenClaim := { program := "ytoemflipmcdklaa", sum := "15c52c52e518eea22de371cdca8e01f31a7b47810033dc26c3239dbda4abdc33", func := "loop.example/buildengine/laws.FnExactFilesValid", spec := "fnExactFilesValid", apart := false }
def FnExactFilesValidSaid : Prop := fnExactFilesValidRow.holds Try.pinned (OpenSpec.ofChange fnExactFilesValidSpec)

/-- ITS FALSE NEIGHBOUR: 'it returns false'. Refute it at one input. -/
def fnExactFilesValidWrong : ChangeSpec := { name := "fnExactFilesValid", fn := fun _ => fun
  | [d] => { results := [.lit (.bool false)], args := [d] }
  | _ => none }
def FnExactFilesValidWrongFalsely : Prop := fnExactFilesValidRow.holds Try.pinned (OpenSpec.ofChange fnExactFilesValidWrong)

/-- 'laws.FnExactFindFile': WHATEVER THE INPUT: true; the input reads as it did. -/
def fnExactFindFileSpec : ChangeSpec := { name := "fnExactFindFile", fn := fun _ => fun
  | [d1, d2] => { results := [.lit (.bool true)], args := [d1, d2] }
  | _ => none }
def fnExactFindFileRow : OpenClaim := { program := "ytoemflipmcdklaa", sum := "15c52c52e518eea22de371cdca8e01f31a7b47810033dc26c3239dbda4abdc33", func := "loop.example/buildengine/laws.FnExactFindFile", spec := "fnExactFindFile", apart := false }
def FnExactFindFileSaid : Prop := fnExactFindFileRow.holds Try.pinned (OpenSpec.ofChange fnExactFindFileSpec)

/-- ITS FALSE NEIGHBOUR: 'it returns false'. Refute it at one input. -/
def fnExactFindFileWrong : ChangeSpec := { name := "fnExactFindFile", fn := fun _ => fun
  | [d1, d2] => { results := [.lit (.bool false)], args := [d1, d2] }
  | _ => none }
def FnExactFindFileWrongFalsely : Prop := fnExactFindFileRow.holds Try.pinned (OpenSpec.ofChange fnExactFindFileWrong)

/- THE SECOND FORM. 'bulk': how many values and letters a reading holds, each counted each time it is reached (what is shared counts as often as it is met; a slice's spare places count too). A statement '..UptoSaid' is the law's where the arguments, and the package variables that the reading takes, are together of bulk at most 1048576: NARROWER than '..Said'. Prove '..Said' where nothing that the law and all that it calls make is longer than what came in: it says more and counts as full. Else prove '..UptoSaid'. A law counts once. -/
mutual
def uptoBulk {H : Type} : DataW H → Nat
  | .lit (.string bytes) => bytes.length + 1
  | .lit _ => 1
  | .nil => 1
  | .ptr d => uptoBulk d + 1
  | .slice elems spare => uptoBulkAll elems + uptoBulkAll spare + 1
  | .agg parts => uptoBulkAll parts + 1
  | .iface _ d => uptoBulk d + 1
  | .map entries => uptoBulkEntries entries + 1
  | .held _ => 1
def uptoBulkAll {H : Type} : List (DataW H) → Nat
  | [] => 0
  | d :: r => uptoBulk d + uptoBulkAll r
def uptoBulkEntries {H : Type} : List (Lit × DataW H) → Nat
  | [] => 0
  | x :: r => uptoBulkEntry x + uptoBulkEntries r
def uptoBulkEntry {H : Type} : Lit × DataW H → Nat
  | (.string bytes, d) => bytes.length + uptoBulk d + 1
  | (_, d) => uptoBulk d + 1
 end
def uptoSmall : (H : Type) → List (DataW H) → Bool := fun _ ds => decide (uptoBulkAll ds ≤ 1048576)
def OpenSpec.upto (s : _root_.Go.ChangeSpec) : _root_.Go.OpenSpec := { _root_.Go.OpenSpec.ofChange s with cond := some uptoSmall }

/-- 'laws.FnExactPathValid', WHERE WHAT IT READS IS OF BULK AT MOST 1048576: true; the input reads as it did. -/
def fnExactPathValidUptoRow : OpenClaim := { program := "ytoemflipmcdklaa", sum := "15c52c52e518eea22de371cdca8e01f31a7b47810033dc26c3239dbda4abdc33", func := "loop.example/buildengine/laws.FnExactPathValid", spec := "fnExactPathValid", apart := false, narrowed := true }
def FnExactPathValidUptoSaid : Prop := fnExactPathValidUptoRow.holds Try.pinned (OpenSpec.upto fnExactPathValidSpec)

/-- 'laws.FnExactTextValid', WHERE WHAT IT READS IS OF BULK AT MOST 1048576: true; the input reads as it did. -/
def fnExactTextValidUptoRow : OpenClaim := { program := "ytoemflipmcdklaa", sum := "15c52c52e518eea22de371cdca8e01f31a7b47810033dc26c3239dbda4abdc33", func := "loop.example/buildengine/laws.FnExactTextValid", spec := "fnExactTextValid", apart := false, narrowed := true }
def FnExactTextValidUptoSaid : Prop := fnExactTextValidUptoRow.holds Try.pinned (OpenSpec.upto fnExactTextValidSpec)

/-- 'laws.FnPathValid', WHERE WHAT IT READS IS OF BULK AT MOST 1048576: true; the input reads as it did. -/
def fnPathValidUptoRow : OpenClaim := { program := "ytoemflipmcdklaa", sum := "15c52c52e518eea22de371cdca8e01f31a7b47810033dc26c3239dbda4abdc33", func := "loop.example/buildengine/laws.FnPathValid", spec := "fnPathValid", apart := false, narrowed := true }
def FnPathValidUptoSaid : Prop := fnPathValidUptoRow.holds Try.pinned (OpenSpec.upto fnPathValidSpec)

/-- 'laws.FnTextValid', WHERE WHAT IT READS IS OF BULK AT MOST 1048576: true; the input reads as it did. -/
def fnTextValidUptoRow : OpenClaim := { program := "ytoemflipmcdklaa", sum := "15c52c52e518eea22de371cdca8e01f31a7b47810033dc26c3239dbda4abdc33", func := "loop.example/buildengine/laws.FnTextValid", spec := "fnTextValid", apart := false, narrowed := true }
def FnTextValidUptoSaid : Prop := fnTextValidUptoRow.holds Try.pinned (OpenSpec.upto fnTextValidSpec)

/-- 'laws.FnExactFilesValid', WHERE WHAT IT READS IS OF BULK AT MOST 1048576: true; the input reads as it did. -/
def fnExactFilesValidUptoRow : OpenClaim := { program := "ytoemflipmcdklaa", sum := "15c52c52e518eea22de371cdca8e01f31a7b47810033dc26c3239dbda4abdc33", func := "loop.example/buildengine/laws.FnExactFilesValid", spec := "fnExactFilesValid", apart := false, narrowed := true }
def FnExactFilesValidUptoSaid : Prop := fnExactFilesValidUptoRow.holds Try.pinned (OpenSpec.upto fnExactFilesValidSpec)

/-- 'laws.FnExactFindFile', WHERE WHAT IT READS IS OF BULK AT MOST 1048576: true; the input reads as it did. -/
def fnExactFindFileUptoRow : OpenClaim := { program := "ytoemflipmcdklaa", sum := "15c52c52e518eea22de371cdca8e01f31a7b47810033dc26c3239dbda4abdc33", func := "loop.example/buildengine/laws.FnExactFindFile", spec := "fnExactFindFile", apart := false, narrowed := true }
def FnExactFindFileUptoSaid : Prop := fnExactFindFileUptoRow.holds Try.pinned (OpenSpec.upto fnExactFindFileSpec)

end Rows
end Go.Proofs.Ytoemflipmcdklaa
