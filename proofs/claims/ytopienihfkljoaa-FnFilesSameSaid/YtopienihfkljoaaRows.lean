/-
  No cell of these rows narrows 'for every input' (looked for: loops, veiled, ifaces, maps, wideKeys, modest, calm, conditions, laid).
  DERIVED. THE GIVEN ROWS OF THIS SEAT. 3 by the template 'for every input the law returns true; each argument reads behind the call as it read before'; 0 by the template 'total and deterministic' (their statements: YtopienihfkljoaaTotals.lean).
  GIVEN WITH THE SEED: the statements are not yours to turn. If you find one false, say at which input.
  Laid BY PROGRAM, IN A SANDBOX (cutbox-rows.mjs): the forced cells as the released guide's own fill.sh prints them over the translation de632b68e46ac9c4… (all of the seat's roots in one cut). By AI agents, Wed Nov 11 2026. No macro, syntax, notation, axiom, sorry.
-/
import Derived.Test.YtopienihfkljoaaChecked
import GoSem.Claim
import GoSem.ClaimJoined
import GoSem.ClaimMapViews
import Derived.JoinedTies
import Derived.KernelRfl
namespace Go.Proofs.Ytopienihfkljoaa
/- THE CELL 'sum', in the pinned program and in every row, IS THE sha256 OF THE DUMP (.gsa) THAT YtopienihfkljoaaProg.lean LOADS. Nothing in Lean hashes anything: it is a label: what it is worth is what the hold of that sum in a sandbox is worth. -/
noncomputable def Try.pinned : Pinned := { name := "ytopienihfkljoaa", sum := "de632b68e46ac9c4902823005809ed9d81450dbf56fec3207462d744017d6fbb", checked := Try.checked }
namespace Rows
def none {H : Type} : Left H := { results := [], args := [] }

/-- 'laws.FnExactFilesSame': WHATEVER THE INPUT: true; the input reads as it did. -/
def fnExactFilesSameSpec : ChangeSpec := { name := "fnExactFilesSame", fn := fun _ => fun
  | [d1, d2] => { results := [.lit (.bool true)], args := [d1, d2] }
  | _ => none }
def fnExactFilesSameRow : OpenClaim := { program := "ytopienihfkljoaa", sum := "de632b68e46ac9c4902823005809ed9d81450dbf56fec3207462d744017d6fbb", func := "loop.example/buildengine/laws.FnExactFilesSame", spec := "fnExactFilesSame", apart := false }
def FnExactFilesSameSaid : Prop := fnExactFilesSameRow.holds Try.pinned (OpenSpec.ofChange fnExactFilesSameSpec)

/-- ITS FALSE NEIGHBOUR: 'it returns false'. Refute it at one input. -/
def fnExactFilesSameWrong : ChangeSpec := { name := "fnExactFilesSame", fn := fun _ => fun
  | [d1, d2] => { results := [.lit (.bool false)], args := [d1, d2] }
  | _ => none }
def FnExactFilesSameWrongFalsely : Prop := fnExactFilesSameRow.holds Try.pinned (OpenSpec.ofChange fnExactFilesSameWrong)

/-- 'laws.FnFilesSame': WHATEVER THE INPUT: true; the input reads as it did. -/
def fnFilesSameSpec : ChangeSpec := { name := "fnFilesSame", fn := fun _ => fun
  | [d] => { results := [.lit (.bool true)], args := [d] }
  | _ => none }
def fnFilesSameRow : OpenClaim := { program := "ytopienihfkljoaa", sum := "de632b68e46ac9c4902823005809ed9d81450dbf56fec3207462d744017d6fbb", func := "loop.example/buildengine/laws.FnFilesSame", spec := "fnFilesSame", apart := false }
def FnFilesSameSaid : Prop := fnFilesSameRow.holds Try.pinned (OpenSpec.ofChange fnFilesSameSpec)

/-- ITS FALSE NEIGHBOUR: 'it returns false'. Refute it at one input. -/
def fnFilesSameWrong : ChangeSpec := { name := "fnFilesSame", fn := fun _ => fun
  | [d] => { results := [.lit (.bool false)], args := [d] }
  | _ => none }
def FnFilesSameWrongFalsely : Prop := fnFilesSameRow.holds Try.pinned (OpenSpec.ofChange fnFilesSameWrong)

/-- 'laws.FnExactFormatFiles': WHATEVER THE INPUT: true; the input reads as it did. -/
def fnExactFormatFilesSpec : ChangeSpec := { name := "fnExactFormatFiles", fn := fun _ => fun
  | [d] => { results := [.lit (.bool true)], args := [d] }
  | _ => none }
def fnExactFormatFilesRow : OpenClaim := { program := "ytopienihfkljoaa", sum := "de632b68e46ac9c4902823005809ed9d81450dbf56fec3207462d744017d6fbb", func := "loop.example/buildengine/laws.FnExactFormatFiles", spec := "fnExactFormatFiles", inPlace := ["internal/abi.NoEscape"], apart := false }
def FnExactFormatFilesSaid : Prop := fnExactFormatFilesRow.holds Try.pinned (OpenSpec.ofChange fnExactFormatFilesSpec)

/-- ITS FALSE NEIGHBOUR: 'it returns false'. Refute it at one input. -/
def fnExactFormatFilesWrong : ChangeSpec := { name := "fnExactFormatFiles", fn := fun _ => fun
  | [d] => { results := [.lit (.bool false)], args := [d] }
  | _ => none }
def FnExactFormatFilesWrongFalsely : Prop := fnExactFormatFilesRow.holds Try.pinned (OpenSpec.ofChange fnExactFormatFilesWrong)

/- THE SECOND FORM. 'bulk': how many values and letters a reading holds, each counted each time it is reached (what is shared counts as often as it is met; a slice's spare places count too). A statement '..UptoSaid' is the law's where the arguments, and the package variables that the reading takes, are together of bulk at most 1048576: NARROWER than '..Said'. Prove '..Said' where nothing that the law and all that it calls make is longer than what came in: it says more and counts as full. Else prove '..UptoSaid'. A law counts once. -/
mutual
def uptoBulk {H : Type} : DataW H → Nat
  | .lit (.string bytes) => bytes.length + 1
  | .lit _ => 1
  | .nil => 1
  | .ptr d => uptoBulk d + 1
  | .slice elems spare => uptoBulkAll elems + uptoBulkAll spare + 1
  | .agg parts => uptoBulkAll parts + 1
  | .iface _ d => uptoBulk d + 1
  | .map entries => uptoBulkEntries entries + 1
  | .held _ => 1
def uptoBulkAll {H : Type} : List (DataW H) → Nat
  | [] => 0
  | d :: r => uptoBulk d + uptoBulkAll r
def uptoBulkEntries {H : Type} : List (Lit × DataW H) → Nat
  | [] => 0
  | x :: r => uptoBulkEntry x + uptoBulkEntries r
def uptoBulkEntry {H : Type} : Lit × DataW H → Nat
  | (.string bytes, d) => bytes.length + uptoBulk d + 1
  | (_, d) => uptoBulk d + 1
 end
def uptoSmall : (H : Type) → List (DataW H) → Bool := fun _ ds => decide (uptoBulkAll ds ≤ 1048576)
def OpenSpec.upto (s : _root_.Go.ChangeSpec) : _root_.Go.OpenSpec := { _root_.Go.OpenSpec.ofChange s with cond := some uptoSmall }

/-- 'laws.FnExactFilesSame', WHERE WHAT IT READS IS OF BULK AT MOST 1048576: true; the input reads as it did. -/
def fnExactFilesSameUptoRow : OpenClaim := { program := "ytopienihfkljoaa", sum := "de632b68e46ac9c4902823005809ed9d81450dbf56fec3207462d744017d6fbb", func := "loop.example/buildengine/laws.FnExactFilesSame", spec := "fnExactFilesSame", apart := false, narrowed := true }
def FnExactFilesSameUptoSaid : Prop := fnExactFilesSameUptoRow.holds Try.pinned (OpenSpec.upto fnExactFilesSameSpec)

/-- 'laws.FnFilesSame', WHERE WHAT IT READS IS OF BULK AT MOST 1048576: true; the input reads as it did. -/
def fnFilesSameUptoRow : OpenClaim := { program := "ytopienihfkljoaa", sum := "de632b68e46ac9c4902823005809ed9d81450dbf56fec3207462d744017d6fbb", func := "loop.example/buildengine/laws.FnFilesSame", spec := "fnFilesSame", apart := false, narrowed := true }
def FnFilesSameUptoSaid : Prop := fnFilesSameUptoRow.holds Try.pinned (OpenSpec.upto fnFilesSameSpec)

/-- 'laws.FnExactFormatFiles', WHERE WHAT IT READS IS OF BULK AT MOST 1048576: true; the input reads as it did. -/
def fnExactFormatFilesUptoRow : OpenClaim := { program := "ytopienihfkljoaa", sum := "de632b68e46ac9c4902823005809ed9d81450dbf56fec3207462d744017d6fbb", func := "loop.example/buildengine/laws.FnExactFormatFiles", spec := "fnExactFormatFiles", inPlace := ["internal/abi.NoEscape"], apart := false, narrowed := true }
def FnExactFormatFilesUptoSaid : Prop := fnExactFormatFilesUptoRow.holds Try.pinned (OpenSpec.upto fnExactFormatFilesSpec)

end Rows
end Go.Proofs.Ytopienihfkljoaa
