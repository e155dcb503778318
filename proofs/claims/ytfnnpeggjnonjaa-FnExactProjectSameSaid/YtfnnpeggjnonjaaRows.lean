/-
  NARROWER THAN 'FOR EVERY INPUT', by the rows' own cells (each row's printed sentence says how): FnExactExprEqual: loops · FnExactProjectSame: loops.
  DERIVED. THE GIVEN ROWS OF THIS SEAT. 2 by the template 'for every input the law returns true; each argument reads behind the call as it read before'; 0 by the template 'total and deterministic' (their statements: YtfnnpeggjnonjaaTotals.lean).
  GIVEN WITH THE SEED: the statements are not yours to turn. If you find one false, say at which input.
  Laid BY PROGRAM, IN A SANDBOX (cutbox-rows.mjs): the forced cells as the released guide's own fill.sh prints them over the translation 5ed30d81c1a56d1e… (all of the seat's roots in one cut). By AI agents, Wed Nov 11 2026. No macro, syntax, notation, axiom, sorry.
-/
import Derived.Test.YtfnnpeggjnonjaaChecked
import GoSem.Claim
import GoSem.ClaimJoined
import GoSem.ClaimMapViews
import Derived.JoinedTies
import Derived.KernelRfl
namespace Go.Proofs.Ytfnnpeggjnonjaa
/- THE CELL 'sum', in the pinned program and in every row, IS THE sha256 OF THE DUMP (.gsa) THAT YtfnnpeggjnonjaaProg.lean LOADS. Nothing in Lean hashes anything: it is a label: what it is worth is what the hold of that sum in a sandbox is worth. -/
noncomputable def Try.pinned : Pinned := { name := "ytfnnpeggjnonjaa", sum := "5ed30d81c1a56d1e80eecc6dfd1a8689e7dc1e1e8d53c69344aa3bcb632dbb64", checked := Try.checked }
namespace Rows
def none {H : Type} : Left H := { results := [], args := [] }

/-- 'laws.FnExactExprEqual': WHATEVER THE INPUT: true; the input reads as it did. -/
def fnExactExprEqualSpec : ChangeSpec := { name := "fnExactExprEqual", fn := fun _ => fun
  | [d1, d2] => { results := [.lit (.bool true)], args := [d1, d2] }
  | _ => none }
def fnExactExprEqualRow : OpenClaim := { program := "ytfnnpeggjnonjaa", sum := "5ed30d81c1a56d1e80eecc6dfd1a8689e7dc1e1e8d53c69344aa3bcb632dbb64", func := "loop.example/buildengine/laws.FnExactExprEqual", spec := "fnExactExprEqual", recurses := true, loops := true, plainKeys := false, apart := false }
def FnExactExprEqualSaid : Prop := fnExactExprEqualRow.holds Try.pinned (OpenSpec.ofChange fnExactExprEqualSpec)

/-- ITS FALSE NEIGHBOUR: 'it returns false'. Refute it at one input. -/
def fnExactExprEqualWrong : ChangeSpec := { name := "fnExactExprEqual", fn := fun _ => fun
  | [d1, d2] => { results := [.lit (.bool false)], args := [d1, d2] }
  | _ => none }
def FnExactExprEqualWrongFalsely : Prop := fnExactExprEqualRow.holds Try.pinned (OpenSpec.ofChange fnExactExprEqualWrong)

/-- 'laws.FnExactProjectSame': WHATEVER THE INPUT: true; the input reads as it did. -/
def fnExactProjectSameSpec : ChangeSpec := { name := "fnExactProjectSame", fn := fun _ => fun
  | [d1, d2] => { results := [.lit (.bool true)], args := [d1, d2] }
  | _ => none }
def fnExactProjectSameRow : OpenClaim := { program := "ytfnnpeggjnonjaa", sum := "5ed30d81c1a56d1e80eecc6dfd1a8689e7dc1e1e8d53c69344aa3bcb632dbb64", func := "loop.example/buildengine/laws.FnExactProjectSame", spec := "fnExactProjectSame", unfollowed := true, recurses := true, loops := true, plainKeys := false, apart := false }
def FnExactProjectSameSaid : Prop := fnExactProjectSameRow.holds Try.pinned (OpenSpec.ofChange fnExactProjectSameSpec)

/-- ITS FALSE NEIGHBOUR: 'it returns false'. Refute it at one input. -/
def fnExactProjectSameWrong : ChangeSpec := { name := "fnExactProjectSame", fn := fun _ => fun
  | [d1, d2] => { results := [.lit (.bool false)], args := [d1, d2] }
  | _ => none }
def FnExactProjectSameWrongFalsely : Prop := fnExactProjectSameRow.holds Try.pinned (OpenSpec.ofChange fnExactProjectSameWrong)

/- THE SECOND FORM. 'bulk': how many values and letters a reading holds, each counted each time it is reached (what is shared counts as often as it is met; a slice's spare places count too). A statement '..UptoSaid' is the law's where the arguments, and the package variables that the reading takes, are together of bulk at most 1048576: NARROWER than '..Said'. Prove '..Said' where nothing that the law and all that it calls make is longer than what came in: it says more and counts as full. Else prove '..UptoSaid'. A law counts once. -/
mutual
def uptoBulk {H : Type} : DataW H → Nat
  | .lit (.string bytes) => bytes.length + 1
  | .lit _ => 1
  | .nil => 1
  | .ptr d => uptoBulk d + 1
  | .slice elems spare => uptoBulkAll elems + uptoBulkAll spare + 1
  | .agg parts => uptoBulkAll parts + 1
  | .iface _ d => uptoBulk d + 1
  | .map entries => uptoBulkEntries entries + 1
  | .held _ => 1
def uptoBulkAll {H : Type} : List (DataW H) → Nat
  | [] => 0
  | d :: r => uptoBulk d + uptoBulkAll r
def uptoBulkEntries {H : Type} : List (Lit × DataW H) → Nat
  | [] => 0
  | x :: r => uptoBulkEntry x + uptoBulkEntries r
def uptoBulkEntry {H : Type} : Lit × DataW H → Nat
  | (.string bytes, d) => bytes.length + uptoBulk d + 1
  | (_, d) => uptoBulk d + 1
 end
def uptoSmall : (H : Type) → List (DataW H) → Bool := fun _ ds => decide (uptoBulkAll ds ≤ 1048576)
def OpenSpec.upto (s : _root_.Go.ChangeSpec) : _root_.Go.OpenSpec := { _root_.Go.OpenSpec.ofChange s with cond := some uptoSmall }

/-- 'laws.FnExactExprEqual', WHERE WHAT IT READS IS OF BULK AT MOST 1048576: true; the input reads as it did. -/
def fnExactExprEqualUptoRow : OpenClaim := { program := "ytfnnpeggjnonjaa", sum := "5ed30d81c1a56d1e80eecc6dfd1a8689e7dc1e1e8d53c69344aa3bcb632dbb64", func := "loop.example/buildengine/laws.FnExactExprEqual", spec := "fnExactExprEqual", recurses := true, loops := true, plainKeys := false, apart := false, narrowed := true }
def FnExactExprEqualUptoSaid : Prop := fnExactExprEqualUptoRow.holds Try.pinned (OpenSpec.upto fnExactExprEqualSpec)

/-- 'laws.FnExactProjectSame', WHERE WHAT IT READS IS OF BULK AT MOST 1048576: true; the input reads as it did. -/
def fnExactProjectSameUptoRow : OpenClaim := { program := "ytfnnpeggjnonjaa", sum := "5ed30d81c1a56d1e80eecc6dfd1a8689e7dc1e1e8d53c69344aa3bcb632dbb64", func := "loop.example/buildengine/laws.FnExactProjectSame", spec := "fnExactProjectSame", unfollowed := true, recurses := true, loops := true, plainKeys := false, apart := false, narrowed := true }
def FnExactProjectSameUptoSaid : Prop := fnExactProjectSameUptoRow.holds Try.pinned (OpenSpec.upto fnExactProjectSameSpec)

end Rows
end Go.Proofs.Ytfnnpeggjnonjaa
