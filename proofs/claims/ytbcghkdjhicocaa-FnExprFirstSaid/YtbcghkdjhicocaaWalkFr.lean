/-
  The law FnExprFree, walked.
-/
import Derived.Test.YtbcghkdjhicocaaDrawE4
import Derived.Test.YtbcghkdjhicocaaFreeQ
import Derived.Test.YtbcghkdjhicocaaFreeS
import Derived.Test.YtbcghkdjhicocaaRow
import Derived.Deep.RegionHeld3
import Derived.StillTailTactics
namespace Go.Proofs.Ytbcghkdjhicocaa
set_option linter.unusedVariables false
set_option linter.unusedSimpArgs false
open Go.RowKit

theorem freeE_size {k : Int} {s : ByteArray} {ks : Fo} {x : ByteArray} (h : freeE k s ks = some x) : x.size ≤ 60 := by
  unfold freeE at h
  split at h
  · rename_i hv
    obtain ⟨hn, hg, _⟩ := valid_good hv
    exact fr1_size hn hg h
  · cases h
end Go.Proofs.Ytbcghkdjhicocaa
