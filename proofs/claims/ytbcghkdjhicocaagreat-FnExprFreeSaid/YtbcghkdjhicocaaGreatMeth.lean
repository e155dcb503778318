/-
  The methods of the nodes, as a dynamic call finds them.
-/
import Derived.Test.YtbcghkdjhicocaaGreatProg
import Derived.Test.YtbcghkdjhicocaaGreatBase
import Derived.KernelRfl
namespace Go.Proofs.YtbcghkdjhicocaaGreat
set_option linter.unusedVariables false
open Go.RowKit

theorem mw_text (n : Nat) (s : ByteArray) (w : World) : Sem.run Tryz.prog (method (n + 1) 72 (.agg #[.string s]) "loop.example/buildengine/impl.write") w = .ok (79, .agg #[.string s]) w := by kernel_rfl
theorem mo_text (n : Nat) (s : ByteArray) (w : World) : Sem.run Tryz.prog (method (n + 1) 72 (.agg #[.string s]) "loop.example/buildengine/impl.operands") w = .ok (78, .agg #[.string s]) w := by kernel_rfl
theorem mc_text (n : Nat) (s : ByteArray) (w : World) : Sem.run Tryz.prog (method (n + 1) 72 (.agg #[.string s]) "loop.example/buildengine/impl.combine") w = .ok (76, .agg #[.string s]) w := by kernel_rfl
theorem mw_read (n : Nat) (v : Value) (w : World) : Sem.run Tryz.prog (method (n + 1) 52 (.agg #[v]) "loop.example/buildengine/impl.write") w = .ok (75, .agg #[v]) w := by kernel_rfl
theorem mo_read (n : Nat) (t : TypeId) (x : Value) (w : World) : Sem.run Tryz.prog (method (n + 1) 52 (.agg #[.iface t x]) "loop.example/buildengine/impl.operands") w = .ok (72, .agg #[.iface t x]) w := by kernel_rfl
theorem mc_read (n : Nat) (v : Value) (w : World) : Sem.run Tryz.prog (method (n + 1) 52 (.agg #[v]) "loop.example/buildengine/impl.combine") w = .ok (73, .agg #[v]) w := by kernel_rfl
theorem mw_join (n : Nat) (v : Value) (w : World) : Sem.run Tryz.prog (method (n + 1) 84 (.agg #[v]) "loop.example/buildengine/impl.write") w = .ok (83, .agg #[v]) w := by kernel_rfl
theorem mo_join (n : Nat) (v : Value) (w : World) : Sem.run Tryz.prog (method (n + 1) 84 (.agg #[v]) "loop.example/buildengine/impl.operands") w = .ok (82, .agg #[v]) w := by kernel_rfl
theorem mc_join (n : Nat) (v : Value) (w : World) : Sem.run Tryz.prog (method (n + 1) 84 (.agg #[v]) "loop.example/buildengine/impl.combine") w = .ok (80, .agg #[v]) w := by kernel_rfl
theorem mw_same (n : Nat) (v v1 v2 v3 : Value) (w : World) : Sem.run Tryz.prog (method (n + 1) 86 (.agg #[v, v1, v2, v3]) "loop.example/buildengine/impl.write") w = .ok (95, .agg #[v, v1, v2, v3]) w := by kernel_rfl
theorem mo_same (n : Nat) (v v1 v2 v3 : Value) (w : World) : Sem.run Tryz.prog (method (n + 1) 86 (.agg #[v, v1, v2, v3]) "loop.example/buildengine/impl.operands") w = .ok (94, .agg #[v, v1, v2, v3]) w := by kernel_rfl
theorem mc_same (n : Nat) (v v1 v2 v3 : Value) (w : World) : Sem.run Tryz.prog (method (n + 1) 86 (.agg #[v, v1, v2, v3]) "loop.example/buildengine/impl.combine") w = .ok (92, .agg #[v, v1, v2, v3]) w := by kernel_rfl
theorem mw_first (n : Nat) (v : Value) (w : World) : Sem.run Tryz.prog (method (n + 1) 89 (.agg #[v]) "loop.example/buildengine/impl.write") w = .ok (98, .agg #[v]) w := by kernel_rfl
theorem mo_first (n : Nat) (t : TypeId) (x : Value) (w : World) : Sem.run Tryz.prog (method (n + 1) 89 (.agg #[.iface t x]) "loop.example/buildengine/impl.operands") w = .ok (72, .agg #[.iface t x]) w := by kernel_rfl
theorem mc_first (n : Nat) (v : Value) (w : World) : Sem.run Tryz.prog (method (n + 1) 89 (.agg #[v]) "loop.example/buildengine/impl.combine") w = .ok (96, .agg #[v]) w := by kernel_rfl
theorem mw_rest (n : Nat) (v : Value) (w : World) : Sem.run Tryz.prog (method (n + 1) 90 (.agg #[v]) "loop.example/buildengine/impl.write") w = .ok (101, .agg #[v]) w := by kernel_rfl
theorem mo_rest (n : Nat) (t : TypeId) (x : Value) (w : World) : Sem.run Tryz.prog (method (n + 1) 90 (.agg #[.iface t x]) "loop.example/buildengine/impl.operands") w = .ok (72, .agg #[.iface t x]) w := by kernel_rfl
theorem mc_rest (n : Nat) (v : Value) (w : World) : Sem.run Tryz.prog (method (n + 1) 90 (.agg #[v]) "loop.example/buildengine/impl.combine") w = .ok (99, .agg #[v]) w := by kernel_rfl
theorem mw_count (n : Nat) (v : Value) (w : World) : Sem.run Tryz.prog (method (n + 1) 91 (.agg #[v]) "loop.example/buildengine/impl.write") w = .ok (104, .agg #[v]) w := by kernel_rfl
theorem mo_count (n : Nat) (t : TypeId) (x : Value) (w : World) : Sem.run Tryz.prog (method (n + 1) 91 (.agg #[.iface t x]) "loop.example/buildengine/impl.operands") w = .ok (72, .agg #[.iface t x]) w := by kernel_rfl
theorem mc_count (n : Nat) (v : Value) (w : World) : Sem.run Tryz.prog (method (n + 1) 91 (.agg #[v]) "loop.example/buildengine/impl.combine") w = .ok (102, .agg #[v]) w := by kernel_rfl
end Go.Proofs.YtbcghkdjhicocaaGreat
