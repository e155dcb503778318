/-
  The methods of the nodes, as a dynamic call finds them.
-/
import Derived.Test.YtbcghkdjhicocaaProg
import Derived.Test.YtbcghkdjhicocaaBase
import Derived.KernelRfl
namespace Go.Proofs.Ytbcghkdjhicocaa
set_option linter.unusedVariables false
open Go.RowKit

theorem mw_text (n : Nat) (s : ByteArray) (w : World) : Sem.run Try.prog (method (n + 1) 63 (.agg #[.string s]) "loop.example/buildengine/impl.write") w = .ok (89, .agg #[.string s]) w := by kernel_rfl
theorem mo_text (n : Nat) (s : ByteArray) (w : World) : Sem.run Try.prog (method (n + 1) 63 (.agg #[.string s]) "loop.example/buildengine/impl.operands") w = .ok (88, .agg #[.string s]) w := by kernel_rfl
theorem mc_text (n : Nat) (s : ByteArray) (w : World) : Sem.run Try.prog (method (n + 1) 63 (.agg #[.string s]) "loop.example/buildengine/impl.combine") w = .ok (86, .agg #[.string s]) w := by kernel_rfl
theorem mw_read (n : Nat) (v : Value) (w : World) : Sem.run Try.prog (method (n + 1) 46 (.agg #[v]) "loop.example/buildengine/impl.write") w = .ok (84, .agg #[v]) w := by kernel_rfl
theorem mo_read (n : Nat) (t : TypeId) (x : Value) (w : World) : Sem.run Try.prog (method (n + 1) 46 (.agg #[.iface t x]) "loop.example/buildengine/impl.operands") w = .ok (81, .agg #[.iface t x]) w := by kernel_rfl
theorem mc_read (n : Nat) (v : Value) (w : World) : Sem.run Try.prog (method (n + 1) 46 (.agg #[v]) "loop.example/buildengine/impl.combine") w = .ok (82, .agg #[v]) w := by kernel_rfl
theorem mw_join (n : Nat) (v : Value) (w : World) : Sem.run Try.prog (method (n + 1) 87 (.agg #[v]) "loop.example/buildengine/impl.write") w = .ok (93, .agg #[v]) w := by kernel_rfl
theorem mo_join (n : Nat) (v : Value) (w : World) : Sem.run Try.prog (method (n + 1) 87 (.agg #[v]) "loop.example/buildengine/impl.operands") w = .ok (92, .agg #[v]) w := by kernel_rfl
theorem mc_join (n : Nat) (v : Value) (w : World) : Sem.run Try.prog (method (n + 1) 87 (.agg #[v]) "loop.example/buildengine/impl.combine") w = .ok (90, .agg #[v]) w := by kernel_rfl
theorem mw_same (n : Nat) (v v1 v2 v3 : Value) (w : World) : Sem.run Try.prog (method (n + 1) 89 (.agg #[v, v1, v2, v3]) "loop.example/buildengine/impl.write") w = .ok (105, .agg #[v, v1, v2, v3]) w := by kernel_rfl
theorem mo_same (n : Nat) (v v1 v2 v3 : Value) (w : World) : Sem.run Try.prog (method (n + 1) 89 (.agg #[v, v1, v2, v3]) "loop.example/buildengine/impl.operands") w = .ok (104, .agg #[v, v1, v2, v3]) w := by kernel_rfl
theorem mc_same (n : Nat) (v v1 v2 v3 : Value) (w : World) : Sem.run Try.prog (method (n + 1) 89 (.agg #[v, v1, v2, v3]) "loop.example/buildengine/impl.combine") w = .ok (102, .agg #[v, v1, v2, v3]) w := by kernel_rfl
theorem mw_first (n : Nat) (v : Value) (w : World) : Sem.run Try.prog (method (n + 1) 92 (.agg #[v]) "loop.example/buildengine/impl.write") w = .ok (108, .agg #[v]) w := by kernel_rfl
theorem mo_first (n : Nat) (t : TypeId) (x : Value) (w : World) : Sem.run Try.prog (method (n + 1) 92 (.agg #[.iface t x]) "loop.example/buildengine/impl.operands") w = .ok (81, .agg #[.iface t x]) w := by kernel_rfl
theorem mc_first (n : Nat) (v : Value) (w : World) : Sem.run Try.prog (method (n + 1) 92 (.agg #[v]) "loop.example/buildengine/impl.combine") w = .ok (106, .agg #[v]) w := by kernel_rfl
theorem mw_rest (n : Nat) (v : Value) (w : World) : Sem.run Try.prog (method (n + 1) 93 (.agg #[v]) "loop.example/buildengine/impl.write") w = .ok (111, .agg #[v]) w := by kernel_rfl
theorem mo_rest (n : Nat) (t : TypeId) (x : Value) (w : World) : Sem.run Try.prog (method (n + 1) 93 (.agg #[.iface t x]) "loop.example/buildengine/impl.operands") w = .ok (81, .agg #[.iface t x]) w := by kernel_rfl
theorem mc_rest (n : Nat) (v : Value) (w : World) : Sem.run Try.prog (method (n + 1) 93 (.agg #[v]) "loop.example/buildengine/impl.combine") w = .ok (109, .agg #[v]) w := by kernel_rfl
theorem mw_count (n : Nat) (v : Value) (w : World) : Sem.run Try.prog (method (n + 1) 94 (.agg #[v]) "loop.example/buildengine/impl.write") w = .ok (114, .agg #[v]) w := by kernel_rfl
theorem mo_count (n : Nat) (t : TypeId) (x : Value) (w : World) : Sem.run Try.prog (method (n + 1) 94 (.agg #[.iface t x]) "loop.example/buildengine/impl.operands") w = .ok (81, .agg #[.iface t x]) w := by kernel_rfl
theorem mc_count (n : Nat) (v : Value) (w : World) : Sem.run Try.prog (method (n + 1) 94 (.agg #[v]) "loop.example/buildengine/impl.combine") w = .ok (112, .agg #[v]) w := by kernel_rfl
end Go.Proofs.Ytbcghkdjhicocaa
