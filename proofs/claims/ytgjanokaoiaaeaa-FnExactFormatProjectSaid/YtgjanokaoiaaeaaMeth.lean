/-
  The methods of the nodes, as a dynamic call finds them.
-/
import Derived.Test.YtgjanokaoiaaeaaProg
import Derived.Test.YtgjanokaoiaaeaaBase
import Derived.KernelRfl
namespace Go.Proofs.Ytgjanokaoiaaeaa
set_option linter.unusedVariables false
open Go.RowKit

theorem mw_text (n : Nat) (s : ByteArray) (w : World) : Sem.run Try.prog (method (n + 1) 130 (.agg #[.string s]) "loop.example/buildengine/impl.write") w = .ok (118, .agg #[.string s]) w := by kernel_rfl
theorem mo_text (n : Nat) (s : ByteArray) (w : World) : Sem.run Try.prog (method (n + 1) 130 (.agg #[.string s]) "loop.example/buildengine/impl.operands") w = .ok (117, .agg #[.string s]) w := by kernel_rfl
theorem mc_text (n : Nat) (s : ByteArray) (w : World) : Sem.run Try.prog (method (n + 1) 130 (.agg #[.string s]) "loop.example/buildengine/impl.combine") w = .ok (115, .agg #[.string s]) w := by kernel_rfl
theorem mw_read (n : Nat) (v : Value) (w : World) : Sem.run Try.prog (method (n + 1) 132 (.agg #[v]) "loop.example/buildengine/impl.write") w = .ok (122, .agg #[v]) w := by kernel_rfl
theorem mo_read (n : Nat) (t : TypeId) (x : Value) (w : World) : Sem.run Try.prog (method (n + 1) 132 (.agg #[.iface t x]) "loop.example/buildengine/impl.operands") w = .ok (114, .agg #[.iface t x]) w := by kernel_rfl
theorem mc_read (n : Nat) (v : Value) (w : World) : Sem.run Try.prog (method (n + 1) 132 (.agg #[v]) "loop.example/buildengine/impl.combine") w = .ok (119, .agg #[v]) w := by kernel_rfl
theorem mw_join (n : Nat) (v : Value) (w : World) : Sem.run Try.prog (method (n + 1) 121 (.agg #[v]) "loop.example/buildengine/impl.write") w = .ok (109, .agg #[v]) w := by kernel_rfl
theorem mo_join (n : Nat) (v : Value) (w : World) : Sem.run Try.prog (method (n + 1) 121 (.agg #[v]) "loop.example/buildengine/impl.operands") w = .ok (108, .agg #[v]) w := by kernel_rfl
theorem mc_join (n : Nat) (v : Value) (w : World) : Sem.run Try.prog (method (n + 1) 121 (.agg #[v]) "loop.example/buildengine/impl.combine") w = .ok (106, .agg #[v]) w := by kernel_rfl
theorem mw_same (n : Nat) (v v1 v2 v3 : Value) (w : World) : Sem.run Try.prog (method (n + 1) 123 (.agg #[v, v1, v2, v3]) "loop.example/buildengine/impl.write") w = .ok (113, .agg #[v, v1, v2, v3]) w := by kernel_rfl
theorem mo_same (n : Nat) (v v1 v2 v3 : Value) (w : World) : Sem.run Try.prog (method (n + 1) 123 (.agg #[v, v1, v2, v3]) "loop.example/buildengine/impl.operands") w = .ok (112, .agg #[v, v1, v2, v3]) w := by kernel_rfl
theorem mc_same (n : Nat) (v v1 v2 v3 : Value) (w : World) : Sem.run Try.prog (method (n + 1) 123 (.agg #[v, v1, v2, v3]) "loop.example/buildengine/impl.combine") w = .ok (110, .agg #[v, v1, v2, v3]) w := by kernel_rfl
theorem mw_first (n : Nat) (v : Value) (w : World) : Sem.run Try.prog (method (n + 1) 133 (.agg #[v]) "loop.example/buildengine/impl.write") w = .ok (126, .agg #[v]) w := by kernel_rfl
theorem mo_first (n : Nat) (t : TypeId) (x : Value) (w : World) : Sem.run Try.prog (method (n + 1) 133 (.agg #[.iface t x]) "loop.example/buildengine/impl.operands") w = .ok (114, .agg #[.iface t x]) w := by kernel_rfl
theorem mc_first (n : Nat) (v : Value) (w : World) : Sem.run Try.prog (method (n + 1) 133 (.agg #[v]) "loop.example/buildengine/impl.combine") w = .ok (124, .agg #[v]) w := by kernel_rfl
theorem mw_rest (n : Nat) (v : Value) (w : World) : Sem.run Try.prog (method (n + 1) 134 (.agg #[v]) "loop.example/buildengine/impl.write") w = .ok (129, .agg #[v]) w := by kernel_rfl
theorem mo_rest (n : Nat) (t : TypeId) (x : Value) (w : World) : Sem.run Try.prog (method (n + 1) 134 (.agg #[.iface t x]) "loop.example/buildengine/impl.operands") w = .ok (114, .agg #[.iface t x]) w := by kernel_rfl
theorem mc_rest (n : Nat) (v : Value) (w : World) : Sem.run Try.prog (method (n + 1) 134 (.agg #[v]) "loop.example/buildengine/impl.combine") w = .ok (127, .agg #[v]) w := by kernel_rfl
theorem mw_count (n : Nat) (v : Value) (w : World) : Sem.run Try.prog (method (n + 1) 135 (.agg #[v]) "loop.example/buildengine/impl.write") w = .ok (132, .agg #[v]) w := by kernel_rfl
theorem mo_count (n : Nat) (t : TypeId) (x : Value) (w : World) : Sem.run Try.prog (method (n + 1) 135 (.agg #[.iface t x]) "loop.example/buildengine/impl.operands") w = .ok (114, .agg #[.iface t x]) w := by kernel_rfl
theorem mc_count (n : Nat) (v : Value) (w : World) : Sem.run Try.prog (method (n + 1) 135 (.agg #[v]) "loop.example/buildengine/impl.combine") w = .ok (130, .agg #[v]) w := by kernel_rfl
end Go.Proofs.Ytgjanokaoiaaeaa
