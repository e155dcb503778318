/-
  The methods of the nodes, as a dynamic call finds them.
-/
import Derived.Test.YtfpdeoicalofdaaProg
import Derived.Test.YtfpdeoicalofdaaBase
import Derived.KernelRfl
namespace Go.Proofs.Ytfpdeoicalofdaa
set_option linter.unusedVariables false
open Go.RowKit

theorem mw_text (n : Nat) (s : ByteArray) (w : World) : Sem.run Try.prog (method (n + 1) 83 (.agg #[.string s]) "loop.example/buildengine/impl.write") w = .ok (77, .agg #[.string s]) w := by kernel_rfl
theorem mo_text (n : Nat) (s : ByteArray) (w : World) : Sem.run Try.prog (method (n + 1) 83 (.agg #[.string s]) "loop.example/buildengine/impl.operands") w = .ok (76, .agg #[.string s]) w := by kernel_rfl
theorem mc_text (n : Nat) (s : ByteArray) (w : World) : Sem.run Try.prog (method (n + 1) 83 (.agg #[.string s]) "loop.example/buildengine/impl.combine") w = .ok (74, .agg #[.string s]) w := by kernel_rfl
theorem mw_read (n : Nat) (v : Value) (w : World) : Sem.run Try.prog (method (n + 1) 85 (.agg #[v]) "loop.example/buildengine/impl.write") w = .ok (82, .agg #[v]) w := by kernel_rfl
theorem mo_read (n : Nat) (t : TypeId) (x : Value) (w : World) : Sem.run Try.prog (method (n + 1) 85 (.agg #[.iface t x]) "loop.example/buildengine/impl.operands") w = .ok (73, .agg #[.iface t x]) w := by kernel_rfl
theorem mc_read (n : Nat) (v : Value) (w : World) : Sem.run Try.prog (method (n + 1) 85 (.agg #[v]) "loop.example/buildengine/impl.combine") w = .ok (79, .agg #[v]) w := by kernel_rfl
theorem mw_join (n : Nat) (v : Value) (w : World) : Sem.run Try.prog (method (n + 1) 75 (.agg #[v]) "loop.example/buildengine/impl.write") w = .ok (65, .agg #[v]) w := by kernel_rfl
theorem mo_join (n : Nat) (v : Value) (w : World) : Sem.run Try.prog (method (n + 1) 75 (.agg #[v]) "loop.example/buildengine/impl.operands") w = .ok (64, .agg #[v]) w := by kernel_rfl
theorem mc_join (n : Nat) (v : Value) (w : World) : Sem.run Try.prog (method (n + 1) 75 (.agg #[v]) "loop.example/buildengine/impl.combine") w = .ok (62, .agg #[v]) w := by kernel_rfl
theorem mw_same (n : Nat) (v v1 v2 v3 : Value) (w : World) : Sem.run Try.prog (method (n + 1) 77 (.agg #[v, v1, v2, v3]) "loop.example/buildengine/impl.write") w = .ok (72, .agg #[v, v1, v2, v3]) w := by kernel_rfl
theorem mo_same (n : Nat) (v v1 v2 v3 : Value) (w : World) : Sem.run Try.prog (method (n + 1) 77 (.agg #[v, v1, v2, v3]) "loop.example/buildengine/impl.operands") w = .ok (71, .agg #[v, v1, v2, v3]) w := by kernel_rfl
theorem mc_same (n : Nat) (v v1 v2 v3 : Value) (w : World) : Sem.run Try.prog (method (n + 1) 77 (.agg #[v, v1, v2, v3]) "loop.example/buildengine/impl.combine") w = .ok (69, .agg #[v, v1, v2, v3]) w := by kernel_rfl
theorem mw_first (n : Nat) (v : Value) (w : World) : Sem.run Try.prog (method (n + 1) 86 (.agg #[v]) "loop.example/buildengine/impl.write") w = .ok (86, .agg #[v]) w := by kernel_rfl
theorem mo_first (n : Nat) (t : TypeId) (x : Value) (w : World) : Sem.run Try.prog (method (n + 1) 86 (.agg #[.iface t x]) "loop.example/buildengine/impl.operands") w = .ok (73, .agg #[.iface t x]) w := by kernel_rfl
theorem mc_first (n : Nat) (v : Value) (w : World) : Sem.run Try.prog (method (n + 1) 86 (.agg #[v]) "loop.example/buildengine/impl.combine") w = .ok (84, .agg #[v]) w := by kernel_rfl
theorem mw_rest (n : Nat) (v : Value) (w : World) : Sem.run Try.prog (method (n + 1) 87 (.agg #[v]) "loop.example/buildengine/impl.write") w = .ok (89, .agg #[v]) w := by kernel_rfl
theorem mo_rest (n : Nat) (t : TypeId) (x : Value) (w : World) : Sem.run Try.prog (method (n + 1) 87 (.agg #[.iface t x]) "loop.example/buildengine/impl.operands") w = .ok (73, .agg #[.iface t x]) w := by kernel_rfl
theorem mc_rest (n : Nat) (v : Value) (w : World) : Sem.run Try.prog (method (n + 1) 87 (.agg #[v]) "loop.example/buildengine/impl.combine") w = .ok (87, .agg #[v]) w := by kernel_rfl
theorem mw_count (n : Nat) (v : Value) (w : World) : Sem.run Try.prog (method (n + 1) 88 (.agg #[v]) "loop.example/buildengine/impl.write") w = .ok (92, .agg #[v]) w := by kernel_rfl
theorem mo_count (n : Nat) (t : TypeId) (x : Value) (w : World) : Sem.run Try.prog (method (n + 1) 88 (.agg #[.iface t x]) "loop.example/buildengine/impl.operands") w = .ok (73, .agg #[.iface t x]) w := by kernel_rfl
theorem mc_count (n : Nat) (v : Value) (w : World) : Sem.run Try.prog (method (n + 1) 88 (.agg #[v]) "loop.example/buildengine/impl.combine") w = .ok (90, .agg #[v]) w := by kernel_rfl
end Go.Proofs.Ytfpdeoicalofdaa
