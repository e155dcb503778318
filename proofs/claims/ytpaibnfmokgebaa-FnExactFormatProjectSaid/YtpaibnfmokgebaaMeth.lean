/-
  The methods of the nodes, as a dynamic call finds them.
-/
import Derived.Test.YtpaibnfmokgebaaProg
import Derived.Test.YtpaibnfmokgebaaBase
import Derived.KernelRfl
namespace Go.Proofs.Ytpaibnfmokgebaa
set_option linter.unusedVariables false
open Go.RowKit

theorem mw_text (n : Nat) (s : ByteArray) (w : World) : Sem.run Try.prog (method (n + 1) 118 (.agg #[.string s]) "loop.example/buildengine/impl.write") w = .ok (104, .agg #[.string s]) w := by kernel_rfl
theorem mo_text (n : Nat) (s : ByteArray) (w : World) : Sem.run Try.prog (method (n + 1) 118 (.agg #[.string s]) "loop.example/buildengine/impl.operands") w = .ok (103, .agg #[.string s]) w := by kernel_rfl
theorem mc_text (n : Nat) (s : ByteArray) (w : World) : Sem.run Try.prog (method (n + 1) 118 (.agg #[.string s]) "loop.example/buildengine/impl.combine") w = .ok (101, .agg #[.string s]) w := by kernel_rfl
theorem mw_read (n : Nat) (v : Value) (w : World) : Sem.run Try.prog (method (n + 1) 120 (.agg #[v]) "loop.example/buildengine/impl.write") w = .ok (108, .agg #[v]) w := by kernel_rfl
theorem mo_read (n : Nat) (t : TypeId) (x : Value) (w : World) : Sem.run Try.prog (method (n + 1) 120 (.agg #[.iface t x]) "loop.example/buildengine/impl.operands") w = .ok (100, .agg #[.iface t x]) w := by kernel_rfl
theorem mc_read (n : Nat) (v : Value) (w : World) : Sem.run Try.prog (method (n + 1) 120 (.agg #[v]) "loop.example/buildengine/impl.combine") w = .ok (105, .agg #[v]) w := by kernel_rfl
theorem mw_join (n : Nat) (v : Value) (w : World) : Sem.run Try.prog (method (n + 1) 110 (.agg #[v]) "loop.example/buildengine/impl.write") w = .ok (94, .agg #[v]) w := by kernel_rfl
theorem mo_join (n : Nat) (v : Value) (w : World) : Sem.run Try.prog (method (n + 1) 110 (.agg #[v]) "loop.example/buildengine/impl.operands") w = .ok (93, .agg #[v]) w := by kernel_rfl
theorem mc_join (n : Nat) (v : Value) (w : World) : Sem.run Try.prog (method (n + 1) 110 (.agg #[v]) "loop.example/buildengine/impl.combine") w = .ok (91, .agg #[v]) w := by kernel_rfl
theorem mw_same (n : Nat) (v v1 v2 v3 : Value) (w : World) : Sem.run Try.prog (method (n + 1) 112 (.agg #[v, v1, v2, v3]) "loop.example/buildengine/impl.write") w = .ok (99, .agg #[v, v1, v2, v3]) w := by kernel_rfl
theorem mo_same (n : Nat) (v v1 v2 v3 : Value) (w : World) : Sem.run Try.prog (method (n + 1) 112 (.agg #[v, v1, v2, v3]) "loop.example/buildengine/impl.operands") w = .ok (98, .agg #[v, v1, v2, v3]) w := by kernel_rfl
theorem mc_same (n : Nat) (v v1 v2 v3 : Value) (w : World) : Sem.run Try.prog (method (n + 1) 112 (.agg #[v, v1, v2, v3]) "loop.example/buildengine/impl.combine") w = .ok (96, .agg #[v, v1, v2, v3]) w := by kernel_rfl
theorem mw_first (n : Nat) (v : Value) (w : World) : Sem.run Try.prog (method (n + 1) 121 (.agg #[v]) "loop.example/buildengine/impl.write") w = .ok (112, .agg #[v]) w := by kernel_rfl
theorem mo_first (n : Nat) (t : TypeId) (x : Value) (w : World) : Sem.run Try.prog (method (n + 1) 121 (.agg #[.iface t x]) "loop.example/buildengine/impl.operands") w = .ok (100, .agg #[.iface t x]) w := by kernel_rfl
theorem mc_first (n : Nat) (v : Value) (w : World) : Sem.run Try.prog (method (n + 1) 121 (.agg #[v]) "loop.example/buildengine/impl.combine") w = .ok (110, .agg #[v]) w := by kernel_rfl
theorem mw_rest (n : Nat) (v : Value) (w : World) : Sem.run Try.prog (method (n + 1) 122 (.agg #[v]) "loop.example/buildengine/impl.write") w = .ok (115, .agg #[v]) w := by kernel_rfl
theorem mo_rest (n : Nat) (t : TypeId) (x : Value) (w : World) : Sem.run Try.prog (method (n + 1) 122 (.agg #[.iface t x]) "loop.example/buildengine/impl.operands") w = .ok (100, .agg #[.iface t x]) w := by kernel_rfl
theorem mc_rest (n : Nat) (v : Value) (w : World) : Sem.run Try.prog (method (n + 1) 122 (.agg #[v]) "loop.example/buildengine/impl.combine") w = .ok (113, .agg #[v]) w := by kernel_rfl
theorem mw_count (n : Nat) (v : Value) (w : World) : Sem.run Try.prog (method (n + 1) 123 (.agg #[v]) "loop.example/buildengine/impl.write") w = .ok (118, .agg #[v]) w := by kernel_rfl
theorem mo_count (n : Nat) (t : TypeId) (x : Value) (w : World) : Sem.run Try.prog (method (n + 1) 123 (.agg #[.iface t x]) "loop.example/buildengine/impl.operands") w = .ok (100, .agg #[.iface t x]) w := by kernel_rfl
theorem mc_count (n : Nat) (v : Value) (w : World) : Sem.run Try.prog (method (n + 1) 123 (.agg #[v]) "loop.example/buildengine/impl.combine") w = .ok (116, .agg #[v]) w := by kernel_rfl
end Go.Proofs.Ytpaibnfmokgebaa
