/-
  The library's strings.Join, out of the library's own theorems, by a table of this program's numbers.
-/
import Derived.Test.YtgjanokaoiaaeaaProg
import Derived.Test.YtgjanokaoiaaeaaBase
import Derived.Shelf.Strings.OnBuilder
import Derived.KernelRfl
namespace Go.Proofs.Ytgjanokaoiaaeaa
set_option linter.unusedVariables false
open Go.Shelf Go.RowKit

def jren : Ren := ⟨fun | 143 => 81 | 144 => 80 | 156 => 60 | 165 => 68 | 166 => 59 | 167 => 61 | 169 => 44 | 217 => 83 | 219 => 82 | 224 => 85 | 225 => 84 | 240 => 67 | 241 => 76 | 266 => 87 | 267 => 86 | 276 => 75 | 277 => 79 | 314 => 88 | 347 => 89 | 348 => 90 | 349 => 91 | 350 => 92 | 351 => 93 | 352 => 94 | 353 => 95 | 354 => 96 | 355 => 97 | 356 => 98 | 357 => 99 | 358 => 100 | 359 => 101 | 360 => 102 | 361 => 103 | 362 => 105 | 366 => 133 | n => n,
  fun | 0 => 0 | 1 => 1 | 2 => 2 | 3 => 3 | 4 => 4 | 5 => 5 | 6 => 6 | 7 => 7 | 8 => 8 | 9 => 9 | 10 => 10 | 11 => 11 | 12 => 12 | 13 => 13 | 14 => 14 | 15 => 15 | 16 => 16 | 17 => 17 | 18 => 18 | 19 => 19 | 20 => 20 | 21 => 21 | 22 => 128 | 24 => 49 | 27 => 136 | 31 => 95 | 37 => 71 | 46 => 139 | 51 => 140 | 55 => 137 | 67 => 100 | 70 => 70 | 71 => 72 | 72 => 73 | 73 => 109 | 74 => 96 | 75 => 97 | 76 => 98 | 77 => 99 | 78 => 101 | 80 => 75 | 81 => 148 | 83 => 94 | 104 => 55 | 112 => 111 | 114 => 138 | 127 => 103 | 146 => 141 | 151 => 142 | 164 => 117 | 165 => 118 | 166 => 127 | 238 => 143 | 239 => 144 | 240 => 145 | 241 => 146 | 242 => 147 | 243 => 149 | 244 => 150 | 245 => 151 | 246 => 152 | 247 => 153 | 248 => 154 | 249 => 155 | n => n,
  fun | 1 => 0 | n => n⟩
theorem jn156 : Lays.n156 Try.prog jren := {
  mixed := by kernel_rfl,
  f156 := by kernel_rfl,
  f165 := by kernel_rfl,
  f166 := by kernel_rfl,
  f169 := by kernel_rfl,
  f240 := by kernel_rfl,
  f241 := by kernel_rfl,
  f276 := by kernel_rfl,
  f277 := by kernel_rfl,
  t0 := by kernel_rfl,
  a0 := fun _ => by kernel_rfl,
  z0 := fun _ => by kernel_rfl,
  v0 := fun _ => by kernel_rfl,
  t3 := by kernel_rfl,
  a3 := fun _ => by kernel_rfl,
  z3 := fun _ => by kernel_rfl,
  v3 := fun _ => by kernel_rfl,
  t4 := by kernel_rfl,
  a4 := fun _ => by kernel_rfl,
  z4 := fun _ => by kernel_rfl,
  v4 := fun _ => by kernel_rfl,
  t9 := by kernel_rfl,
  a9 := fun _ => by kernel_rfl,
  z9 := fun _ => by kernel_rfl,
  v9 := fun _ => by kernel_rfl,
  t20 := by kernel_rfl,
  a20 := fun _ => by kernel_rfl,
  z20 := fun _ => by kernel_rfl,
  v20 := fun _ => by kernel_rfl,
  t31 := by kernel_rfl,
  a31 := fun _ => by kernel_rfl,
  z31 := fun _ => by kernel_rfl,
  v31 := fun _ => by kernel_rfl,
  t37 := by kernel_rfl,
  a37 := fun _ => by kernel_rfl,
  z37 := fun _ => by kernel_rfl,
  v37 := fun _ => by kernel_rfl,
  t70 := by kernel_rfl,
  a70 := fun _ => by kernel_rfl,
  z70 := fun _ => by kernel_rfl,
  v70 := fun _ => by kernel_rfl,
  t72 := by kernel_rfl,
  a72 := fun _ => by kernel_rfl,
  z72 := fun _ => by kernel_rfl,
  v72 := fun _ => by kernel_rfl,
  t75 := by kernel_rfl,
  a75 := fun _ => by kernel_rfl,
  z75 := fun _ => by kernel_rfl,
  v75 := fun _ => by kernel_rfl,
  t76 := by kernel_rfl,
  a76 := fun _ => by kernel_rfl,
  z76 := fun _ => by kernel_rfl,
  v76 := fun _ => by kernel_rfl,
  t127 := by kernel_rfl,
  a127 := fun _ => by kernel_rfl,
  z127 := fun _ => by kernel_rfl,
  v127 := fun _ => by kernel_rfl,
  t164 := by kernel_rfl,
  a164 := fun _ => by kernel_rfl,
  z164 := fun _ => by kernel_rfl,
  v164 := fun _ => by kernel_rfl }
theorem jextra : Builder.Extra Try.prog jren := {
  sizeBuilder := by kernel_rfl,
  liesBuilder := by kernel_rfl,
  t5 := by kernel_rfl,
  a5 := fun _ => by kernel_rfl,
  z5 := fun _ => by kernel_rfl,
  v5 := fun _ => by kernel_rfl,
  infoByte := by kernel_rfl,
  cellsByte := by kernel_rfl,
  sizeByte := by kernel_rfl,
  neB5 := by decide }
theorem join_any (bk o c : Nat) (xs : List ByteArray) (sep : ByteArray) (w : World) (hcells : ∀ (j : Nat) x, xs[j]? = some x → w.cell? ⟨bk, o + j, none⟩ = some (.string x)) (hbk : bk < w.heap.size) (hN : xs.length ≤ 140737488355328) (hcap : xs.length ≤ c)
    (hlen : (Lib.join (xs.map (·.data.toList)) sep.data.toList).length ≤ 140737488355328) :
    Calls Try.prog 60 #[.slice (some ⟨bk, o, none⟩) xs.length c, .string sep] w fun e w' => e = .returned (.string ⟨(Lib.join (xs.map (·.data.toList)) sep.data.toList).toArray⟩) ∧ Below w.heap.size w w' := Any.strings_Join jn156 jextra bk o c xs sep w hcells hbk hN hcap hlen
theorem join_none (a : Option Addr) (c : Nat) (sep : ByteArray) (w : World) : Calls Try.prog 60 #[.slice a 0 c, .string sep] w fun e w' => e = .returned (.string ⟨#[]⟩) ∧ w' = w := Any.strings_Join_none jn156 jextra a c sep w
end Go.Proofs.Ytgjanokaoiaaeaa
