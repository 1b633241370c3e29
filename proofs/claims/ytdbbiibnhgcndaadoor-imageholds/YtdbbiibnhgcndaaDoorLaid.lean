/-
  The library's three tables as the program's text lays them, and what a row that lists them gives: the table of powers of ten (own work). No condition.
-/
import Derived.Test.YtdbbiibnhgcndaaDoorEntry
import Derived.Test.YtdbbiibnhgcndaaDoorCards
import Derived.Test.YtdbbiibnhgcndaaDoorTie
import Derived.ProofKit
import Derived.OpenShut
import Derived.Deep.DeepHandedRow
import Derived.Lib.LaidTab
import Derived.Stop.LaidErr
namespace Go.Proofs.YtdbbiibnhgcndaaDoor
open Go.ChangeShapes Go.WideShapes Go.ChangeAt Go.RowKit

theorem tab_global : Tryd.prog.globalNamed "internal/strconv.uint64pow10" = some 0 := by kernel_rfl
theorem tab_type : (Tryd.prog.globals[0]?).map (·.type) = some 121 := by kernel_rfl
theorem tab_cells : Tryd.prog.cellsOf 121 = 20 := by kernel_rfl
theorem tab_cell : Tryd.prog.cellsOf 114 = 1 := by kernel_rfl

/-- what the rows of this seat list -/
abbrev listed : List (String × DataW Unit) := [("math/bits.deBruijn32tab", Rows.laid_math_bits_deBruijn32tab), ("math/bits.deBruijn64tab", Rows.laid_math_bits_deBruijn64tab), ("internal/strconv.uint64pow10", Rows.laid_internal_strconv_uint64pow10)]

theorem tab_of {W : World} (h : laidMetH Tryd.prog listed W) : Tab W := by
  have h' : laidMet Tryd.prog listed W := h
  exact Lib.tabIs_of_head (k := .u64) (zs := Lib.pow10Tab) (rest := []) tab_global tab_type Tryd.underlying121 Tryd.underlying114 tab_cell tab_cells h'.tail.tail

/-- the whole numbers of a table's datum, as cells -/
def cellsOf (d : DataW Unit) : Array Value := match d with
  | .agg l => (l.map fun | .lit (.int k z) => Value.int k z | _ => .bool false).toArray
  | _ => #[]

/-- a block with other cells -/
def relay (cs : Array Value) : Obj → Obj
  | .cells _ t frozen => .cells cs t frozen
  | o => o
/-- a world in which the tables lie as the text lays them -/
noncomputable def laidWorld (os : Os) : World :=
  { World.holding Tryd.prog os ⟨#[], #[], []⟩ with heap := (((World.holding Tryd.prog os ⟨#[], #[], []⟩).heap.modify 0 (relay (cellsOf Rows.laid_internal_strconv_uint64pow10))).modify 1 (relay (cellsOf Rows.laid_math_bits_deBruijn32tab))).modify 2 (relay (cellsOf Rows.laid_math_bits_deBruijn64tab)) }

end Go.Proofs.YtdbbiibnhgcndaaDoor
