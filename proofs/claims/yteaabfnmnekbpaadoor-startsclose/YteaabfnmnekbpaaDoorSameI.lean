/-
  What the call sameInts (riddlelaw) answers where both lists hold the same: true; it turns nothing but the count of draws. The condition: the cells are there.
-/
import Derived.Test.YteaabfnmnekbpaaDoorSmall
import Derived.Deep.QuietTactic
import Derived.BigQuiet
namespace Go.Proofs.YteaabfnmnekbpaaDoor
open Go.RowKit

theorem Ints.drewN {w : World} {a : Option Addr} {xs : List Int} (h : Ints w a xs) (n : Nat) : Ints (w.drewN n) a xs := h.below (below_drewN (Below.refl _ _) n)

end Go.Proofs.YteaabfnmnekbpaaDoor
