/-
  What the call LookedOf (riddleref) answers: the nonce is back, or what is refused, in memory of its own; it turns nothing that was in memory. The condition: the lists are within the reach of the form.
-/
import Derived.Test.YtcabialgpedidafLook
import Derived.Deep.QuietTactic
import Derived.BigQuiet
namespace Go.Proofs.Ytcabialgpedidaf
open Go.RowKit

theorem any_take {α : Type} [Inhabited α] (p : α → Bool) (xs : List α) (k : Nat) (hk : k < xs.length) : (xs.take (k + 1)).any p = ((xs.take k).any p || p (xs.getD k default)) := by
  rw [List.take_add_one, List.any_append]
  simp [List.getD_eq_getElem?_getD, hk]
theorem any_whole {α : Type} (p : α → Bool) (xs : List α) : (xs.take xs.length).any p = xs.any p := by rw [List.take_length]

end Go.Proofs.Ytcabialgpedidaf
