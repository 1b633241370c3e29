/-
  The variables of a call that holds a machine (own work): the argument's and the answer's, as blocks of memory. No condition.
-/
import Derived.Test.YtdbbiibnhgcndaaDoorPoke
namespace Go.Proofs.YtdbbiibnhgcndaaDoor
open Go.RowKit

theorem box_cells {w : World} {b : Nat} {x y z : Value} {t : TypeId} (h : w.heap[b]? = some (.cells #[x, y, z] t (0, 0))) :
    w.cell? ⟨b, 0, none⟩ = some x ∧ w.cell? ⟨b, 1, none⟩ = some y ∧ w.cell? ⟨b, 2, none⟩ = some z ∧ w.frozen? ⟨b, 0, none⟩ = false ∧ w.frozen? ⟨b, 1, none⟩ = false ∧ w.frozen? ⟨b, 2, none⟩ = false ∧ b < w.heap.size := by
  refine ⟨by simp [World.cell?, h], by simp [World.cell?, h], by simp [World.cell?, h], frozen_of_block h 0, frozen_of_block h 1, frozen_of_block h 2, (Array.getElem?_eq_some_iff.1 h).1⟩
theorem boxes_blk (w : World) (a b c : Value) : ∀ w1, Below ((w.alloc (.cells #[a, b, c] 51)).alloc (.cells #[.slice none 0 0, .slice none 0 0, .slice none 0 0] 51)).heap.size ((w.alloc (.cells #[a, b, c] 51)).alloc (.cells #[.slice none 0 0, .slice none 0 0, .slice none 0 0] 51)) w1 →
      w1.heap[w.heap.size]? = some (.cells #[a, b, c] 51 (0, 0)) ∧ w1.heap[w.heap.size + 1]? = some (.cells #[.slice none 0 0, .slice none 0 0, .slice none 0 0] 51 (0, 0)) := fun w1 hb => by
  refine ⟨(hb.block _ (by simp; omega)).trans (a21 _ _ _), (hb.block _ (by simp)).trans (a22 _ _ _)⟩
theorem box_alloc (w : World) (o : Obj) : (w.alloc o).heap[w.heap.size]? = some o := a11 _ _
/-- a log, with a text behind it -/
def En.withLog (e : En) (s : ByteArray) : En := { e with log := e.log ++ s }

end Go.Proofs.YtdbbiibnhgcndaaDoor
