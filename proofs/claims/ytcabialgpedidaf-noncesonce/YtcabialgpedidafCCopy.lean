/-
  What the call ChallengerCopy (riddleref) answers for every challenger: one that holds the same, in memory of its own; nothing that was in memory turns. The condition: the lists are within the reach of the form.
-/
import Derived.Test.YtcabialgpedidafCopyC
namespace Go.Proofs.Ytcabialgpedidaf
open Go.RowKit

theorem bp_gen {P : Program} {f : Func} {Q : Ending → World → Prop} {ex : Exit} {a : Act} {W : World} (h : ∀ W9, W9 = W → bodyPost P f Q ex a W9) : bodyPost P f Q ex a W := h W rfl
theorem row_made {n0 g cap n : Nat} {w : World} {e : TypeId} {xs zs : List Value} (hn : n0 ≤ g) (hg : w.heap[g]? = some (.cells (xs ++ zs).toArray e (0, 0))) (hx : xs.length = n) (hc : n ≤ cap ∧ (xs ++ zs).length = cap * 1 ∧ cap ≤ maxLen) : w.ownsRow n0 e 1 (.slice (some ⟨g, 0, none⟩) n cap) n xs :=
  row_of_block hn hg hx hc.1 hc.2.2 (by have := hc.2.1; omega)
theorem drew2 {W : World} : W.drew.heap = W.heap := rfl
def sets (W : World) (R : Nat) (v0 v1 : Value) : World := (W.setCell ⟨R, 0, none⟩ v0).setCell ⟨R, 1, none⟩ v1
theorem sets_size (W : World) (R : Nat) (v0 v1 : Value) : (sets W R v0 v1).heap.size = W.heap.size := by simp [sets, World.setCell]
theorem sets_cells {W : World} {R : Nat} {v0 v1 x0 x1 : Value} (h0 : W.cell? ⟨R, 0, none⟩ = some x0) (h1 : W.cell? ⟨R, 1, none⟩ = some x1) : (sets W R v0 v1).cell? ⟨R, 0, none⟩ = some v0 ∧ (sets W R v0 v1).cell? ⟨R, 1, none⟩ = some v1 := by
  refine ⟨?_, ?_⟩
  · unfold sets
    rw [World.cell?_setCell_other _ _ _ _ (by simp)]
    exact World.cell?_setCell_same _ _ _ h0
  · exact World.cell?_setCell_same _ _ _ ((World.cell?_setCell_other _ _ _ _ (by simp)).trans h1)
theorem blk2 {w : World} {b : Nat} {v0 v1 x0 x1 : Value} (h0 : w.cell? ⟨b, 0, none⟩ = some x0) (h1 : w.cell? ⟨b, 1, none⟩ = some x1) :
    ((w.setCell ⟨b, 0, none⟩ v0).setCell ⟨b, 1, none⟩ v1).cell? ⟨b, 0, none⟩ = some v0 ∧ ((w.setCell ⟨b, 0, none⟩ v0).setCell ⟨b, 1, none⟩ v1).cell? ⟨b, 1, none⟩ = some v1 := sets_cells h0 h1
theorem sets_below {w W : World} {B R : Nat} {v0 v1 : Value} (hR : B ≤ R) (h : Below B w W) : Below B w (sets W R v0 v1) := (h.setCell (by simpa using hR) _).setCell (by simpa using hR) _
theorem heap_cell {W W' : World} (h : W'.heap = W.heap) (a : Addr) : W'.cell? a = W.cell? a := by simp only [World.cell?, h]
theorem two0 {w W W9 : World} {R : Nat} {v0 v1 x0 x1 : Value} (hR : w.heap.size ≤ R) (h0 : W.cell? ⟨R, 0, none⟩ = some x0) (h1 : W.cell? ⟨R, 1, none⟩ = some x1) (hb : Below w.heap.size w W) (h9 : W9 = (sets W R v0 v1).drew) :
    W9.cell? ⟨R, 0, none⟩ = some v0 ∧ W9.cell? ⟨R, 1, none⟩ = some v1 ∧ Below w.heap.size w W9 := by
  subst h9
  exact ⟨(sets_cells h0 h1).1, (sets_cells h0 h1).2, (sets_below hR hb).drew⟩
theorem two1 {w W W9 : World} {R : Nat} {v0 v1 x0 x1 : Value} {o1 : Obj} (hR : w.heap.size ≤ R) (h0 : W.cell? ⟨R, 0, none⟩ = some x0) (h1 : W.cell? ⟨R, 1, none⟩ = some x1) (hb : Below w.heap.size w W) (h9 : W9 = ((sets W R v0 v1).alloc o1).drew.drew) :
    W9.cell? ⟨R, 0, none⟩ = some v0 ∧ W9.cell? ⟨R, 1, none⟩ = some v1 ∧ W9.heap[W.heap.size]? = some o1 ∧ Below w.heap.size w W9 := by
  subst h9
  have lt : R < (sets W R v0 v1).heap.size := by rw [sets_size]; exact lt_of_cell h0
  refine ⟨(World.cell?_alloc_past _ _ _ lt).trans (sets_cells h0 h1).1, (World.cell?_alloc_past _ _ _ lt).trans (sets_cells h0 h1).2, ?_, (((sets_below hR hb).alloc (by rw [sets_size]; exact hb.size) _).drew).drew⟩
  have := a11 (sets W R v0 v1) o1
  rw [sets_size] at this
  exact this
theorem two2 {w W W9 : World} {R : Nat} {v0 v1 x0 x1 : Value} {o1 o2 : Obj} (hR : w.heap.size ≤ R) (h0 : W.cell? ⟨R, 0, none⟩ = some x0) (h1 : W.cell? ⟨R, 1, none⟩ = some x1) (hb : Below w.heap.size w W) (h9 : W9 = (((sets W R v0 v1).alloc o1).alloc o2).drew.drew.drew) :
    W9.cell? ⟨R, 0, none⟩ = some v0 ∧ W9.cell? ⟨R, 1, none⟩ = some v1 ∧ W9.heap[W.heap.size]? = some o1 ∧ W9.heap[W.heap.size + 1]? = some o2 ∧ Below w.heap.size w W9 := by
  subst h9
  have lt : R < (sets W R v0 v1).heap.size := by rw [sets_size]; exact lt_of_cell h0
  refine ⟨(World.cell?_alloc_past _ _ _ (by simp; omega)).trans ((World.cell?_alloc_past _ _ _ lt).trans (sets_cells h0 h1).1), (World.cell?_alloc_past _ _ _ (by simp; omega)).trans ((World.cell?_alloc_past _ _ _ lt).trans (sets_cells h0 h1).2), ?_, ?_, ((((sets_below hR hb).alloc (by rw [sets_size]; exact hb.size) _).alloc (by have := hb.size; simp [sets_size]; omega) _).drew.drew).drew⟩
  · have := a21 (sets W R v0 v1) o1 o2
    rw [sets_size] at this
    exact this
  · have := a22 (sets W R v0 v1) o1 o2
    rw [sets_size] at this
    exact this

end Go.Proofs.Ytcabialgpedidaf
