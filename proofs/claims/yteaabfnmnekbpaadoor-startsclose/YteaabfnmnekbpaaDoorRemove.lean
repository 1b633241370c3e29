/-
  What the calls Remove (epc) and RemovedOf (riddleref) answer for every machine and enclave: both what the document asks, in memory of their own; they turn nothing that was in memory. The condition: the lists are within the reach of the form.
-/
import Derived.Test.YteaabfnmnekbpaaDoorShared
import Derived.Test.YteaabfnmnekbpaaDoorOwnNew
namespace Go.Proofs.YteaabfnmnekbpaaDoor
open Go.RowKit

/-- the loop of Remove: the first k frames are done; the answer's variable, and the new machine's, are as they were -/
structure RemLoop (n1 : Nat) (w W4 wr : World) (s2 : Nat) (A M : Mv) (e : Int) (k : Nat) : Prop where
  fr : ∃ frs', Owned n1 wr { A with frs := frs' } ∧ RemTo { A with frs := frs' } M e k
  bel : Below w.heap.size w wr
  res : wr.heap[w.heap.size + 1]? = W4.heap[w.heap.size + 1]?
  box : wr.heap[s2]? = W4.heap[s2]?
  sz : W4.heap.size ≤ wr.heap.size
theorem RemLoop.drew {n1 : Nat} {w W4 wr : World} {s2 : Nat} {A M : Mv} {e : Int} {k : Nat} (h : RemLoop n1 w W4 wr s2 A M e k) : RemLoop n1 w W4 wr.drew s2 A M e k := by
  obtain ⟨frs', h1, h2⟩ := h.fr
  exact ⟨⟨frs', h1.keep (fun _ _ _ => rfl) (Nat.le_refl _), h2⟩, h.bel.drew, h.res, h.box, h.sz⟩

end Go.Proofs.YteaabfnmnekbpaaDoor
