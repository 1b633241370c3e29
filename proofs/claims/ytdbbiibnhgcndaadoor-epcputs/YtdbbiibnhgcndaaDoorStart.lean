/-
  What the calls Start (epc) and StartedOf (riddleref) answer for every machine and enclave: both what the document asks, in memory of their own; they turn nothing that was in memory. The condition: the lists are within the reach of the form.
-/
import Derived.Test.YtdbbiibnhgcndaaDoorEnc
import Derived.Test.YtdbbiibnhgcndaaDoorCopyM
import Derived.Test.YtdbbiibnhgcndaaDoorMCopy
namespace Go.Proofs.YtdbbiibnhgcndaaDoor
open Go.RowKit

/-- no machine -/
def noM : Mv := ⟨none, [], 0, none, [], 0, none, [], 0⟩
theorem noM_at (w : World) : MachAt w noM := ⟨.inl rfl, Nat.zero_le _, Nat.zero_le _, fun j hj => absurd hj (by simp [noM]), .inl rfl, Nat.zero_le _, fun j hj => absurd hj (by simp [noM]), .inl rfl, Nat.zero_le _, fun j hj => absurd hj (by simp [noM])⟩
theorem noM_own (n0 : Nat) (w : World) : Owned n0 w noM :=
  ⟨noM_at w, fun b o s e => (by cases e), fun b o s e => (by cases e), fun b o s e => (by cases e), fun j hj => absurd hj (by simp [noM]), off_none, off_none, off_none, fun j hj => absurd hj (by simp [noM]), fun j hj => absurd hj (by simp [noM]), fun j hj => absurd hj (by simp [noM]), fun i j hi => absurd hi (by simp [noM])⟩
def startM (M : Mv) (e : Int) : Mv := if askF M e 1 = 0 then { M with ens := M.ens.set (e - 1).toNat { M.ens.getD (e - 1).toNat default with st := 2 } } else noM
theorem startM_same {M N : Mv} (h : M.Same N) (e : Int) : (startM M e).Same (startM N e) := by
  unfold startM
  rw [askF_same h, h.en]
  split
  · exact ⟨h.len, h.fr, rfl, h.qu⟩
  · exact Mv.Same.refl _
theorem fits_same {M N : Mv} (h : M.Fits) (hs : N.Same M) : N.Fits :=
  ⟨by rw [hs.len]; exact h.fr, fun j hj => by rw [(hs.fr j hj).2.2.2]; exact h.ws j (by rw [← hs.len]; exact hj), by rw [hs.en]; exact h.en, by rw [hs.qu]; exact h.qu⟩
theorem box3 {x v : World} {a b c : Value} {t : TypeId} (h : Below (x.alloc (.cells #[a, b, c] t)).heap.size (x.alloc (.cells #[a, b, c] t)) v) :
    v.cell? ⟨x.heap.size, 0, none⟩ = some a ∧ v.cell? ⟨x.heap.size, 1, none⟩ = some b ∧ v.cell? ⟨x.heap.size, 2, none⟩ = some c ∧ x.heap.size < v.heap.size := by
  refine ⟨(h.cell (p := ⟨x.heap.size, 0, none⟩) (by simp)).trans ?_, (h.cell (p := ⟨x.heap.size, 1, none⟩) (by simp)).trans ?_, (h.cell (p := ⟨x.heap.size, 2, none⟩) (by simp)).trans ?_, by have := h.size; simp at this; omega⟩
  · rw [World.cell?_alloc_at _ _ _ _ rfl]; rfl
  · rw [World.cell?_alloc_at _ _ _ _ rfl]; rfl
  · rw [World.cell?_alloc_at _ _ _ _ rfl]; rfl
theorem blk3 {w : World} {b : Nat} {v0 v1 v2 x0 x1 x2 : Value} (h0 : w.cell? ⟨b, 0, none⟩ = some x0) (h1 : w.cell? ⟨b, 1, none⟩ = some x1) (h2 : w.cell? ⟨b, 2, none⟩ = some x2) :
    (((w.setCell ⟨b, 0, none⟩ v0).setCell ⟨b, 1, none⟩ v1).setCell ⟨b, 2, none⟩ v2).cell? ⟨b, 0, none⟩ = some v0 ∧ (((w.setCell ⟨b, 0, none⟩ v0).setCell ⟨b, 1, none⟩ v1).setCell ⟨b, 2, none⟩ v2).cell? ⟨b, 1, none⟩ = some v1 ∧
      (((w.setCell ⟨b, 0, none⟩ v0).setCell ⟨b, 1, none⟩ v1).setCell ⟨b, 2, none⟩ v2).cell? ⟨b, 2, none⟩ = some v2 := by
  refine ⟨?_, ?_, ?_⟩
  · rw [World.cell?_setCell_other _ _ _ _ (by simp), World.cell?_setCell_other _ _ _ _ (by simp)]
    exact World.cell?_setCell_same _ _ _ h0
  · rw [World.cell?_setCell_other _ _ _ _ (by simp)]
    exact World.cell?_setCell_same _ _ _ ((World.cell?_setCell_other _ _ _ _ (by simp)).trans h1)
  · exact World.cell?_setCell_same _ _ _ ((World.cell?_setCell_other _ _ _ _ (by simp)).trans ((World.cell?_setCell_other _ _ _ _ (by simp)).trans h2))
theorem blk3_heap {w : World} {b : Nat} {v0 v1 v2 : Value} (c : Nat) (h : c ≠ b) : (((w.setCell ⟨b, 0, none⟩ v0).setCell ⟨b, 1, none⟩ v1).setCell ⟨b, 2, none⟩ v2).heap[c]? = w.heap[c]? := by
  rw [Below.heap_setCell _ _ _ _ h, Below.heap_setCell _ _ _ _ h, Below.heap_setCell _ _ _ _ h]
theorem blk3_below {w0 w : World} {b B : Nat} {v0 v1 v2 : Value} (h : Below B w0 w) (hb : B ≤ b) : Below B w0 (((w.setCell ⟨b, 0, none⟩ v0).setCell ⟨b, 1, none⟩ v1).setCell ⟨b, 2, none⟩ v2) :=
  ((h.setCell (by simpa using hb) _).setCell (by simpa using hb) _).setCell (by simpa using hb) _
theorem blk3_size {w : World} {b : Nat} {v0 v1 v2 : Value} : (((w.setCell ⟨b, 0, none⟩ v0).setCell ⟨b, 1, none⟩ v1).setCell ⟨b, 2, none⟩ v2).heap.size = w.heap.size := by simp [World.setCell]

end Go.Proofs.YtdbbiibnhgcndaaDoor
