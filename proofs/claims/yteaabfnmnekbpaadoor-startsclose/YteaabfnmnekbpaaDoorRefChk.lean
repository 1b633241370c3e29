/-
  What the call MachineFault (riddleref) answers for every machine: what it is refused for, as Check (epc); it turns nothing that was in memory. The condition: the machine's cells are there.
-/
import Derived.Test.YteaabfnmnekbpaaDoorChk
namespace Go.Proofs.YteaabfnmnekbpaaDoor
open Go.RowKit

/-! The mathematics of the three loops. -/
theorem all_take {α : Type} [Inhabited α] (p : α → Bool) (xs : List α) (k : Nat) (h : k < xs.length) : (xs.take (k + 1)).all p = ((xs.take k).all p && p (xs.getD k default)) := by
  rw [List.take_add_one, List.all_append]
  simp [List.getD_eq_getElem?_getD, h]
theorem any_take {α : Type} [Inhabited α] (p : α → Bool) (xs : List α) (k : Nat) (h : k < xs.length) : (xs.take (k + 1)).any p = ((xs.take k).any p || p (xs.getD k default)) := by
  rw [List.take_add_one, List.any_append]
  simp [List.getD_eq_getElem?_getD, h]
/-- may the frame number i be? -/
def frOk (ens : List En) (frs : List Fr) (i : Nat) : Bool := Fr.good ens (frs.getD i default) && !twAt frs i
theorem frOk_all (ens : List En) (frs : List Fr) : (List.range frs.length).all (frOk ens frs) = (!frs.any (fun f => !Fr.good ens f) && !twins frs) := by
  rw [Bool.eq_iff_iff]
  simp only [List.all_eq_true, Bool.and_eq_true, Bool.not_eq_true', List.any_eq_false, twins, frOk, List.mem_range]
  constructor
  · intro h
    refine ⟨fun x hx => ?_, fun j hj => by simp [(h j hj).2]⟩
    obtain ⟨i, hi, rfl⟩ := List.getElem_of_mem hx
    have := (h i hi).1
    simp [List.getD_eq_getElem?_getD, hi] at this
    simp [this]
  · rintro ⟨h1, h2⟩ i hi
    have a := h1 _ (List.getElem_mem hi)
    have b := h2 i hi
    simp at a b
    simp [List.getD_eq_getElem?_getD, hi, a, b]
theorem range_all (p : Nat → Bool) (k : Nat) : (List.range (k + 1)).all p = ((List.range k).all p && p k) := by
  rw [List.range_succ, List.all_append]; simp
theorem range_all_le (p : Nat → Bool) {k n : Nat} (h : k ≤ n) (hk : (List.range k).all p = false) : (List.range n).all p = false := by
  rw [List.all_eq_false] at hk ⊢
  obtain ⟨x, hx, h2⟩ := hk
  exact ⟨x, by simp at hx ⊢; omega, h2⟩
theorem machF_eq {M : Mv} (s1 : M.frs.length = 24) (s2 : M.ens.length = 4) (s3 : M.qus.length ≤ 40) :
    machF M = if (M.ens.all En.good && (List.range 24).all (frOk M.ens M.frs) && M.qus.all Qu.good) = true then 0 else 8 := by
  unfold machF
  rw [if_pos ⟨s1, s2, s3⟩, ← s1, frOk_all]
  have e1 : ∀ {α : Type} (p : α → Bool) (l : List α), l.all p = !l.any (fun x => !p x) := fun p l => by
    rw [Bool.eq_iff_iff]; simp
  rw [e1 En.good, e1 Qu.good]
  generalize M.ens.any (fun x => !En.good x) = a
  generalize M.frs.any (fun f => !Fr.good M.ens f) = b
  generalize M.qus.any (fun x => !Qu.good x) = c
  generalize twins M.frs = d
  cases a <;> cases b <;> cases c <;> cases d <;> rfl

end Go.Proofs.YteaabfnmnekbpaaDoor
