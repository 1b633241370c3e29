/-
  What slices.IndexFunc and slices.ContainsFunc answer at a list (the mathematics alone): the first element, or whether there is one, of which the function that is handed in answers true. The condition: what that function answers.
-/
import Derived.Test.YtdbbiibnhgcndaaDoorMach
namespace Go.Proofs.YtdbbiibnhgcndaaDoor
open Go.RowKit

/-- the first one, or -1 -/
def idxOf {α : Type} (p : α → Bool) (xs : List α) : Int := match xs.findIdx? p with | some i => i | none => -1
theorem snoc_false {α : Type} [Inhabited α] {p : α → Bool} {xs : List α} {k : Nat} (h : Hid (∀ j, j < k → p (xs.getD j default) = false)) (hg : p (xs.getD k default) = false) :
    Hid (∀ j, j < k + 1 → p (xs.getD j default) = false) := fun j hj => by
  by_cases e : j < k
  · exact h.out j e
  · have : j = k := by omega
    subst this; exact hg
theorem idxOf_at {α : Type} [Inhabited α] {p : α → Bool} {xs : List α} {k : Nat} (hk : k < xs.length) (h : ∀ j, j < k → p (xs.getD j default) = false) (hg : p (xs.getD k default) = true) : idxOf p xs = (k : Int) := by
  have : xs.findIdx? p = some k := by
    rw [List.findIdx?_eq_some_iff_getElem]
    refine ⟨hk, by simpa [List.getD_eq_getElem?_getD, hk] using hg, fun j hj => ?_⟩
    have := h j hj
    simp [List.getD_eq_getElem?_getD, show j < xs.length by omega] at this
    simp [this]
  simp [idxOf, this]
theorem idxOf_none {α : Type} [Inhabited α] {p : α → Bool} {xs : List α} (h : ∀ j, j < xs.length → p (xs.getD j default) = false) : idxOf p xs = -1 := by
  have : xs.findIdx? p = none := by
    rw [List.findIdx?_eq_none_iff]
    intro x hx
    obtain ⟨i, hi, rfl⟩ := List.getElem_of_mem hx
    have := h i hi
    simpa [List.getD_eq_getElem?_getD, hi] using this
  simp [idxOf, this]
theorem idxOf_any {α : Type} (p : α → Bool) (xs : List α) : decide (0 ≤ idxOf p xs) = xs.any p := by
  unfold idxOf
  cases h : xs.findIdx? p with
  | none =>
    rw [List.findIdx?_eq_none_iff] at h
    have : xs.any p = false := by rw [List.any_eq_false]; intro x hx; simp [h x hx]
    simp [this]
  | some i =>
    obtain ⟨hi, hp, _⟩ := List.findIdx?_eq_some_iff_getElem.1 h
    have : xs.any p = true := List.any_eq_true.2 ⟨_, List.getElem_mem hi, hp⟩
    simp [this]

end Go.Proofs.YtdbbiibnhgcndaaDoor
