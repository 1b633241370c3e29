/-
  A page of an enclave among the frames of a machine that may be (own work): where it is, and that it may be measured. No condition.
-/
import Derived.Test.YtdbbiibnhgcndaaDoorPutMath
namespace Go.Proofs.YtdbbiibnhgcndaaDoor
open Go.RowKit

theorem place_cases (frs : List Fr) (e a : Int) : placeOf frs e a = -1 ∨ ∃ k : Nat, placeOf frs e a = (k : Int) ∧ k < frs.length ∧ plB e a (frs.getD k default) = true := by
  unfold placeOf idxOf
  cases h : frs.findIdx? (plB e a) with
  | none => left; rfl
  | some i =>
    right
    obtain ⟨h1, h2, h3⟩ := List.findIdx?_eq_some_iff_getElem.1 h
    exact ⟨i, rfl, h1, by simpa [List.getD_eq_getElem?_getD, h1] using h2⟩
theorem place_page {M : Mv} (hz : machF M = 0) {e a : Int} {k : Nat} (hk : k < 24) (h : plB e a (M.frs.getD k default) = true) : inB a 0 7 = true ∧ mayW (M.frs.getD k default).ws = true := by
  have hg := machF_frame hz hk
  have hw := (machF_words hz hk).2.1
  refine ⟨?_, hw⟩
  generalize M.frs.getD k default = P at hg h
  obtain ⟨o, fat, r, fa, ws, fcap⟩ := P
  simp only [plB, Bool.and_eq_true, beq_iff_eq] at h
  obtain ⟨_, rfl⟩ := h
  rw [good_eq] at hg
  simp only [Bool.and_eq_true] at hg
  exact hg.1.1.2
theorem meaM_log {M : Mv} {e a : Int} (hz : askF M e 1 = 0) (hp : ¬ placeOf M.frs e a < 0) : meaF M e a = logF M (e - 1).toNat (meaS M e a) ∧ meaM M e a = logM M (e - 1).toNat (meaS M e a) := by
  have h1 : meaF M e a = logF M (e - 1).toNat (meaS M e a) := by unfold meaF; rw [if_pos hz, if_neg hp]
  exact ⟨h1, by unfold meaM logM; rw [h1]⟩

end Go.Proofs.YtdbbiibnhgcndaaDoor
