/-
  What holds of a run's end (own work): the enclaves are as they were, the address and the registers may be, and so may the machine. No condition beside the run's own.
-/
import Derived.Test.YtjccpjfcdolafaaRunSteps
namespace Go.Proofs.Ytjccpjfcdolafaa
open Go.RowKit

theorem doR_ens (M : Mv) (m : Nat) (pc : Int) (rs : List Int) (x n : Int) (xr : Int → Int → Int) : (doR M m pc rs x n xr).M.ens = M.ens := by
  unfold doR
  repeat (first | (split; rfl) | split | rfl)
theorem stepR_ens (M : Mv) (m : Nat) (pc : Int) (rs : List Int) (xr : Int → Int → Int) : (stepR M m pc rs xr).M.ens = M.ens := by
  unfold stepR
  split
  · rfl
  · exact doR_ens _ _ _ _ _ _ _
theorem runR_ens : ∀ (k : Nat) (M : Mv) (m : Nat) (pc : Int) (rs : List Int) (xr : Int → Int → Int), (runR k M m pc rs xr).M.ens = M.ens
  | 0, _, _, _, _, _ => rfl
  | k + 1, M, m, pc, rs, xr => by
    unfold runR
    split
    · rw [runR_ens k]; exact stepR_ens _ _ _ _ _
    · exact stepR_ens _ _ _ _ _
theorem doR_stop {M : Mv} {m : Nat} {pc : Int} {rs : List Int} {x n : Int} {xr : Int → Int → Int} : (doR M m pc rs x n xr).nd = 0 ∨ ((doR M m pc rs x n xr).M = M ∧ (doR M m pc rs x n xr).rs = rs ∧ (doR M m pc rs x n xr).pc = pc + 2) := by
  unfold doR
  repeat (first | (split; first | exact .inl rfl | exact .inr ⟨rfl, rfl, rfl⟩) | split | exact .inl rfl | exact .inr ⟨rfl, rfl, rfl⟩)
theorem stepR_stop {M : Mv} {m : Nat} {pc : Int} {rs : List Int} {xr : Int → Int → Int} (h : ¬ (stepR M m pc rs xr).nd = 0) : (stepR M m pc rs xr).M = M ∧ (stepR M m pc rs xr).rs = rs ∧ ((stepR M m pc rs xr).pc = pc + 2 ∨ (stepR M m pc rs xr).pc = pc) := by
  unfold stepR at h ⊢
  split at h
  · rename_i q
    rw [if_pos q]
    exact ⟨rfl, rfl, .inr rfl⟩
  · rename_i q
    rw [if_neg q]
    rcases doR_stop (M := M) (m := m) (pc := pc) (rs := rs) (xr := xr) (x := wordAt M (frmF M.frs ((m : Int) + 1) pc 4) pc) (n := wordAt M (frmF M.frs ((m : Int) + 1) (pc + 1) 4) (pc + 1)) with q | ⟨a, b, c⟩
    · exact absurd q h
    · exact ⟨a, b, .inl c⟩
/-- what is left of a run may be -/
structure EndOk (R : Rn) (m : Nat) : Prop where
  good : Good R.M
  pc : 0 ≤ R.pc ∧ R.pc ≤ 65537
  held : R.nd = 2 → R.pc ≤ 65535
  len : R.rs.length = 4
  rs : ∀ i, 0 ≤ R.rs.getD i 0 ∧ R.rs.getD i 0 ≤ 65535
  st : (R.M.ens.getD m default).st ≠ 0
theorem stepR_two {M : Mv} {m : Nat} {pc : Int} {rs : List Int} {xr : Int → Int → Int} : ¬ (stepR M m pc rs xr).nd = 2 := by
  unfold stepR
  split
  · simp
  · unfold doR
    repeat (first | (split; simp) | split | simp)
theorem runR_end : ∀ (k : Nat) {M : Mv} {m : Nat} {pc : Int} {rs : List Int} (_ : RunOk M m pc rs), EndOk (runR k M m pc rs xorR) m
  | 0, M, m, pc, rs, h => ⟨h.good, ⟨h.pc.1, by have := h.pc.2; show pc ≤ 65537; omega⟩, fun _ => h.pc.2, h.len, h.rs, h.st⟩
  | k + 1, M, m, pc, rs, h => by
    by_cases hn : (stepR M m pc rs xorR).nd = 0
    · rw [runR_more hn]
      exact runR_end k (step_ok h (fun a b => xor_in a b) hn)
    · rw [runR_stop hn]
      obtain ⟨a, b, c⟩ := stepR_stop hn
      have hp := h.pc
      refine ⟨by rw [a]; exact h.good, by omega, fun q => absurd q stepR_two, by rw [b]; exact h.len, fun i => by rw [b]; exact h.rs i, by rw [a]; exact h.st⟩
theorem wf_run {n : Int} (h : 0 ≤ n ∧ n ≤ 1000000) : (Lit.int .i64 n).wf = true := by
  have h1 : IntKind.i64.min = -9223372036854775808 := rfl
  have h2 : IntKind.i64.max = 9223372036854775807 := rfl
  simp [Lit.wf, h1, h2]; omega

end Go.Proofs.Ytjccpjfcdolafaa
