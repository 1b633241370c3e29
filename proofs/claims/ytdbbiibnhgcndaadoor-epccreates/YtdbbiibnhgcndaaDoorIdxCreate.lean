/-
  What slices.IndexFunc and slices.ContainsFunc answer at the enclaves of a machine, for Create: the first element, or whether there is one, of which the function that is handed in answers true. The condition: what that function answers.
-/
import Derived.Test.YtdbbiibnhgcndaaDoorIdxBase
namespace Go.Proofs.YtdbbiibnhgcndaaDoor
open Go.RowKit

set_option maxHeartbeats 800000 in
theorem emp_index (a : Option Addr) (xs : List En) (cap : Nat) (p : En → Bool) (w : World) (hl : xs.length ≤ maxLen) (hx : RowsAt w 7 En.cells a xs)
    (hp : ∀ j, j < xs.length → ∀ w', Below w.heap.size w w' → Calls Tryd.prog 46 #[.agg #[.int .i64 (xs.getD j default).st, .string (xs.getD j default).log, .int .i64 (xs.getD j default).pc, .int .i64 (xs.getD j default).g0, .int .i64 (xs.getD j default).g1, .int .i64 (xs.getD j default).g2, .int .i64 (xs.getD j default).g3]] w' fun e w'' => e = .returned (.bool (p (xs.getD j default))) ∧ Below w'.heap.size w' w'') :
    Calls Tryd.prog 47 #[.slice a xs.length cap, .func (.func 46) #[] #[]] w fun e w' => e = .returned (.int .i64 (idxOf p xs)) ∧ Below w.heap.size w w' := by
  unfold maxLen at hl
  rcases hx with rfl | ⟨b, off, rfl, hc⟩
  · clear hp
    go_enter Tryd.func47, Tryd.ntmps47
    go_wp2
    refine wp_loop_rounds 1 ?_
    rw [rounds_succ]
    go_wp2
    go_ret
    exact ⟨rfl, Below.refl _ _⟩
  · go_enter Tryd.func47, Tryd.ntmps47
    go_wp2
    go_loopw [8] (fun i wr => ∃ k : Nat, k ≤ xs.length ∧ i = .int .i64 k ∧ Below w.heap.size w wr ∧ Hid (∀ j, j < k → p (xs.getD j default) = false)) (fun i _ => xs.length - (intOf i).toNat)
    case atStart => exact ⟨0, Nat.zero_le _, rfl, Below.refl _ _, fun j hj => absurd hj (by omega)⟩
    case round =>
      obtain ⟨k, hk, rfl, hbel, hid⟩ := hrel
      by_cases hlt : k < xs.length
      · have k0 := hc k hlt 0 (by omega); have k1 := hc k hlt 1 (by omega); have k2 := hc k hlt 2 (by omega); have k3 := hc k hlt 3 (by omega); have k4 := hc k hlt 4 (by omega); have k5 := hc k hlt 5 (by omega); have k6 := hc k hlt 6 (by omega)
        have hcall := hp k hlt
        have HP : Hid (xs.getD k default = xs.getD k default) := rfl
        obtain ⟨P, hP⟩ : ∃ P, xs.getD k default = P := ⟨_, rfl⟩
        rw [hP] at k0 k1 k2 k3 k4 k5 k6 hcall
        have HP : Hid (xs.getD k default = P) := hP
        clear hP hc hp
        have HQ : Hid (p P = p P) := rfl
        obtain ⟨st, lg, pc, g0, g1, g2, g3⟩ := P
        simp only [En.cells] at k0 k1 k2 k3 k4 k5 k6
        have bl : b < w.heap.size := lt_of_cell k0
        have l0 : wr.cell? ⟨b, off + k * 7, none⟩ = some (.int .i64 st) := (hbel.cell (p := ⟨b, _, none⟩) bl).trans k0; have l1 : wr.cell? ⟨b, off + k * 7 + 1, none⟩ = some (.string lg) := (hbel.cell (p := ⟨b, _, none⟩) bl).trans k1; have l2 : wr.cell? ⟨b, off + k * 7 + 2, none⟩ = some (.int .i64 pc) := (hbel.cell (p := ⟨b, _, none⟩) bl).trans k2; have l3 : wr.cell? ⟨b, off + k * 7 + 3, none⟩ = some (.int .i64 g0) := (hbel.cell (p := ⟨b, _, none⟩) bl).trans k3; have l4 : wr.cell? ⟨b, off + k * 7 + 4, none⟩ = some (.int .i64 g1) := (hbel.cell (p := ⟨b, _, none⟩) bl).trans k4; have l5 : wr.cell? ⟨b, off + k * 7 + 5, none⟩ = some (.int .i64 g2) := (hbel.cell (p := ⟨b, _, none⟩) bl).trans k5; have l6 : wr.cell? ⟨b, off + k * 7 + 6, none⟩ = some (.int .i64 g3) := (hbel.cell (p := ⟨b, _, none⟩) bl).trans k6
        clear k0 k1 k2 k3 k4 k5 k6 bl
        obtain ⟨z, hz⟩ : ∃ z, p ⟨st, lg, pc, g0, g1, g2, g3⟩ = z := ⟨_, rfl⟩
        rw [hz] at hcall
        have HZ : Hid (p (xs.getD k default) = z) := by rw [HP.out]; exact hz
        clear hz HQ
        cases z with
        | false =>
          go_wp2_with (go_at_call 46; refine (hcall _ hbel).mono ?_; rintro e w1 ⟨rfl, hb1⟩)
          go_roundw
          case rel => exact ⟨k + 1, by omega, by go_num, hbel.trans (hb1.mono hbel.size), snoc_false hid HZ.out⟩
          case measure => simp [intOf]; omega
        | true =>
          go_wp2_with (go_at_call 46; refine (hcall _ hbel).mono ?_; rintro e w1 ⟨rfl, hb1⟩)
          go_ret
          exact ⟨ret_int (idxOf_at hlt hid.out HZ.out).symm, hbel.trans (hb1.mono hbel.size)⟩
      · have hkl : k = xs.length := by omega
        subst hkl
        clear hp hc
        go_wp2
        go_ret
        exact ⟨ret_int (idxOf_none hid.out).symm, hbel⟩

end Go.Proofs.YtdbbiibnhgcndaaDoor
