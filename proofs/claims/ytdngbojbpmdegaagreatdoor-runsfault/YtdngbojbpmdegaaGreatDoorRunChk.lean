/-
  What the call check of package run answers, for every argument (own work): the error of the machine, of the enclave, of its state, of the fuel, in this order. No condition.
-/
import Derived.Test.YtdngbojbpmdegaaGreatDoorJEnc
namespace Go.Proofs.YtdngbojbpmdegaaGreatDoor
open Go.RowKit

/-- what Enter and Resume refuse, ahead of the word -/
def fuelF (M : Mv) (e st fuel : Int) : Int := if askF M e st = 0 then (if inB fuel 0 5000 = true then 0 else 2) else askF M e st
theorem fuelF_zero {M : Mv} {e st fuel : Int} (h : fuelF M e st fuel = 0) : askF M e st = 0 ∧ 0 ≤ fuel ∧ fuel ≤ 5000 := by
  unfold fuelF at h
  by_cases h1 : askF M e st = 0
  · rw [if_pos h1] at h
    by_cases h2 : inB fuel 0 5000 = true
    · exact ⟨h1, inB_iff.1 h2⟩
    · rw [if_neg h2] at h; simp at h
  · rw [if_neg h1] at h; exact absurd h h1
theorem fuelF_same {M N : Mv} (h : M.Same N) (e st fuel : Int) : fuelF M e st fuel = fuelF N e st fuel := by unfold fuelF; rw [askF_same h]

set_option maxHeartbeats 1600000 in
theorem check_run (M : Mv) (e st fuel : Int) (w : World) (hM : MachAt w M) (hst0 : 0 ≤ st) :
    Calls Tryz.prog 64 #[M.val, .int .i64 e, .int .i64 st, .int .i64 fuel] w fun x w' => x = .returned (.int .i64 (fuelF M e st fuel)) ∧ Below w.heap.size w w' := by
  have h1 := fun w' (h : Below w.heap.size w w') => checkM_any M w' (hM.below h)
  have B1 : ∀ o, Hid (Below w.heap.size w (w.alloc o)) := fun o => (Below.refl _ _).alloc (Nat.le_refl _) _
  have HX : ∀ o w1, Hid (Below (w.alloc o).heap.size (w.alloc o) w1 → Below w.heap.size w w1) := fun o w1 h => (B1 o).out.trans (h.mono (by simp))
  obtain ⟨z, hF⟩ : ∃ z, z = fuelF M e st fuel := ⟨_, rfl⟩
  rw [← hF]
  unfold fuelF at hF
  obtain ⟨A, hA⟩ : ∃ A, A = askF M e st := ⟨_, rfl⟩
  rw [← hA] at hF
  unfold askF at hA
  unfold Mv.val at *
  by_cases hz : machF M = 0
  · rw [if_pos hz] at hA
    by_cases c1 : e < 1
    · rw [inB_low (show ¬ 1 ≤ e by omega), if_neg (by simp)] at hA
      rw [hA, if_neg (by omega)] at hF
      rw [hz] at h1
      subst hF
      clear hM hz
      go_enter Tryz.func64, Tryz.ntmps64
      go_wp2_with (go_at_call 28; refine (h1 _ (B1 _).out).mono ?_; rintro x w1 ⟨rfl, hb1⟩)
      go_ret
      exact ⟨rfl, (HX _ _).out hb1⟩
    by_cases c2 : 4 < e
    · rw [inB_high (show ¬ e ≤ 4 by omega), if_neg (by simp)] at hA
      rw [hA, if_neg (by omega)] at hF
      rw [hz] at h1
      subst hF
      clear hM hz
      go_enter Tryz.func64, Tryz.ntmps64
      go_wp2_with (go_at_call 28; refine (h1 _ (B1 _).out).mono ?_; rintro x w1 ⟨rfl, hb1⟩)
      go_ret
      exact ⟨rfl, (HX _ _).out hb1⟩
    rw [inB_true (show 1 ≤ e by omega) (show e ≤ 4 by omega), if_pos rfl] at hA
    obtain ⟨m, rfl⟩ : ∃ m : Nat, e = (m : Int) + 1 := ⟨(e - 1).toNat, by omega⟩
    rw [show ((m : Int) + 1 - 1).toNat = m by omega] at hA
    have hm4 : m < 4 := by omega
    obtain ⟨eb, eo, hea, hst⟩ := st_at hM hz hm4
    have hs := (machF_sizes hz).2.1
    rw [hz] at h1
    rw [hea, hs] at h1 ⊢
    generalize (M.ens.getD m default).st = s at hst hA
    have hwm : IntKind.i64.wrap ((m : Int) + 1 - 1) = (m : Int) := by rw [IntKind.wrap_i64]; omega
    clear hM hz hea hs
    by_cases c3 : s = 0
    · subst c3
      rw [if_pos rfl] at hA
      rw [hA, if_neg (by omega)] at hF
      subst hF
      go_enter Tryz.func64, Tryz.ntmps64
      go_wp2_with (go_at_call 28; refine (h1 _ (B1 _).out).mono ?_; rintro x w1 ⟨rfl, hb1⟩; have HB : Hid (Below w.heap.size w w1) := (HX _ _).out hb1; have c0 := hst _ HB.out; obtain ⟨hc, hf⟩ := bcell hb1)
      go_ret
      exact ⟨rfl, HB.out⟩
    · have c3' : (s == 0) = false := by simpa using c3
      by_cases c4 : s = st
      · rw [if_neg c3, if_neg (fun q => q.2 c4)] at hA
        rw [hA, if_pos rfl] at hF
        subst c4
        by_cases c5 : fuel < 0
        · rw [inB_low (show ¬ 0 ≤ fuel by omega), if_neg (by simp)] at hF
          subst hF
          go_enter Tryz.func64, Tryz.ntmps64
          go_wp2_with (go_at_call 28; refine (h1 _ (B1 _).out).mono ?_; rintro x w1 ⟨rfl, hb1⟩; have HB : Hid (Below w.heap.size w w1) := (HX _ _).out hb1; have c0 := hst _ HB.out; obtain ⟨hc, hf⟩ := bcell hb1)
          go_ret
          exact ⟨rfl, HB.out⟩
        by_cases c6 : 5000 < fuel
        · rw [inB_high (show ¬ fuel ≤ 5000 by omega), if_neg (by simp)] at hF
          subst hF
          go_enter Tryz.func64, Tryz.ntmps64
          go_wp2_with (go_at_call 28; refine (h1 _ (B1 _).out).mono ?_; rintro x w1 ⟨rfl, hb1⟩; have HB : Hid (Below w.heap.size w w1) := (HX _ _).out hb1; have c0 := hst _ HB.out; obtain ⟨hc, hf⟩ := bcell hb1)
          go_ret
          exact ⟨rfl, HB.out⟩
        · rw [inB_true (show 0 ≤ fuel by omega) (show fuel ≤ 5000 by omega), if_pos rfl] at hF
          subst hF
          go_enter Tryz.func64, Tryz.ntmps64
          go_wp2_with (go_at_call 28; refine (h1 _ (B1 _).out).mono ?_; rintro x w1 ⟨rfl, hb1⟩; have HB : Hid (Below w.heap.size w w1) := (HX _ _).out hb1; have c0 := hst _ HB.out; obtain ⟨hc, hf⟩ := bcell hb1)
          go_ret
          exact ⟨rfl, HB.out⟩
      · rw [if_neg c3, if_pos ⟨hst0, c4⟩] at hA
        rw [hA, if_neg (by omega)] at hF
        have c4' : (s != st) = true := by simpa using c4
        subst hF
        go_enter Tryz.func64, Tryz.ntmps64
        go_wp2_with (go_at_call 28; refine (h1 _ (B1 _).out).mono ?_; rintro x w1 ⟨rfl, hb1⟩; have HB : Hid (Below w.heap.size w w1) := (HX _ _).out hb1; have c0 := hst _ HB.out; obtain ⟨hc, hf⟩ := bcell hb1)
        go_ret
        exact ⟨rfl, HB.out⟩
  · rw [if_neg hz] at hA
    rw [hA, if_neg hz] at hF
    have hz1 : (z != 0) = true := by rw [hF]; simpa using hz
    rw [← hF] at h1
    clear hM hz hF hA
    go_enter Tryz.func64, Tryz.ntmps64
    go_wp2_with (go_at_call 28; refine (h1 _ (B1 _).out).mono ?_; rintro x w1 ⟨rfl, hb1⟩)
    go_ret
    exact ⟨rfl, (HX _ _).out hb1⟩

end Go.Proofs.YtdngbojbpmdegaaGreatDoor
