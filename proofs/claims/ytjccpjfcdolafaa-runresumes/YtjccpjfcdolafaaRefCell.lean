/-
  What the reference's call cellOf answers (own work): the frame and the word of an address, and whether it may be touched so. The conditions: the machine may be; the address is not below 0.
-/
import Derived.Test.YtjccpjfcdolafaaRunTouch
import Derived.Deep.QuietTactic
import Derived.BigQuiet
namespace Go.Proofs.Ytjccpjfcdolafaa
open Go.RowKit

/-- what cellOf answers, if z is the frame (or -1) -/
def CellSaid (z n : Int) (w : World) (x : Ending) (w' : World) : Prop := ∃ G I : Int, ∃ B : Bool, x = .returned (.tuple #[.int .i64 G, .int .i64 I, .bool B]) ∧ (B = decide (0 ≤ z)) ∧ (0 ≤ z → G = z ∧ I = n % 8) ∧ Below w.heap.size w w'
theorem cell_no {z n G I : Int} {B : Bool} {w w' : World} (hz : z = -1) (hB : B = false) (hb : Below w.heap.size w w') : CellSaid z n w (.returned (.tuple #[.int .i64 G, .int .i64 I, .bool B])) w' :=
  ⟨G, I, B, rfl, by subst hz; subst hB; rfl, fun q => absurd q (by omega), hb⟩
theorem cell_yes {z n I : Int} {k : Nat} {B : Bool} {w w' : World} (hz : z = (k : Int)) (hB : B = true) (hI : I = n % 8) (hb : Below w.heap.size w w') : CellSaid z n w (.returned (.tuple #[.int .i64 (k : Int), .int .i64 I, .bool B])) w' :=
  ⟨k, I, B, rfl, by subst hz; subst hB; simp, fun _ => ⟨hz.symm, hI⟩, hb⟩


set_option maxRecDepth 100000 in
set_option maxHeartbeats 4000000 in
theorem cellOf_run (M : Mv) (e n right : Int) (w : World) (hM : MachAt w M) (hG : Good M) (h0 : 0 ≤ n) (hn : n ≤ 1000000) (hr : right = 1 ∨ right = 2 ∨ right = 4) :
    Calls Try.prog 22 #[M.val, .int .i64 e, .int .i64 n, .int .i64 right] w (CellSaid (frmF M.frs e n right) n w) := by
  have hS : frmF M.frs e n right = if 64 ≤ n then shF M.frs n right else if placeOf M.frs e (n / 8) < 0 then -1 else if hasR (M.frs.getD (placeOf M.frs e (n / 8)).toNat default).r right = true then placeOf M.frs e (n / 8) else -1 := rfl
  have hm8 : Int.tmod n 8 = n % 8 := Int.tmod_eq_emod_of_nonneg h0
  have hm82 : IntKind.i64.wrap (n % 8) = n % 8 := by rw [IntKind.wrap_i64]; omega
  have hl := hG.s1
  by_cases h64 : 64 ≤ n
  · rw [if_pos h64] at hS
    have hw : IntKind.i64.wrap (n - 64) = n - 64 := by rw [IntKind.wrap_i64]; omega
    have hq : Int.tdiv (n - 64) 8 = (n - 64) / 8 := Int.tdiv_eq_ediv_of_nonneg (by omega)
    have hq2 : IntKind.i64.wrap ((n - 64) / 8) = (n - 64) / 8 := by rw [IntKind.wrap_i64]; omega
    unfold shF at hS
    obtain ⟨k, hk⟩ : ∃ k : Nat, (n - 64) / 8 = (k : Int) := ⟨((n - 64) / 8).toNat, by omega⟩
    rw [hk] at hS hq hq2
    obtain ⟨z, hz⟩ : ∃ z, z = frmF M.frs e n right := ⟨_, rfl⟩
    rw [← hz] at hS ⊢
    clear hz
    by_cases h4 : right = 4
    · rw [if_pos h4] at hS
      subst h4
      have HZ : Hid (_) := hS
      clear hM hG hr hS
      unfold Mv.val
      go_enter Try.func22, Try.ntmps22
      go_upto_region 3 with fail
      go_quiet (fail)
      go_wp2
      refine bodyPost_ret (by simp [results, Try.results22, go_sem]; try rfl) rfl ?_
      exact cell_no HZ.out (by first | rfl | (simp; done) | simp_all) (below_drewN ((Below.refl _ _).alloc (Nat.le_refl _) _) nq)
    · rw [if_neg h4] at hS
      have h4' : (right == 4) = false := by simpa using h4
      by_cases hb : 24 ≤ (k : Int)
      · rw [if_pos hb] at hS
        have HZ : Hid (_) := hS
        clear hM hG hr hS
        unfold Mv.val
        have hb' : ¬ ((k : Int) < 24) := by omega
        go_enter Try.func22, Try.ntmps22
        go_upto_region 3 with fail
        go_quiet (fail)
        go_wp2
        refine bodyPost_ret (by simp [results, Try.results22, go_sem]; try rfl) rfl ?_
        exact cell_no HZ.out (by first | rfl | (simp; done) | simp_all) (below_drewN ((Below.refl _ _).alloc (Nat.le_refl _) _) nq)
      · rw [if_neg hb, Int.toNat_natCast] at hS
        obtain ⟨fb, fo, hfa, t0, _, _, _⟩ := hM.frame (j := k) (by omega)
        obtain ⟨o, ho⟩ : ∃ o, (M.frs.getD k default).o = o := ⟨_, rfl⟩
        rw [ho] at hS t0
        have hki : (k : Int) < 24 := by omega
        have lt0 := lt_of_cell t0
        unfold Mv.val
        rw [hfa, hl]
        clear hM hG hr ho
        by_cases hoz : o = 0
        · rw [if_pos hoz] at hS
          have HZ : Hid (_) := hS
          clear hS
          subst hoz
          go_enter Try.func22, Try.ntmps22
          go_upto_region 3 with fail
          go_quiet (fail)
          go_wp2
          refine bodyPost_ret (by simp [results, Try.results22, go_sem]; try rfl) rfl ?_
          exact cell_yes HZ.out (by first | rfl | (simp; done) | simp_all) rfl (below_drewN ((Below.refl _ _).alloc (Nat.le_refl _) _) nq)
        · rw [if_neg hoz] at hS
          have HZ : Hid (_) := hS
          clear hS
          have hoz' : (o == 0) = false := by simpa using hoz
          go_enter Try.func22, Try.ntmps22
          go_upto_region 3 with fail
          go_quiet (fail)
          go_wp2
          refine bodyPost_ret (by simp [results, Try.results22, go_sem]; try rfl) rfl ?_
          exact cell_no HZ.out (by first | rfl | (simp; done) | simp_all) (below_drewN ((Below.refl _ _).alloc (Nat.le_refl _) _) nq)
  · rw [if_neg h64] at hS
    have hq : Int.tdiv n 8 = n / 8 := Int.tdiv_eq_ediv_of_nonneg h0
    have hq2 : IntKind.i64.wrap (n / 8) = n / 8 := by rw [IntKind.wrap_i64]; omega
    have h1 := fun w' (h : Below w.heap.size w w') => placeOf_any M e (n / 8) w' (hM.below h)
    unfold Mv.val at h1 ⊢
    obtain ⟨z, hz⟩ : ∃ z, z = frmF M.frs e n right := ⟨_, rfl⟩
    rw [← hz] at hS ⊢
    clear hz
    rcases place_cases' M.frs e (n / 8) with hp | ⟨k, hp, hk⟩
    · rw [hp, if_pos (by omega)] at hS
      have HZ : Hid (_) := hS
      clear hS
      rw [hp] at h1
      clear hM hG hr hl
      go_enter Try.func22, Try.ntmps22
      go_wp2_with (go_at_call 36; refine (h1 _ ((Below.refl _ _).alloc (Nat.le_refl _) _)).mono ?_; clear h1; rintro x w1 ⟨rfl, hb⟩; have HB : Hid (Below w.heap.size w w1) := ((Below.refl _ _).alloc (Nat.le_refl _) _).trans (hb.mono (by simp)); skip; clear hb)
      refine bodyPost_ret (by simp [results, Try.results22, go_sem]; try rfl) rfl ?_
      exact cell_no HZ.out (by first | rfl | (simp; done) | simp_all) HB.out
    · rw [hp, if_neg (by omega), Int.toNat_natCast] at hS
      rw [hp] at h1
      obtain ⟨fb, fo, hfa, _, _, t2, _⟩ := hM.frame (j := k) hk
      obtain ⟨r, hrr⟩ : ∃ r, (M.frs.getD k default).r = r := ⟨_, rfl⟩
      have hg := goodFr_iff.1 (hG.fr k (by omega))
      have r7 := inB_iff.1 hg.2.2.2.1
      rw [hrr] at hS t2 r7
      obtain ⟨r0, r8⟩ := r7
      have hki : (k : Int) < 24 := by omega
      rw [hfa, hl] at h1 ⊢
      have hge : ¬ ((k : Int) < 0) := by omega
      have lt2 := lt_of_cell t2
      dsimp only at lt2
      have T2 : Hid (_) := t2
      have HS : Hid (_) := hS
      clear hM hG hg hl t2 hrr hS hp hk hfa
      rcases hr with rfl | rfl | rfl
      · have HX : hasR r 1 = (r % 2 == 1) := rfl
        have HXX : Hid (_) := HX
        clear HX
        go_enter Try.func22, Try.ntmps22
        go_wp2_with (go_at_call 36; refine (h1 _ ((Below.refl _ _).alloc (Nat.le_refl _) _)).mono ?_; clear h1; rintro x w1 ⟨rfl, hb⟩; have HB : Hid (Below w.heap.size w w1) := ((Below.refl _ _).alloc (Nat.le_refl _) _).trans (hb.mono (by simp)); have d0 : w1.cell? ⟨w.heap.size, 0, none⟩ = some (.slice (some ⟨fb, fo, none⟩) 24 M.fcap) := (hb.cell (p := ⟨w.heap.size, 0, none⟩) (by simp)).trans (by simp [go_sem]); have t2 := (HB.out.cell (p := ⟨fb, fo + k * 4 + 2, none⟩) lt2).trans T2.out; clear hb)
        refine bodyPost_ret (by simp [results, Try.results22, go_sem]; try rfl) rfl ?_
        cases hh : (r % 2 == 1) with
        | true => exact cell_yes (by rw [HS.out, HXX.out, hh]; rfl) rfl rfl HB.out
        | false => exact cell_no (by rw [HS.out, HXX.out, hh]; rfl) rfl HB.out
      · have HX : hasR r 2 = (r / 2 % 2 == 1) := rfl
        have HXX : Hid (_) := HX
        clear HX
        go_enter Try.func22, Try.ntmps22
        go_wp2_with (go_at_call 36; refine (h1 _ ((Below.refl _ _).alloc (Nat.le_refl _) _)).mono ?_; clear h1; rintro x w1 ⟨rfl, hb⟩; have HB : Hid (Below w.heap.size w w1) := ((Below.refl _ _).alloc (Nat.le_refl _) _).trans (hb.mono (by simp)); have d0 : w1.cell? ⟨w.heap.size, 0, none⟩ = some (.slice (some ⟨fb, fo, none⟩) 24 M.fcap) := (hb.cell (p := ⟨w.heap.size, 0, none⟩) (by simp)).trans (by simp [go_sem]); have t2 := (HB.out.cell (p := ⟨fb, fo + k * 4 + 2, none⟩) lt2).trans T2.out; clear hb)
        refine bodyPost_ret (by simp [results, Try.results22, go_sem]; try rfl) rfl ?_
        cases hh : (r / 2 % 2 == 1) with
        | true => exact cell_yes (by rw [HS.out, HXX.out, hh]; rfl) rfl rfl HB.out
        | false => exact cell_no (by rw [HS.out, HXX.out, hh]; rfl) rfl HB.out
      · have HX : hasR r 4 = (r / 4 == 1) := rfl
        have HXX : Hid (_) := HX
        clear HX
        go_enter Try.func22, Try.ntmps22
        go_wp2_with (go_at_call 36; refine (h1 _ ((Below.refl _ _).alloc (Nat.le_refl _) _)).mono ?_; clear h1; rintro x w1 ⟨rfl, hb⟩; have HB : Hid (Below w.heap.size w w1) := ((Below.refl _ _).alloc (Nat.le_refl _) _).trans (hb.mono (by simp)); have d0 : w1.cell? ⟨w.heap.size, 0, none⟩ = some (.slice (some ⟨fb, fo, none⟩) 24 M.fcap) := (hb.cell (p := ⟨w.heap.size, 0, none⟩) (by simp)).trans (by simp [go_sem]); have t2 := (HB.out.cell (p := ⟨fb, fo + k * 4 + 2, none⟩) lt2).trans T2.out; clear hb)
        refine bodyPost_ret (by simp [results, Try.results22, go_sem]; try rfl) rfl ?_
        cases hh : (r / 4 == 1) with
        | true => exact cell_yes (by rw [HS.out, HXX.out, hh]; rfl) rfl rfl HB.out
        | false => exact cell_no (by rw [HS.out, HXX.out, hh]; rfl) rfl HB.out

end Go.Proofs.Ytjccpjfcdolafaa
