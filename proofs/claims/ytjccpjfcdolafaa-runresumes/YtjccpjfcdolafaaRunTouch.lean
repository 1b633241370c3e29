/-
  What the calls frame and touch of package run answer (own work): the frame in which a word stands, and where the word is. The conditions: the core holds a machine that may be; the address is not below 0.
-/
import Derived.Test.YtjccpjfcdolafaaRunRead
namespace Go.Proofs.Ytjccpjfcdolafaa
open Go.RowKit

theorem and_has {r right : Int} (h0 : 0 ≤ r) (h7 : r ≤ 7) (hr : right = 1 ∨ right = 2 ∨ right = 4) : (bits .and .i64 r right == 0) = !hasR r right := by
  have : r = 0 ∨ r = 1 ∨ r = 2 ∨ r = 3 ∨ r = 4 ∨ r = 5 ∨ r = 6 ∨ r = 7 := by omega
  rcases this with rfl | rfl | rfl | rfl | rfl | rfl | rfl | rfl <;> rcases hr with rfl | rfl | rfl <;> decide +kernel

set_option maxRecDepth 100000 in
set_option maxHeartbeats 4000000 in
theorem frame_run (M : Mv) (e pc n right : Int) (rs : List Int) (cb : Nat) (w : World) (hC : CoreAt w cb M e pc rs) (hM : MachAt w M) (hG : Good M) (h0 : 0 ≤ n) (hn : n ≤ 1000000) (hr : right = 1 ∨ right = 2 ∨ right = 4) :
    Calls Try.prog 56 #[.pointer (some ⟨cb, 0, none⟩), .int .i64 n, .int .i64 right] w fun x w' => x = .returned (.int .i64 (frmF M.frs e n right)) ∧ Below w.heap.size w w' := by
  have hS : frmF M.frs e n right = if 64 ≤ n then shF M.frs n right else if placeOf M.frs e (n / 8) < 0 then -1 else if hasR (M.frs.getD (placeOf M.frs e (n / 8)).toNat default).r right = true then placeOf M.frs e (n / 8) else -1 := rfl
  by_cases h64 : 64 ≤ n
  · rw [if_pos h64] at hS
    rw [hS]
    have h1 := sharedFrame_run M e pc n right rs cb w hC hM hG.s1 h64 hn
    clear hC hM hG hS
    generalize shF M.frs n right = z at h1
    go_enter Try.func56, Try.ntmps56
    go_wp2_with (go_at_call 57; refine h1.mono ?_; rintro x w' ⟨rfl, rfl⟩)
    go_ret
    exact ⟨rfl, Below.refl _ _⟩
  · rw [if_neg h64] at hS
    have h64' : n < 64 := by omega
    have hq : Int.tdiv n 8 = n / 8 := Int.tdiv_eq_ediv_of_nonneg h0
    have hq2 : IntKind.i64.wrap (n / 8) = n / 8 := by rw [IntKind.wrap_i64]; omega
    have h1 := fun w' (h : Below w.heap.size w w') => place_any M e (n / 8) w' (hM.below h)
    unfold Mv.val at h1
    have c0 := hC.c0
    have c1 := hC.c1
    have c2 := hC.c2
    have c3 := hC.c3
    have HC : Hid (_) := hC
    have hl := hG.s1
    rw [hl] at c0 h1
    rcases place_cases' M.frs e (n / 8) with hp | ⟨k, hp, hk⟩
    · rw [hp, if_pos (by omega)] at hS
      rw [hS]
      rw [hp] at h1
      clear hM hG hC hS hl
      go_enter Try.func56, Try.ntmps56
      go_upto_region 3 with fail
      go_region_law (go_simp; go_at_call 58; refine (h1 _ (Below.refl _ _).drew).mono ?_; clear h1; rintro x w1 ⟨rfl, hb⟩; have HB : Hid (Below w.heap.size w w1) := (Below.refl _ _).drew.trans hb; clear hb; dsimp only)
      all_goals
        go_wp2
        go_ret
        exact ⟨rfl, HB.out⟩
    · rw [hp, if_neg (by omega), Int.toNat_natCast] at hS
      rw [hp] at h1
      obtain ⟨fb, fo, hfa, _, _, t2, _⟩ := hM.frame (j := k) hk
      obtain ⟨r, hrr⟩ : ∃ r, (M.frs.getD k default).r = r := ⟨_, rfl⟩
      have hg := goodFr_iff.1 (hG.fr k (by omega))
      have r7 := inB_iff.1 hg.2.2.2.1
      rw [hrr] at hS t2 r7
      have hki : (k : Int) < 24 := by omega
      rw [hfa] at c0 h1
      have hge : ¬ ((k : Int) < 0) := by omega
      have HT2 : Hid (_) := t2
      clear hM hG hC hg hl
      have hand := and_has r7.1 r7.2 hr
      cases hh : hasR r right with
      | true =>
        rw [hh, if_pos rfl] at hS
        rw [hS]
        rw [hh] at hand
        clear hS
        go_enter Try.func56, Try.ntmps56
        go_upto_region 3 with fail
        go_region_law (go_simp; go_at_call 58; refine (h1 _ (Below.refl _ _).drew).mono ?_; clear h1; rintro x w1 ⟨rfl, hb⟩; have HB : Hid (Below w.heap.size w w1) := (Below.refl _ _).drew.trans hb; have d0 : w1.cell? ⟨cb, 0, none⟩ = some (.slice (some ⟨fb, fo, none⟩) 24 M.fcap) := (HB.out.cell (p := ⟨cb, 0, none⟩) HC.out.lt).trans c0; have d2 := (HB.out.cell (p := ⟨fb, fo + k * 4 + 2, none⟩) (lt_of_cell HT2.out)).trans HT2.out; clear hb; dsimp only)
        all_goals
          go_wp2
          go_ret
          exact ⟨rfl, HB.out⟩
      | false =>
        rw [hh, if_neg (by simp)] at hS
        rw [hS]
        rw [hh] at hand
        clear hS
        go_enter Try.func56, Try.ntmps56
        go_upto_region 3 with fail
        go_region_law (go_simp; go_at_call 58; refine (h1 _ (Below.refl _ _).drew).mono ?_; clear h1; rintro x w1 ⟨rfl, hb⟩; have HB : Hid (Below w.heap.size w w1) := (Below.refl _ _).drew.trans hb; have d0 : w1.cell? ⟨cb, 0, none⟩ = some (.slice (some ⟨fb, fo, none⟩) 24 M.fcap) := (HB.out.cell (p := ⟨cb, 0, none⟩) HC.out.lt).trans c0; have d2 := (HB.out.cell (p := ⟨fb, fo + k * 4 + 2, none⟩) (lt_of_cell HT2.out)).trans HT2.out; clear hb; dsimp only)
        all_goals
          go_wp2
          go_ret
          exact ⟨rfl, HB.out⟩

set_option maxRecDepth 100000 in
set_option maxHeartbeats 4000000 in
theorem touch_none (M : Mv) (e pc n right : Int) (rs : List Int) (cb : Nat) (w : World) (hC : CoreAt w cb M e pc rs) (hM : MachAt w M) (hG : Good M) (h0 : 0 ≤ n) (hn : n ≤ 1000000) (hr : right = 1 ∨ right = 2 ∨ right = 4) (hf : frmF M.frs e n right = -1) :
    Calls Try.prog 54 #[.pointer (some ⟨cb, 0, none⟩), .int .i64 n, .int .i64 right] w fun x w' => x = .returned (.pointer none) ∧ Below w.heap.size w w' := by
  have h1 := frame_run M e pc n right rs cb w hC hM hG h0 hn hr
  rw [hf] at h1
  clear hC hM hG hf
  go_enter Try.func54, Try.ntmps54
  go_wp2_with (go_at_call 56; refine h1.mono ?_; clear h1; rintro x w1 ⟨rfl, hb⟩)
  go_ret
  exact ⟨rfl, hb⟩
set_option maxRecDepth 100000 in
set_option maxHeartbeats 4000000 in
theorem touch_some (M : Mv) (e pc n right : Int) (rs : List Int) (cb k : Nat) (w : World) (hC : CoreAt w cb M e pc rs) (hM : MachAt w M) (hG : Good M) (h0 : 0 ≤ n) (hn : n ≤ 1000000) (hr : right = 1 ∨ right = 2 ∨ right = 4) (hf : frmF M.frs e n right = (k : Int)) (hk : k < 24) :
    Calls Try.prog 54 #[.pointer (some ⟨cb, 0, none⟩), .int .i64 n, .int .i64 right] w fun x w' => ∃ b o, (M.frs.getD k default).a = some ⟨b, o, none⟩ ∧ x = .returned (.pointer (some ⟨b, o + (n % 8).toNat, none⟩)) ∧ Below w.heap.size w w' := by
  have h1 := frame_run M e pc n right rs cb w hC hM hG h0 hn hr
  rw [hf] at h1
  have hl := hG.s1
  obtain ⟨fb, fo, hfa, _, _, _, t3⟩ := hM.frame (j := k) (by omega)
  have hg := goodFr_iff.1 (hG.fr k hk)
  have hw8 : (M.frs.getD k default).ws.length = 8 := (mayW_iff.1 hg.1).1
  obtain ⟨b, o, ha⟩ : ∃ b o, (M.frs.getD k default).a = some ⟨b, o, none⟩ := by
    rcases (hM.frok k (by omega)).ints with e | ⟨b, o, e, _⟩
    · rw [e] at hw8; simp at hw8
    · exact ⟨b, o, e⟩
  have HA : Hid (_) := ha
  rw [ha, hw8] at t3
  obtain ⟨i, hi⟩ : ∃ i : Nat, n % 8 = (i : Int) := ⟨(n % 8).toNat, by omega⟩
  have hi8 : (i : Int) < 8 := by omega
  have hq : Int.tmod n 8 = (i : Int) := by rw [Int.tmod_eq_emod_of_nonneg h0, hi]
  have hq2 : IntKind.i64.wrap (i : Int) = (i : Int) := by rw [IntKind.wrap_i64]; omega
  have HI : Hid ((n % 8).toNat = i) := by show _ = _; rw [hi]; omega
  have c0 := hC.c0
  rw [hl, hfa] at c0
  have hk24 : (k : Int) < 24 := by omega
  have hge : ¬ ((k : Int) < 0) := by omega
  have lc := hC.lt
  have lf : fb < w.heap.size := lt_of_cell t3
  have C0 : Hid (_) := c0
  have T3 : Hid (_) := t3
  clear hC hM hG hf hg hw8 ha hi hl hfa c0 t3
  go_enter Try.func54, Try.ntmps54
  go_wp2_with (go_at_call 56; refine h1.mono ?_; clear h1; rintro x w1 ⟨rfl, hb⟩; have HB : Hid (_) := hb; have c0 := (hb.cell (p := ⟨cb, 0, none⟩) lc).trans C0.out; have t3 := (hb.cell (p := ⟨fb, fo + k * 4 + 3, none⟩) lf).trans T3.out; clear hb)
  go_ret
  exact ⟨b, o, HA.out, by rw [HI.out]; rfl, HB.out⟩

end Go.Proofs.Ytjccpjfcdolafaa
