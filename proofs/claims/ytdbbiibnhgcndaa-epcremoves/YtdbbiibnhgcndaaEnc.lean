/-
  What the calls checkEnclave, checkOpened (epc) and asked (riddleref) answer for every machine, enclave and state: what a call of an enclave is refused for; they turn nothing that was in memory. Machines that hold the same are refused for the same. The condition: the machine's cells are there.
-/
import Derived.Test.YtdbbiibnhgcndaaPeek
import Derived.Test.YtdbbiibnhgcndaaOwn
namespace Go.Proofs.Ytdbbiibnhgcndaa
open Go.RowKit

/-! Machines that hold the same. -/
def Fr.norm (f : Fr) : Fr := ⟨f.o, f.at_, f.r, none, f.ws, 0⟩
theorem norm_eq {M N : Mv} (h : M.Same N) : M.frs.map Fr.norm = N.frs.map Fr.norm := by
  apply List.ext_getElem (by simpa using h.len)
  intro j h1 h2
  have hj : j < M.frs.length := by simpa using h1
  have hj' : j < N.frs.length := by simpa using h2
  obtain ⟨a, b, c, d⟩ := h.fr j hj
  simp only [List.getD_eq_getElem?_getD, hj, hj', List.getElem?_eq_getElem, Option.getD_some] at a b c d
  simp only [List.getElem_map, Fr.norm, a, b, c, d]
theorem norm_getD (l : List Fr) (k : Nat) : (l.map Fr.norm).getD k default = (l.getD k default).norm := by
  by_cases h : k < l.length
  · simp [List.getD_eq_getElem?_getD, h]
  · simp [List.getD_eq_getElem?_getD, h]
    rfl
theorem twins_norm (l : List Fr) : twins (l.map Fr.norm) = twins l := by
  unfold twins
  rw [List.length_map]
  congr 1
  funext k
  unfold twAt
  rw [norm_getD, ← List.map_take, List.any_map]
  rfl
theorem machF_norm (M : Mv) : machF { M with frs := M.frs.map Fr.norm } = machF M := by
  unfold machF
  dsimp only
  rw [List.length_map, twins_norm, List.any_map]
  rfl
theorem machF_same {M N : Mv} (h : M.Same N) : machF M = machF N := by
  rw [← machF_norm M, ← machF_norm N]
  have e := norm_eq h
  unfold machF
  dsimp only
  rw [e, h.en, h.qu]

/-- what a call of an enclave is refused for (0: nothing); s: the state that it must have (below 0: any) -/
def askF (M : Mv) (e s : Int) : Int := if machF M = 0 then (if inB e 1 4 = true then (if (M.ens.getD (e - 1).toNat default).st = 0 then 5 else if 0 ≤ s ∧ (M.ens.getD (e - 1).toNat default).st ≠ s then 8 else 0) else 5) else machF M
theorem askF_same {M N : Mv} (h : M.Same N) (e s : Int) : askF M e s = askF N e s := by
  unfold askF
  rw [machF_same h, h.en]
theorem askF_zero {M : Mv} {e s : Int} (h : askF M e s = 0) : machF M = 0 ∧ ∃ m : Nat, e = (m : Int) + 1 ∧ m < 4 ∧ (M.ens.getD m default).st ≠ 0 ∧ (0 ≤ s → (M.ens.getD m default).st = s) := by
  unfold askF at h
  by_cases h0 : machF M = 0
  · rw [if_pos h0] at h
    by_cases h1 : inB e 1 4 = true
    · rw [if_pos h1] at h
      have b := inB_iff.1 h1
      obtain ⟨m, rfl⟩ : ∃ m : Nat, e = (m : Int) + 1 := ⟨(e - 1).toNat, by omega⟩
      rw [show ((m : Int) + 1 - 1).toNat = m by omega] at h
      refine ⟨h0, m, rfl, by omega, fun q => ?_, fun q => ?_⟩
      · rw [if_pos q] at h; simp at h
      · by_cases h2 : (M.ens.getD m default).st = 0
        · rw [if_pos h2] at h; simp at h
        · rw [if_neg h2] at h
          by_cases h3 : (M.ens.getD m default).st = s
          · exact h3
          · rw [if_pos ⟨q, h3⟩] at h; simp at h
    · rw [if_neg h1] at h; simp at h
  · rw [if_neg h0] at h; exact absurd h h0
theorem st_at {M : Mv} {w : World} (hM : MachAt w M) (hz : machF M = 0) {m : Nat} (hm : m < 4) :
    ∃ eb eo, M.ea = some ⟨eb, eo, none⟩ ∧ ∀ w1, Below w.heap.size w w1 → w1.cell? ⟨eb, eo + m * 7, none⟩ = some (.int .i64 (M.ens.getD m default).st) := by
  have hs := (machF_sizes hz).2.1
  obtain ⟨eb, eo, e, c0, _⟩ := hM.enclave (j := m) (by omega)
  exact ⟨eb, eo, e, fun w1 hb => (hb.cell (p := ⟨eb, _, none⟩) (lt_of_cell c0)).trans c0⟩

set_option maxHeartbeats 1600000 in
theorem checkEnclave_any (M : Mv) (e : Int) (w : World) (hM : MachAt w M) :
    Calls Try.prog 83 #[M.val, .int .i64 e] w fun x w' => x = .returned (.int .i64 (askF M e (-1))) ∧ Below w.heap.size w w' := by
  have h1 := fun w' (h : Below w.heap.size w w') => checkM_any M w' (hM.below h)
  have B1 : ∀ o, Hid (Below w.heap.size w (w.alloc o)) := fun o => (Below.refl _ _).alloc (Nat.le_refl _) _
  have HX : ∀ o w1, Hid (Below (w.alloc o).heap.size (w.alloc o) w1 → Below w.heap.size w w1) := fun o w1 h => (B1 o).out.trans (h.mono (by simp))
  unfold askF
  unfold Mv.val at *
  by_cases hz : machF M = 0
  · rw [if_pos hz]
    by_cases c1 : e < 1
    · rw [inB_low (show ¬ 1 ≤ e by omega), if_neg (by simp)]
      rw [hz] at h1
      clear hM hz
      go_enter Try.func83, Try.ntmps83
      go_wp2_with (go_at_call 35; refine (h1 _ (B1 _).out).mono ?_; rintro x w1 ⟨rfl, hb1⟩)
      go_ret
      exact ⟨rfl, (HX _ _).out hb1⟩
    by_cases c2 : 4 < e
    · rw [inB_high (show ¬ e ≤ 4 by omega), if_neg (by simp)]
      rw [hz] at h1
      clear hM hz
      go_enter Try.func83, Try.ntmps83
      go_wp2_with (go_at_call 35; refine (h1 _ (B1 _).out).mono ?_; rintro x w1 ⟨rfl, hb1⟩)
      go_ret
      exact ⟨rfl, (HX _ _).out hb1⟩
    rw [inB_true (show 1 ≤ e by omega) (show e ≤ 4 by omega), if_pos rfl]
    obtain ⟨m, rfl⟩ : ∃ m : Nat, e = (m : Int) + 1 := ⟨(e - 1).toNat, by omega⟩
    rw [show ((m : Int) + 1 - 1).toNat = m by omega]
    have hm4 : m < 4 := by omega
    obtain ⟨eb, eo, hea, hst⟩ := st_at hM hz hm4
    have hs := (machF_sizes hz).2.1
    rw [hz] at h1
    rw [hea, hs] at h1 ⊢
    generalize (M.ens.getD m default).st = s at hst ⊢
    have hwm : IntKind.i64.wrap ((m : Int) + 1 - 1) = (m : Int) := by rw [IntKind.wrap_i64]; omega
    clear hM hz hea hs
    by_cases c3 : s = 0
    · subst c3
      rw [if_pos rfl]
      go_enter Try.func83, Try.ntmps83
      go_wp2_with (go_at_call 35; refine (h1 _ (B1 _).out).mono ?_; rintro x w1 ⟨rfl, hb1⟩; have HB : Hid (Below w.heap.size w w1) := (HX _ _).out hb1; have c0 := hst _ HB.out; obtain ⟨hc, hf⟩ := bcell hb1)
      go_ret
      exact ⟨rfl, HB.out⟩
    · have c3' : (s == 0) = false := by simpa using c3
      rw [if_neg c3, if_neg (by omega)]
      go_enter Try.func83, Try.ntmps83
      go_wp2_with (go_at_call 35; refine (h1 _ (B1 _).out).mono ?_; rintro x w1 ⟨rfl, hb1⟩; have HB : Hid (Below w.heap.size w w1) := (HX _ _).out hb1; have c0 := hst _ HB.out; obtain ⟨hc, hf⟩ := bcell hb1)
      go_ret
      exact ⟨rfl, HB.out⟩
  · rw [if_neg hz]
    have hz1 : (machF M != 0) = true := by simpa using hz
    clear hM hz
    generalize machF M = z at h1 hz1 ⊢
    go_enter Try.func83, Try.ntmps83
    go_wp2_with (go_at_call 35; refine (h1 _ (B1 _).out).mono ?_; rintro x w1 ⟨rfl, hb1⟩)
    go_ret
    exact ⟨rfl, (HX _ _).out hb1⟩

theorem askF_one (M : Mv) (e : Int) : askF M e 1 = if askF M e (-1) = 0 then (if (M.ens.getD (e - 1).toNat default).st = 1 then 0 else 8) else askF M e (-1) := by
  unfold askF
  by_cases h0 : machF M = 0
  · rw [if_pos h0, if_pos h0]
    by_cases h1 : inB e 1 4 = true
    · rw [if_pos h1, if_pos h1]
      by_cases h2 : (M.ens.getD (e - 1).toNat default).st = 0
      · rw [if_pos h2, if_pos h2]; simp
      · rw [if_neg h2, if_neg h2]
        generalize (M.ens.getD (e - 1).toNat default).st = t
        by_cases h3 : t = 1
        · subst h3; simp
        · simp [h3]
    · rw [if_neg h1, if_neg h1]; simp
  · rw [if_neg h0, if_neg h0, if_neg h0]

set_option maxHeartbeats 1600000 in
theorem checkOpened_any (M : Mv) (e : Int) (w : World) (hM : MachAt w M) :
    Calls Try.prog 81 #[M.val, .int .i64 e] w fun x w' => x = .returned (.int .i64 (askF M e 1)) ∧ Below w.heap.size w w' := by
  have h1 := fun w' (h : Below w.heap.size w w') => checkEnclave_any M e w' (hM.below h)
  have B1 : ∀ o, Hid (Below w.heap.size w (w.alloc o)) := fun o => (Below.refl _ _).alloc (Nat.le_refl _) _
  have HX : ∀ o w1, Hid (Below (w.alloc o).heap.size (w.alloc o) w1 → Below w.heap.size w w1) := fun o w1 h => (B1 o).out.trans (h.mono (by simp))
  rw [askF_one]
  unfold Mv.val at *
  by_cases hz : askF M e (-1) = 0
  · rw [if_pos hz]
    obtain ⟨g0, m, rfl, hm4, _, _⟩ := askF_zero hz
    rw [show ((m : Int) + 1 - 1).toNat = m by omega]
    obtain ⟨eb, eo, hea, hst⟩ := st_at hM g0 hm4
    have hs := (machF_sizes g0).2.1
    rw [hz] at h1
    rw [hea, hs] at h1 ⊢
    generalize (M.ens.getD m default).st = s at hst ⊢
    have hwm : IntKind.i64.wrap ((m : Int) + 1 - 1) = (m : Int) := by rw [IntKind.wrap_i64]; omega
    clear hM hz hea hs g0
    by_cases c3 : s = 1
    · subst c3
      rw [if_pos rfl]
      go_enter Try.func81, Try.ntmps81
      go_wp2_with (go_at_call 83; refine (h1 _ (B1 _).out).mono ?_; rintro x w1 ⟨rfl, hb1⟩; have HB : Hid (Below w.heap.size w w1) := (HX _ _).out hb1; have c0 := hst _ HB.out; obtain ⟨hc, hf⟩ := bcell hb1)
      go_ret
      exact ⟨rfl, HB.out⟩
    · have c3' : (s != 1) = true := by simpa using c3
      rw [if_neg c3]
      go_enter Try.func81, Try.ntmps81
      go_wp2_with (go_at_call 83; refine (h1 _ (B1 _).out).mono ?_; rintro x w1 ⟨rfl, hb1⟩; have HB : Hid (Below w.heap.size w w1) := (HX _ _).out hb1; have c0 := hst _ HB.out; obtain ⟨hc, hf⟩ := bcell hb1)
      go_ret
      exact ⟨rfl, HB.out⟩
  · rw [if_neg hz]
    have hz1 : (askF M e (-1) != 0) = true := by simpa using hz
    clear hM hz
    generalize askF M e (-1) = z at h1 hz1 ⊢
    go_enter Try.func81, Try.ntmps81
    go_wp2_with (go_at_call 83; refine (h1 _ (B1 _).out).mono ?_; rintro x w1 ⟨rfl, hb1⟩)
    go_ret
    exact ⟨rfl, (HX _ _).out hb1⟩

set_option maxHeartbeats 1600000 in
theorem asked_any (M : Mv) (e s : Int) (w : World) (hM : MachAt w M) :
    Calls Try.prog 82 #[M.val, .int .i64 e, .int .i64 s] w fun x w' => x = .returned (.int .i64 (askF M e s)) ∧ Below w.heap.size w w' := by
  have h1 := fun w' (h : Below w.heap.size w w') => machineFault_any M w' (hM.below h)
  have B1 : ∀ o, Hid (Below w.heap.size w (w.alloc o)) := fun o => (Below.refl _ _).alloc (Nat.le_refl _) _
  have HX : ∀ o w1, Hid (Below (w.alloc o).heap.size (w.alloc o) w1 → Below w.heap.size w w1) := fun o w1 h => (B1 o).out.trans (h.mono (by simp))
  unfold askF
  unfold Mv.val at *
  by_cases hz : machF M = 0
  · rw [if_pos hz]
    cases hi : inB e 1 4 with
    | false =>
      rw [if_neg (by simp)]
      rw [hz] at h1
      clear hM hz
      go_enter Try.func82, Try.ntmps82
      go_wp2_with (first | (go_at_call 36; refine (h1 _ (B1 _).out).mono ?_; rintro x w1 ⟨rfl, hb1⟩) | (go_at_call 61; refine (in_any _ _ _ _).mono ?_; rintro x w2 ⟨rfl, rfl⟩) | fail)
      go_ret
      exact ⟨rfl, (HX _ _).out hb1⟩
    | true =>
      rw [if_pos rfl]
      have b := inB_iff.1 hi
      obtain ⟨m, rfl⟩ : ∃ m : Nat, e = (m : Int) + 1 := ⟨(e - 1).toNat, by omega⟩
      rw [show ((m : Int) + 1 - 1).toNat = m by omega]
      have hm4 : m < 4 := by omega
      obtain ⟨eb, eo, hea, hst⟩ := st_at hM hz hm4
      have hs := (machF_sizes hz).2.1
      rw [hz] at h1
      rw [hea, hs] at h1 ⊢
      generalize (M.ens.getD m default).st = t at hst ⊢
      have hwm : IntKind.i64.wrap ((m : Int) + 1 - 1) = (m : Int) := by rw [IntKind.wrap_i64]; omega
      clear hM hz hea hs b
      by_cases c3 : t = 0
      · subst c3
        rw [if_pos rfl]
        go_enter Try.func82, Try.ntmps82
        go_wp2_with (first | (go_at_call 36; refine (h1 _ (B1 _).out).mono ?_; rintro x w1 ⟨rfl, hb1⟩; have HB : Hid (Below w.heap.size w w1) := (HX _ _).out hb1; have c0 := hst _ HB.out; obtain ⟨hc, hf⟩ := bcell hb1) | (go_at_call 61; refine (in_any _ _ _ _).mono ?_; rintro x w2 ⟨rfl, rfl⟩) | fail)
        go_ret
        exact ⟨rfl, HB.out⟩
      · have c3' : (t == 0) = false := by simpa using c3
        rw [if_neg c3]
        by_cases c4 : 0 ≤ s
        · by_cases c5 : t = s
          · subst c5
            rw [if_neg (by omega)]
            go_enter Try.func82, Try.ntmps82
            go_wp2_with (first | (go_at_call 36; refine (h1 _ (B1 _).out).mono ?_; rintro x w1 ⟨rfl, hb1⟩; have HB : Hid (Below w.heap.size w w1) := (HX _ _).out hb1; have c0 := hst _ HB.out; obtain ⟨hc, hf⟩ := bcell hb1) | (go_at_call 61; refine (in_any _ _ _ _).mono ?_; rintro x w2 ⟨rfl, rfl⟩) | fail)
            go_ret
            exact ⟨rfl, HB.out⟩
          · have c5' : (t != s) = true := by simpa using c5
            rw [if_pos ⟨c4, c5⟩]
            go_enter Try.func82, Try.ntmps82
            go_wp2_with (first | (go_at_call 36; refine (h1 _ (B1 _).out).mono ?_; rintro x w1 ⟨rfl, hb1⟩; have HB : Hid (Below w.heap.size w w1) := (HX _ _).out hb1; have c0 := hst _ HB.out; obtain ⟨hc, hf⟩ := bcell hb1) | (go_at_call 61; refine (in_any _ _ _ _).mono ?_; rintro x w2 ⟨rfl, rfl⟩) | fail)
            go_ret
            exact ⟨rfl, HB.out⟩
        · rw [if_neg (by omega)]
          go_enter Try.func82, Try.ntmps82
          go_wp2_with (first | (go_at_call 36; refine (h1 _ (B1 _).out).mono ?_; rintro x w1 ⟨rfl, hb1⟩; have HB : Hid (Below w.heap.size w w1) := (HX _ _).out hb1; have c0 := hst _ HB.out; obtain ⟨hc, hf⟩ := bcell hb1) | (go_at_call 61; refine (in_any _ _ _ _).mono ?_; rintro x w2 ⟨rfl, rfl⟩) | fail)
          go_ret
          exact ⟨rfl, HB.out⟩
  · rw [if_neg hz]
    have hz1 : (machF M != 0) = true := by simpa using hz
    clear hM hz
    generalize machF M = z at h1 hz1 ⊢
    go_enter Try.func82, Try.ntmps82
    go_wp2_with (go_at_call 36; refine (h1 _ (B1 _).out).mono ?_; rintro x w1 ⟨rfl, hb1⟩)
    go_ret
    exact ⟨rfl, (HX _ _).out hb1⟩

end Go.Proofs.Ytdbbiibnhgcndaa
