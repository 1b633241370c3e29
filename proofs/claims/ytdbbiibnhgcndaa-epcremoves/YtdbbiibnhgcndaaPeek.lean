/-
  What the calls Peek (epc) and PeekedOf (riddleref) answer for every machine and every numbers: both the same, and they turn nothing that was in memory. The condition: the machine's cells are there.
-/
import Derived.Test.YtdbbiibnhgcndaaRefFault
namespace Go.Proofs.Ytdbbiibnhgcndaa
open Go.RowKit

/-! What a machine is of which nothing is refused. -/
theorem machF_sizes {M : Mv} (h : machF M = 0) : M.frs.length = 24 ∧ M.ens.length = 4 ∧ M.qus.length ≤ 40 := by
  unfold machF at h
  split at h
  · assumption
  · simp at h
theorem machF_all {M : Mv} (h : machF M = 0) : M.ens.all En.good = true ∧ (List.range 24).all (frOk M.ens M.frs) = true ∧ M.qus.all Qu.good = true := by
  obtain ⟨s1, s2, s3⟩ := machF_sizes h
  rw [machF_eq s1 s2 s3] at h
  split at h
  · rename_i hh
    simp only [Bool.and_eq_true] at hh
    exact ⟨hh.1.1, hh.1.2, hh.2⟩
  · simp at h
theorem machF_frame {M : Mv} (h : machF M = 0) {j : Nat} (hj : j < 24) : Fr.good M.ens (M.frs.getD j default) = true := by
  have := List.all_eq_true.1 (machF_all h).2.1 j (by simpa using hj)
  unfold frOk at this
  rw [Bool.and_eq_true] at this
  exact this.1
theorem machF_words {M : Mv} (h : machF M = 0) {j : Nat} (hj : j < 24) : (M.frs.getD j default).ws.length = 8 ∧ mayW (M.frs.getD j default).ws = true ∧ inB (M.frs.getD j default).o 0 4 = true := by
  have hg := machF_frame h hj
  generalize M.frs.getD j default = P at hg
  obtain ⟨o, fat, r, fa, ws, fcap⟩ := P
  rw [good_eq] at hg
  simp only [Bool.and_eq_true] at hg
  exact ⟨(mayW_iff.1 hg.1.1.1.1).1, hg.1.1.1.1, hg.1.1.1.2⟩

theorem isFrameNumber_any (n : Int) (w : World) : Calls Try.prog 94 #[.int .i64 n] w fun e w' => e = .returned (.bool (inB n 0 23)) ∧ w = w' := by
  by_cases h1 : 0 ≤ n
  · by_cases h2 : n < 24
    · rw [inB_true h1 (by omega)]
      go_enter Try.func94, Try.ntmps94
      go_wp2
      go_ret
      exact ⟨rfl, rfl⟩
    · rw [inB_high (by omega)]
      go_enter Try.func94, Try.ntmps94
      go_wp2
      go_ret
      exact ⟨rfl, rfl⟩
  · rw [inB_low h1]
    go_enter Try.func94, Try.ntmps94
    go_wp2
    go_ret
    exact ⟨rfl, rfl⟩

/-- what a word of a machine's frame is refused for (0: nothing) -/
def wordF (M : Mv) (f at_ : Int) : Int := if machF M = 0 then (if inB f 0 23 && inB at_ 0 7 then 0 else 2) else machF M
theorem wordF_zero {M : Mv} {f at_ : Int} (h : wordF M f at_ = 0) : machF M = 0 ∧ inB f 0 23 = true ∧ inB at_ 0 7 = true := by
  unfold wordF at h
  split at h
  · rename_i hz
    split at h
    · rename_i hh
      simp only [Bool.and_eq_true] at hh
      exact ⟨hz, hh.1, hh.2⟩
    · simp at h
  · rename_i hz
    exact absurd h hz

theorem checkWord_any (M : Mv) (f at_ : Int) (w : World) (hM : MachAt w M) :
    Calls Try.prog 84 #[M.val, .int .i64 f, .int .i64 at_] w fun x w' => x = .returned (.int .i64 (wordF M f at_)) ∧ Below w.heap.size w w' := by
  have h1 := fun w' (h : Below w.heap.size w w') => checkM_any M w' (hM.below h)
  have h2 := fun w' => isFrameNumber_any f w'
  have B1 : ∀ o, Hid (Below w.heap.size w (w.alloc o)) := fun o => (Below.refl _ _).alloc (Nat.le_refl _) _
  have HX : ∀ o w1, Hid (Below (w.alloc o).heap.size (w.alloc o) w1 → Below w.heap.size w w1) := fun o w1 h => (B1 o).out.trans (h.mono (by simp))
  unfold wordF
  unfold Mv.val at *
  clear hM
  generalize machF M = z at h1 ⊢
  by_cases hz : z = 0
  · subst hz
    rw [if_pos rfl]
    cases hf : inB f 0 23 with
    | false =>
      rw [hf] at h2
      go_enter Try.func84, Try.ntmps84
      go_wp2_with (first | (go_at_call 35; refine (h1 _ (B1 _).out).mono ?_; rintro x w1 ⟨rfl, hb1⟩) | (go_at_call 94; refine (h2 _).mono ?_; rintro x w2 ⟨rfl, rfl⟩) | fail)
      go_ret
      exact ⟨rfl, (HX _ _).out hb1⟩
    | true =>
      rw [hf] at h2
      by_cases c1 : at_ < 0
      · rw [inB_low (show ¬ 0 ≤ at_ by omega)]
        go_enter Try.func84, Try.ntmps84
        go_wp2_with (first | (go_at_call 35; refine (h1 _ (B1 _).out).mono ?_; rintro x w1 ⟨rfl, hb1⟩) | (go_at_call 94; refine (h2 _).mono ?_; rintro x w2 ⟨rfl, rfl⟩) | fail)
        go_ret
        exact ⟨rfl, (HX _ _).out hb1⟩
      · by_cases c2 : 8 ≤ at_
        · rw [inB_high (show ¬ at_ ≤ 7 by omega)]
          go_enter Try.func84, Try.ntmps84
          go_wp2_with (first | (go_at_call 35; refine (h1 _ (B1 _).out).mono ?_; rintro x w1 ⟨rfl, hb1⟩) | (go_at_call 94; refine (h2 _).mono ?_; rintro x w2 ⟨rfl, rfl⟩) | fail)
          go_ret
          exact ⟨rfl, (HX _ _).out hb1⟩
        · rw [inB_true (show 0 ≤ at_ by omega) (show at_ ≤ 7 by omega)]
          go_enter Try.func84, Try.ntmps84
          go_wp2_with (first | (go_at_call 35; refine (h1 _ (B1 _).out).mono ?_; rintro x w1 ⟨rfl, hb1⟩) | (go_at_call 94; refine (h2 _).mono ?_; rintro x w2 ⟨rfl, rfl⟩) | fail)
          go_ret
          exact ⟨rfl, (HX _ _).out hb1⟩
  · have hz1 : (z != 0) = true := by simpa using hz
    rw [if_neg hz]
    go_enter Try.func84, Try.ntmps84
    go_wp2_with (go_at_call 35; refine (h1 _ (B1 _).out).mono ?_; rintro x w1 ⟨rfl, hb1⟩)
    go_ret
    exact ⟨rfl, (HX _ _).out hb1⟩

/-- what Peek answers -/
def peekN (M : Mv) (f at_ : Int) : Int := if wordF M f at_ = 0 then (if (M.frs.getD f.toNat default).o = 0 then (M.frs.getD f.toNat default).ws.getD at_.toNat 0 else 65535) else 0

/-- a word of a frame, and where it lies -/
theorem word_at {M : Mv} {w : World} (hM : MachAt w M) (hz : machF M = 0) {n m : Nat} (hn : n < 24) (hm : m < 8) :
    ∃ fb fo b off wcap, M.fa = some ⟨fb, fo, none⟩ ∧ ∀ w1, Below w.heap.size w w1 → w1.cell? ⟨fb, fo + n * 4, none⟩ = some (.int .i64 (M.frs.getD n default).o) ∧
      w1.cell? ⟨fb, fo + n * 4 + 3, none⟩ = some (.slice (some ⟨b, off, none⟩) 8 wcap) ∧ w1.cell? ⟨b, off + m, none⟩ = some (.int .i64 ((M.frs.getD n default).ws.getD m 0)) := by
  have hs := (machF_sizes hz).1
  obtain ⟨fb, fo, e, c0, _, _, c3⟩ := hM.frame (j := n) (by omega)
  have ok := hM.frok n (by omega)
  have h8 := (machF_words hz hn).1
  rcases ok.ints with h0 | ⟨b, off, ha, hc⟩
  · rw [h0] at h8; simp at h8
  · refine ⟨fb, fo, b, off, (M.frs.getD n default).cap, e, fun w1 hb => ⟨(hb.cell (p := ⟨fb, _, none⟩) (lt_of_cell c0)).trans c0, ?_, ?_⟩⟩
    · rw [(hb.cell (p := ⟨fb, _, none⟩) (lt_of_cell c3)), c3, h8, ha]
    · have := hc m (by omega)
      exact (hb.cell (p := ⟨b, _, none⟩) (lt_of_cell this)).trans this

theorem ret_two {a b c d : Int} (h1 : a = c) (h2 : b = d) : Ending.returned (.tuple #[.int .i64 a, .int .i64 b]) = .returned (.tuple #[.int .i64 c, .int .i64 d]) := by rw [h1, h2]

set_option maxHeartbeats 800000 in
theorem peek_any (M : Mv) (f at_ : Int) (w : World) (hM : MachAt w M) :
    Calls Try.prog 45 #[M.val, .int .i64 f, .int .i64 at_] w fun x w' => x = .returned (.tuple #[.int .i64 (peekN M f at_), .int .i64 (wordF M f at_)]) ∧ Below w.heap.size w w' := by
  have h1 := fun w' (h : Below w.heap.size w w') => checkWord_any M f at_ w' (hM.below h)
  have B1 : ∀ o, Hid (Below w.heap.size w (w.alloc o)) := fun o => (Below.refl _ _).alloc (Nat.le_refl _) _
  have HX : ∀ o w1, Hid (Below (w.alloc o).heap.size (w.alloc o) w1 → Below w.heap.size w w1) := fun o w1 h => (B1 o).out.trans (h.mono (by simp))
  unfold peekN
  by_cases hz : wordF M f at_ = 0
  · obtain ⟨g0, g1, g2⟩ := wordF_zero hz
    rw [hz] at h1 ⊢
    rw [if_pos rfl]
    have b1 := inB_iff.1 g1
    have b2 := inB_iff.1 g2
    obtain ⟨n, rfl⟩ : ∃ n : Nat, f = (n : Int) := ⟨f.toNat, by omega⟩
    obtain ⟨m, rfl⟩ : ∃ m : Nat, at_ = (m : Int) := ⟨at_.toNat, by omega⟩
    have hs := (machF_sizes g0).1
    obtain ⟨fb, fo, b, off, wcap, hfa, hw⟩ := word_at hM g0 (n := n) (m := m) (by omega) (by omega)
    simp only [Int.toNat_natCast]
    unfold Mv.val at h1 ⊢
    rw [hfa, hs] at h1 ⊢
    obtain ⟨o, ho⟩ : ∃ o, Hid (o = (M.frs.getD n default).o) := ⟨_, rfl⟩
    obtain ⟨v, hv⟩ : ∃ v, Hid (v = (M.frs.getD n default).ws.getD m 0) := ⟨_, rfl⟩
    rw [← ho.out, ← hv.out] at hw ⊢
    clear hM hs hfa hz g0 g1 g2 ho hv
    by_cases c : o = 0
    · subst c
      rw [if_pos rfl]
      go_enter Try.func45, Try.ntmps45
      go_wp2_with (go_at_call 84; refine (h1 _ (B1 _).out).mono ?_; rintro x w1 ⟨rfl, hb1⟩; have HB : Hid (Below w.heap.size w w1) := (HX _ _).out hb1; obtain ⟨c0, c1, c2⟩ := hw _ HB.out; obtain ⟨hc, hf⟩ := bcell hb1)
      go_ret2
      exact ⟨rfl, HB.out⟩
    · have c' : (o != 0) = true := by simpa using c
      rw [if_neg c]
      go_enter Try.func45, Try.ntmps45
      go_wp2_with (go_at_call 84; refine (h1 _ (B1 _).out).mono ?_; rintro x w1 ⟨rfl, hb1⟩; have HB : Hid (Below w.heap.size w w1) := (HX _ _).out hb1; obtain ⟨c0, c1, c2⟩ := hw _ HB.out; obtain ⟨hc, hf⟩ := bcell hb1)
      go_ret2
      exact ⟨rfl, HB.out⟩
  · rw [if_neg hz]
    have hz1 : (wordF M f at_ != 0) = true := by simpa using hz
    clear hM hz
    unfold Mv.val at *
    generalize wordF M f at_ = z at h1 hz1 ⊢
    go_enter Try.func45, Try.ntmps45
    go_wp2_with (go_at_call 84; refine (h1 _ (B1 _).out).mono ?_; rintro x w1 ⟨rfl, hb1⟩)
    go_ret2
    exact ⟨rfl, (HX _ _).out hb1⟩

set_option maxHeartbeats 800000 in
theorem peekedOf_any (M : Mv) (f at_ : Int) (w : World) (hM : MachAt w M) :
    Calls Try.prog 46 #[M.val, .int .i64 f, .int .i64 at_] w fun x w' => x = .returned (.tuple #[.int .i64 (peekN M f at_), .int .i64 (wordF M f at_)]) ∧ Below w.heap.size w w' := by
  have h1 := fun w' (h : Below w.heap.size w w') => machineFault_any M w' (hM.below h)
  have B1 : ∀ o, Hid (Below w.heap.size w (w.alloc o)) := fun o => (Below.refl _ _).alloc (Nat.le_refl _) _
  have HX : ∀ o w1, Hid (Below (w.alloc o).heap.size (w.alloc o) w1 → Below w.heap.size w w1) := fun o w1 h => (B1 o).out.trans (h.mono (by simp))
  unfold peekN
  by_cases hz : wordF M f at_ = 0
  · obtain ⟨g0, g1, g2⟩ := wordF_zero hz
    rw [hz]
    rw [g0] at h1
    rw [if_pos rfl]
    have b1 := inB_iff.1 g1
    have b2 := inB_iff.1 g2
    obtain ⟨n, rfl⟩ : ∃ n : Nat, f = (n : Int) := ⟨f.toNat, by omega⟩
    obtain ⟨m, rfl⟩ : ∃ m : Nat, at_ = (m : Int) := ⟨at_.toNat, by omega⟩
    have hs := (machF_sizes g0).1
    have ho4 := inB_iff.1 (machF_words g0 (j := n) (by omega)).2.2
    obtain ⟨fb, fo, b, off, wcap, hfa, hw⟩ := word_at hM g0 (n := n) (m := m) (by omega) (by omega)
    simp only [Int.toNat_natCast]
    unfold Mv.val at h1 ⊢
    rw [hfa, hs] at h1 ⊢
    obtain ⟨o, ho⟩ : ∃ o, Hid (o = (M.frs.getD n default).o) := ⟨_, rfl⟩
    obtain ⟨v, hv⟩ : ∃ v, Hid (v = (M.frs.getD n default).ws.getD m 0) := ⟨_, rfl⟩
    rw [← ho.out] at ho4
    rw [← ho.out, ← hv.out] at hw ⊢
    clear hM hs hfa hz g0 ho hv
    by_cases c : o = 0
    · subst c
      rw [if_pos rfl]
      go_enter Try.func46, Try.ntmps46
      go_wp2_with (first | (go_at_call 36; refine (h1 _ (B1 _).out).mono ?_; rintro x w1 ⟨rfl, hb1⟩; have HB : Hid (Below w.heap.size w w1) := (HX _ _).out hb1; obtain ⟨c0, c1, c2⟩ := hw _ HB.out; obtain ⟨hc, hf⟩ := bcell hb1) | (go_at_call 61; refine (in_any _ _ _ _).mono ?_; rintro x w2 ⟨rfl, rfl⟩) | fail)
      go_ret2
      exact ⟨rfl, HB.out⟩
    · have c' : 0 < o := by omega
      rw [if_neg c]
      go_enter Try.func46, Try.ntmps46
      go_wp2_with (first | (go_at_call 36; refine (h1 _ (B1 _).out).mono ?_; rintro x w1 ⟨rfl, hb1⟩; have HB : Hid (Below w.heap.size w w1) := (HX _ _).out hb1; obtain ⟨c0, c1, c2⟩ := hw _ HB.out; obtain ⟨hc, hf⟩ := bcell hb1) | (go_at_call 61; refine (in_any _ _ _ _).mono ?_; rintro x w2 ⟨rfl, rfl⟩) | fail)
      go_ret2
      exact ⟨rfl, HB.out⟩
  · rw [if_neg hz]
    unfold wordF at hz ⊢
    clear hM
    unfold Mv.val at *
    generalize machF M = z at h1 hz ⊢
    by_cases hq : z = 0
    · subst hq
      rw [if_pos rfl] at hz ⊢
      cases hf : inB f 0 23 with
      | false =>
        go_enter Try.func46, Try.ntmps46
        go_wp2_with (first | (go_at_call 36; refine (h1 _ (B1 _).out).mono ?_; rintro x w1 ⟨rfl, hb1⟩) | (go_at_call 61; refine (in_any _ _ _ _).mono ?_; rintro x w2 ⟨rfl, rfl⟩) | fail)
        go_ret2
        exact ⟨rfl, (HX _ _).out hb1⟩
      | true =>
        cases ha : inB at_ 0 7 with
        | true => simp [hf, ha] at hz
        | false =>
          clear hz
          go_enter Try.func46, Try.ntmps46
          go_wp2_with (first | (go_at_call 36; refine (h1 _ (B1 _).out).mono ?_; rintro x w1 ⟨rfl, hb1⟩) | (go_at_call 61; refine (in_any _ _ _ _).mono ?_; rintro x w2 ⟨rfl, rfl⟩) | fail)
          go_ret2
          exact ⟨rfl, (HX _ _).out hb1⟩
    · have hq1 : (z == 0) = false := by simpa using hq
      have hq2 : (z != 0) = true := by simpa using hq
      rw [if_neg hq]
      clear hz hq
      go_enter Try.func46, Try.ntmps46
      go_wp2_with (go_at_call 36; refine (h1 _ (B1 _).out).mono ?_; rintro x w1 ⟨rfl, hb1⟩)
      go_ret2
      exact ⟨rfl, (HX _ _).out hb1⟩

end Go.Proofs.Ytdbbiibnhgcndaa
