/-
  What the calls Peek (epc) and PeekedOf (riddleref) answer for every machine and every numbers: both the same, and they turn nothing that was in memory. The condition: the machine's cells are there.
-/
import Derived.Test.YtdbbiibnhgcndaaDoorRefFault
namespace Go.Proofs.YtdbbiibnhgcndaaDoor
open Go.RowKit

/-! What a machine is of which nothing is refused. -/
theorem machF_sizes {M : Mv} (h : machF M = 0) : M.frs.length = 24 ∧ M.ens.length = 4 ∧ M.qus.length ≤ 40 := by
  unfold machF at h
  split at h
  · assumption
  · simp at h
theorem machF_all {M : Mv} (h : machF M = 0) : M.ens.all En.good = true ∧ (List.range 24).all (frOk M.ens M.frs) = true ∧ M.qus.all Qu.good = true := by
  obtain ⟨s1, s2, s3⟩ := machF_sizes h
  rw [machF_eq s1 s2 s3] at h
  split at h
  · rename_i hh
    simp only [Bool.and_eq_true] at hh
    exact ⟨hh.1.1, hh.1.2, hh.2⟩
  · simp at h
theorem machF_frame {M : Mv} (h : machF M = 0) {j : Nat} (hj : j < 24) : Fr.good M.ens (M.frs.getD j default) = true := by
  have := List.all_eq_true.1 (machF_all h).2.1 j (by simpa using hj)
  unfold frOk at this
  rw [Bool.and_eq_true] at this
  exact this.1
theorem machF_words {M : Mv} (h : machF M = 0) {j : Nat} (hj : j < 24) : (M.frs.getD j default).ws.length = 8 ∧ mayW (M.frs.getD j default).ws = true ∧ inB (M.frs.getD j default).o 0 4 = true := by
  have hg := machF_frame h hj
  generalize M.frs.getD j default = P at hg
  obtain ⟨o, fat, r, fa, ws, fcap⟩ := P
  rw [good_eq] at hg
  simp only [Bool.and_eq_true] at hg
  exact ⟨(mayW_iff.1 hg.1.1.1.1).1, hg.1.1.1.1, hg.1.1.1.2⟩

theorem isFrameNumber_any (n : Int) (w : World) : Calls Tryd.prog 52 #[.int .i64 n] w fun e w' => e = .returned (.bool (inB n 0 23)) ∧ w = w' := by
  by_cases h1 : 0 ≤ n
  · by_cases h2 : n < 24
    · rw [inB_true h1 (by omega)]
      go_enter Tryd.func52, Tryd.ntmps52
      go_wp2
      go_ret
      exact ⟨rfl, rfl⟩
    · rw [inB_high (by omega)]
      go_enter Tryd.func52, Tryd.ntmps52
      go_wp2
      go_ret
      exact ⟨rfl, rfl⟩
  · rw [inB_low h1]
    go_enter Tryd.func52, Tryd.ntmps52
    go_wp2
    go_ret
    exact ⟨rfl, rfl⟩

/-- what a word of a machine's frame is refused for (0: nothing) -/
def wordF (M : Mv) (f at_ : Int) : Int := if machF M = 0 then (if inB f 0 23 && inB at_ 0 7 then 0 else 2) else machF M
theorem wordF_zero {M : Mv} {f at_ : Int} (h : wordF M f at_ = 0) : machF M = 0 ∧ inB f 0 23 = true ∧ inB at_ 0 7 = true := by
  unfold wordF at h
  split at h
  · rename_i hz
    split at h
    · rename_i hh
      simp only [Bool.and_eq_true] at hh
      exact ⟨hz, hh.1, hh.2⟩
    · simp at h
  · rename_i hz
    exact absurd h hz

/-- what Peek answers -/
def peekN (M : Mv) (f at_ : Int) : Int := if wordF M f at_ = 0 then (if (M.frs.getD f.toNat default).o = 0 then (M.frs.getD f.toNat default).ws.getD at_.toNat 0 else 65535) else 0

/-- a word of a frame, and where it lies -/
theorem word_at {M : Mv} {w : World} (hM : MachAt w M) (hz : machF M = 0) {n m : Nat} (hn : n < 24) (hm : m < 8) :
    ∃ fb fo b off wcap, M.fa = some ⟨fb, fo, none⟩ ∧ ∀ w1, Below w.heap.size w w1 → w1.cell? ⟨fb, fo + n * 4, none⟩ = some (.int .i64 (M.frs.getD n default).o) ∧
      w1.cell? ⟨fb, fo + n * 4 + 3, none⟩ = some (.slice (some ⟨b, off, none⟩) 8 wcap) ∧ w1.cell? ⟨b, off + m, none⟩ = some (.int .i64 ((M.frs.getD n default).ws.getD m 0)) := by
  have hs := (machF_sizes hz).1
  obtain ⟨fb, fo, e, c0, _, _, c3⟩ := hM.frame (j := n) (by omega)
  have ok := hM.frok n (by omega)
  have h8 := (machF_words hz hn).1
  rcases ok.ints with h0 | ⟨b, off, ha, hc⟩
  · rw [h0] at h8; simp at h8
  · refine ⟨fb, fo, b, off, (M.frs.getD n default).cap, e, fun w1 hb => ⟨(hb.cell (p := ⟨fb, _, none⟩) (lt_of_cell c0)).trans c0, ?_, ?_⟩⟩
    · rw [(hb.cell (p := ⟨fb, _, none⟩) (lt_of_cell c3)), c3, h8, ha]
    · have := hc m (by omega)
      exact (hb.cell (p := ⟨b, _, none⟩) (lt_of_cell this)).trans this

theorem ret_two {a b c d : Int} (h1 : a = c) (h2 : b = d) : Ending.returned (.tuple #[.int .i64 a, .int .i64 b]) = .returned (.tuple #[.int .i64 c, .int .i64 d]) := by rw [h1, h2]

end Go.Proofs.YtdbbiibnhgcndaaDoor
