/-
  What the call sameChallenger (riddlelaw) answers where both challengers hold the same: true; it turns nothing that was in memory. The condition: the cells are there.
-/
import Derived.Test.YtdbbiibnhgcndaaChal
namespace Go.Proofs.Ytdbbiibnhgcndaa
open Go.RowKit

set_option maxRecDepth 100000 in
set_option maxHeartbeats 1600000 in
theorem sameC_any (C D : Cv) (w : World) (hC : ChalAt w C) (hD : ChalAt w D) (hS : C.Same D) :
    Calls Try.prog 52 #[C.val, D.val] w fun e w' => e = .returned (.bool true) ∧ Below w.heap.size w w' := by
  have hl1 := hC.ok.trl
  have hl2 := hC.ok.nsl
  unfold maxLen at hl1
  unfold Cv.val
  obtain ⟨ta, tr, tcap, na, ns, ncap⟩ := C
  obtain ⟨ta', tr', tcap', na', ns', ncap'⟩ := D
  obtain ⟨rfl, rfl⟩ := hS
  dsimp only at *
  obtain ⟨W0, hW0⟩ : ∃ W0, Hid (W0 = (w.alloc (.cells #[.slice ta tr.length tcap, .slice na ns.length ncap] 61)).alloc (.cells #[.slice ta' tr.length tcap', .slice na' ns.length ncap'] 61)) := ⟨_, rfl⟩
  have BW : Hid (Below w.heap.size w W0) := by show Below _ _ _; rw [hW0.out]; exact ((Below.refl _ _).alloc (Nat.le_refl _) _).alloc (by simp) _
  have p0 : Hid (W0.cell? ⟨w.heap.size, 0, none⟩ = some (.slice ta tr.length tcap)) := by show _ = _; rw [hW0.out, World.cell?_alloc_past _ _ _ (by simp), World.cell?_alloc_at _ _ _ _ rfl]; rfl
  have p1 : Hid (W0.cell? ⟨w.heap.size, 1, none⟩ = some (.slice na ns.length ncap)) := by show _ = _; rw [hW0.out, World.cell?_alloc_past _ _ _ (by simp), World.cell?_alloc_at _ _ _ _ rfl]; rfl
  have q0 : Hid (W0.cell? ⟨w.heap.size + 1, 0, none⟩ = some (.slice ta' tr.length tcap')) := by show _ = _; rw [hW0.out, World.cell?_alloc_at _ _ _ _ (by simp)]; rfl
  have q1 : Hid (W0.cell? ⟨w.heap.size + 1, 1, none⟩ = some (.slice na' ns.length ncap')) := by show _ = _; rw [hW0.out, World.cell?_alloc_at _ _ _ _ (by simp)]; rfl
  have hM0 := hC.below BW.out
  have hN0 := hD.below BW.out
  go_enter Try.func52, Try.ntmps52
  go_wp2
  rw [← hW0.out]
  clear hW0 hC hD
  go_loopw [5] (fun i wr => ∃ k : Nat, k ≤ tr.length ∧ i = .int .i64 k ∧ Below W0.heap.size W0 wr) (fun i _ => tr.length - (intOf i).toNat)
  case atStart => exact ⟨0, Nat.zero_le _, rfl, Below.refl _ _⟩
  case round =>
    obtain ⟨k, hk, rfl, hbel⟩ := hrel
    have P0 : wr.cell? ⟨w.heap.size, 0, none⟩ = some (.slice ta tr.length tcap) := (hbel.cell (p := ⟨w.heap.size, 0, none⟩) (lt_of_cell p0.out)).trans p0.out
    have Q0 : wr.cell? ⟨w.heap.size + 1, 0, none⟩ = some (.slice ta' tr.length tcap') := (hbel.cell (p := ⟨w.heap.size + 1, 0, none⟩) (lt_of_cell q0.out)).trans q0.out
    have b1 : w.heap.size < wr.heap.size := lt_of_cell P0
    have b2 : w.heap.size + 1 < wr.heap.size := lt_of_cell Q0
    by_cases hlt : k < tr.length
    · rcases (hM0.below hbel).tr with h0 | ⟨xb, xo, hxa, c⟩
      · dsimp only at h0; rw [h0] at hlt; simp at hlt
      rcases (hN0.below hbel).tr with h0 | ⟨yb, yo, hya, d⟩
      · dsimp only at h0; rw [h0] at hlt; simp at hlt
      have c0 := c k hlt
      have d0 := d k hlt
      dsimp only at hxa hya c0 d0
      subst hxa hya
      generalize tr.getD k default = P at c0 d0
      clear hM0 hN0 p0 p1 q0 q1 c d
      go_wp2
      go_quiet (fail)
      go_wp2
      go_roundw
      case rel => exact ⟨k + 1, by omega, by go_num, below_drewN hbel _⟩
      case measure => simp [intOf]; omega
    · have hge : ¬ ((k : Int) < (tr.length : Int)) := by omega
      have P1 : wr.cell? ⟨w.heap.size, 1, none⟩ = some (.slice na ns.length ncap) := (hbel.cell (p := ⟨w.heap.size, 1, none⟩) (lt_of_cell p1.out)).trans p1.out
      have Q1 : wr.cell? ⟨w.heap.size + 1, 1, none⟩ = some (.slice na' ns.length ncap') := (hbel.cell (p := ⟨w.heap.size + 1, 1, none⟩) (lt_of_cell q1.out)).trans q1.out
      have hcall := sameInts_any na na' ns ncap ncap' wr hl2 (hM0.below hbel).ns (hN0.below hbel).ns
      clear hM0 hN0 p0 p1 q0 q1
      go_wp2_with (go_at_call 64; refine hcall.mono ?_; rintro e w1 ⟨rfl, n, rfl⟩)
      go_ret
      exact ⟨rfl, below_drewN (BW.out.trans (hbel.mono BW.out.size)) n⟩

end Go.Proofs.Ytdbbiibnhgcndaa
