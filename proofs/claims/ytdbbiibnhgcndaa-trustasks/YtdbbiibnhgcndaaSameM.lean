/-
  What the call sameMachine (riddlelaw) answers where both machines hold the same: true; it turns nothing that was in memory. The condition: the machines' cells are there.
-/
import Derived.Test.YtdbbiibnhgcndaaSameI
import Derived.Test.YtdbbiibnhgcndaaEqVal
namespace Go.Proofs.Ytdbbiibnhgcndaa
open Go.RowKit

/-- two frames hold the same -/
def Fr.Same (p q : Fr) : Prop := p.o = q.o ∧ p.at_ = q.at_ ∧ p.r = q.r ∧ p.ws = q.ws
/-- two machines hold the same -/
structure Mv.Same (M N : Mv) : Prop where
  len : M.frs.length = N.frs.length
  fr : ∀ j, j < M.frs.length → (M.frs.getD j default).Same (N.frs.getD j default)
  en : M.ens = N.ens
  qu : M.qus = N.qus
theorem Mv.Same.refl (M : Mv) : M.Same M := ⟨rfl, fun _ _ => ⟨rfl, rfl, rfl, rfl⟩, rfl, rfl⟩
theorem Mv.Same.symm {M N : Mv} (h : M.Same N) : N.Same M := ⟨h.len.symm, fun j hj => by obtain ⟨a, b, c, d⟩ := h.fr j (by rw [h.len]; exact hj); exact ⟨a.symm, b.symm, c.symm, d.symm⟩, h.en.symm, h.qu.symm⟩
theorem Mv.Same.trans {M N K : Mv} (h : M.Same N) (g : N.Same K) : M.Same K := ⟨h.len.trans g.len, fun j hj => by
  obtain ⟨a, b, c, d⟩ := h.fr j hj
  obtain ⟨a', b', c', d'⟩ := g.fr j (by rw [← h.len]; exact hj)
  exact ⟨a.trans a', b.trans b', c.trans c', d.trans d'⟩, h.en.trans g.en, h.qu.trans g.qu⟩

set_option maxRecDepth 100000 in
set_option maxHeartbeats 4000000 in
theorem sameMachine_any (M N : Mv) (w : World) (hM : MachAt w M) (hN : MachAt w N) (hS : M.Same N) :
    Calls Try.prog 34 #[M.val, N.val] w fun e w' => e = .returned (.bool true) ∧ Below w.heap.size w w' := by
  have hl1 := hM.frl
  have hl2 := hM.enl
  have hl3 := hM.qul
  unfold maxLen at hl1 hl2 hl3
  unfold Mv.val
  obtain ⟨fa, frs, fcap, ea, ens, ecap, qa, qus, qcap⟩ := M
  obtain ⟨fb, gs, gcap, eb, ens', ecap', qb, qus', qcap'⟩ := N
  obtain ⟨sl, sf, se, sq⟩ := hS
  dsimp only at *
  subst se sq
  rw [← sl]
  have SL : Hid (gs.length = frs.length) := sl.symm
  obtain ⟨nf, hnf⟩ : ∃ nf, Hid (nf = frs.length) := ⟨_, rfl⟩
  obtain ⟨ne, hne⟩ : ∃ ne, Hid (ne = ens.length) := ⟨_, rfl⟩
  obtain ⟨nq, hnq⟩ : ∃ nq, Hid (nq = qus.length) := ⟨_, rfl⟩
  rw [← hnf.out] at hl1
  rw [← hne.out] at hl2
  rw [← hnq.out] at hl3
  rw [← hnf.out, ← hne.out, ← hnq.out]
  clear sl
  obtain ⟨W0, hW0⟩ : ∃ W0, Hid (W0 = (w.alloc (.cells #[.slice fa nf fcap, .slice ea ne ecap, .slice qa nq qcap] 43)).alloc (.cells #[.slice fb nf gcap, .slice eb ne ecap', .slice qb nq qcap'] 43)) := ⟨_, rfl⟩
  have BW : Hid (Below w.heap.size w W0) := by show Below _ _ _; rw [hW0.out]; exact ((Below.refl _ _).alloc (Nat.le_refl _) _).alloc (by simp) _
  have p0 : Hid (W0.cell? ⟨w.heap.size, 0, none⟩ = some (.slice fa nf fcap)) := by show _ = _; rw [hW0.out, World.cell?_alloc_past _ _ _ (by simp), World.cell?_alloc_at _ _ _ _ rfl]; rfl
  have p1 : Hid (W0.cell? ⟨w.heap.size, 1, none⟩ = some (.slice ea ne ecap)) := by show _ = _; rw [hW0.out, World.cell?_alloc_past _ _ _ (by simp), World.cell?_alloc_at _ _ _ _ rfl]; rfl
  have p2 : Hid (W0.cell? ⟨w.heap.size, 2, none⟩ = some (.slice qa nq qcap)) := by show _ = _; rw [hW0.out, World.cell?_alloc_past _ _ _ (by simp), World.cell?_alloc_at _ _ _ _ rfl]; rfl
  have q0 : Hid (W0.cell? ⟨w.heap.size + 1, 0, none⟩ = some (.slice fb nf gcap)) := by show _ = _; rw [hW0.out, World.cell?_alloc_at _ _ _ _ (by simp)]; rfl
  have q1 : Hid (W0.cell? ⟨w.heap.size + 1, 1, none⟩ = some (.slice eb ne ecap')) := by show _ = _; rw [hW0.out, World.cell?_alloc_at _ _ _ _ (by simp)]; rfl
  have q2 : Hid (W0.cell? ⟨w.heap.size + 1, 2, none⟩ = some (.slice qb nq qcap')) := by show _ = _; rw [hW0.out, World.cell?_alloc_at _ _ _ _ (by simp)]; rfl
  have hM0 := hM.below BW.out
  have hN0 := hN.below BW.out
  have HF : Hid (Below w.heap.size w W0 ∧ True) := ⟨BW.out, trivial⟩
  go_enter Try.func34, Try.ntmps34
  go_wp2
  rw [← hW0.out]
  clear hW0 hM hN
  go_loopw [5] (fun i wr => ∃ k : Nat, k ≤ nf ∧ i = .int .i64 k ∧ Below W0.heap.size W0 wr) (fun i _ => nf - (intOf i).toNat)
  case atStart => exact ⟨0, Nat.zero_le _, rfl, Below.refl _ _⟩
  case round =>
    obtain ⟨k, hk, rfl, hbel⟩ := hrel
    have P0 : wr.cell? ⟨w.heap.size, 0, none⟩ = some (.slice fa nf fcap) := (hbel.cell (p := ⟨w.heap.size, 0, none⟩) (lt_of_cell p0.out)).trans p0.out
    have Q0 : wr.cell? ⟨w.heap.size + 1, 0, none⟩ = some (.slice fb nf gcap) := (hbel.cell (p := ⟨w.heap.size + 1, 0, none⟩) (lt_of_cell q0.out)).trans q0.out
    have b1 : w.heap.size < wr.heap.size := lt_of_cell P0
    have b2 : w.heap.size + 1 < wr.heap.size := lt_of_cell Q0
    by_cases hlt : k < nf
    · have hMr := hM0.below hbel
      have hNr := hN0.below hbel
      obtain ⟨xb, xo, hxa, c0, c1, c2, c3⟩ := hMr.frame (j := k) (by dsimp only; rw [← hnf.out]; exact hlt)
      obtain ⟨yb, yo, hya, d0, d1, d2, d3⟩ := hNr.frame (j := k) (by dsimp only; rw [SL.out, ← hnf.out]; exact hlt)
      have okM := hMr.frok k (by dsimp only; rw [← hnf.out]; exact hlt)
      have okN := hNr.frok k (by dsimp only; rw [SL.out, ← hnf.out]; exact hlt)
      obtain ⟨e0, e1, e2, e3⟩ := sf k (by rw [← hnf.out]; exact hlt)
      dsimp only at hxa hya c0 c1 c2 c3 d0 d1 d2 d3 okM okN
      subst hxa hya
      generalize frs.getD k default = P at c0 c1 c2 c3 e0 e1 e2 e3 okM
      generalize gs.getD k default = Q at d0 d1 d2 d3 e0 e1 e2 e3 okN
      obtain ⟨o, fat, r, pa, ws, pcap⟩ := P
      obtain ⟨o', fat', r', ra, ws', rcap⟩ := Q
      dsimp only at c0 c1 c2 c3 d0 d1 d2 d3 e0 e1 e2 e3
      subst e0 e1 e2 e3
      have BZ : ∀ o1 o2, Hid (Below wr.heap.size wr ((wr.alloc o1).alloc o2)) := fun o1 o2 => ((Below.refl _ _).alloc (Nat.le_refl _) _).alloc (by simp) _
      have hcall := fun w' (h : Below wr.heap.size wr w') => sameInts_any pa ra ws pcap rcap w' okM.len (okM.ints.below h) (okN.ints.below h)
      have b3 : xb < wr.heap.size := lt_of_cell c0
      have b4 : yb < wr.heap.size := lt_of_cell d0
      generalize ws.length = nl at *
      clear hMr hNr okM okN hM0 hN0 sf p0 p1 p2 q0 q1 q2
      go_wp2_with (go_at_call 64; refine (hcall _ (BZ _ _).out).mono ?_; rintro e w1 ⟨rfl, n, rfl⟩)
      go_roundw
      case rel => exact ⟨k + 1, by omega, by go_num, below_drewN (hbel.trans ((BZ _ _).out.mono hbel.size)) n⟩
      case measure => simp [intOf]; omega
    · have hge : ¬ ((k : Int) < (nf : Int)) := by omega
      clear sf SL hnf hlt
      rename World => wa
      have P1 : wa.cell? ⟨w.heap.size, 1, none⟩ = some (.slice ea ne ecap) := (hbel.cell (p := ⟨w.heap.size, 1, none⟩) (lt_of_cell p1.out)).trans p1.out
      go_wp2
      go_loopw [8] (fun i wr => ∃ k : Nat, k ≤ ne ∧ i = .int .i64 k ∧ Below W0.heap.size W0 wr) (fun i _ => ne - (intOf i).toNat)
      case atStart => exact ⟨0, Nat.zero_le _, rfl, hbel⟩
      case round =>
        clear P0 Q0 P1 b1 b2 hbel
        obtain ⟨j, hj, rfl, hbel⟩ := hrel
        have P1 : wr.cell? ⟨w.heap.size, 1, none⟩ = some (.slice ea ne ecap) := (hbel.cell (p := ⟨w.heap.size, 1, none⟩) (lt_of_cell p1.out)).trans p1.out
        have Q1 : wr.cell? ⟨w.heap.size + 1, 1, none⟩ = some (.slice eb ne ecap') := (hbel.cell (p := ⟨w.heap.size + 1, 1, none⟩) (lt_of_cell q1.out)).trans q1.out
        by_cases hlt : j < ne
        · obtain ⟨xb, xo, hxa, c0, c1, c2, c3, c4, c5, c6⟩ := (hM0.below hbel).enclave (j := j) (by dsimp only; rw [← hne.out]; exact hlt)
          obtain ⟨yb, yo, hya, d0, d1, d2, d3, d4, d5, d6⟩ := (hN0.below hbel).enclave (j := j) (by dsimp only; rw [← hne.out]; exact hlt)
          dsimp only at hxa hya c0 c1 c2 c3 c4 c5 c6 d0 d1 d2 d3 d4 d5 d6
          subst hxa hya
          generalize ens.getD j default = P at c0 c1 c2 c3 c4 c5 c6 d0 d1 d2 d3 d4 d5 d6
          obtain ⟨st, lg, pc, g0, g1, g2, g3⟩ := P
          dsimp only at c0 c1 c2 c3 c4 c5 c6 d0 d1 d2 d3 d4 d5 d6
          have hE : ∀ w', (Op.equalIn 10000 87 (.agg #[.int .i64 st, .string lg, .int .i64 pc, .int .i64 g0, .int .i64 g1, .int .i64 g2, .int .i64 g3]) (.agg #[.int .i64 st, .string lg, .int .i64 pc, .int .i64 g0, .int .i64 g1, .int .i64 g2, .int .i64 g3])).run Try.prog w' = .ok true w' := fun w' => by
            have := eq_enclave 9997 st pc g0 g1 g2 g3 st pc g0 g1 g2 g3 lg lg w'
            simpa using this
          clear hM0 hN0 p0 p1 p2 q0 q1 q2
          go_wp2
          go_quiet (fail)
          go_wp2
          go_roundw
          case rel => exact ⟨j + 1, by omega, by go_num, below_drewN hbel _⟩
          case measure => simp [intOf]; omega
        · have hge2 : ¬ ((j : Int) < (ne : Int)) := by omega
          clear hlt hne
          rename World => wb
          have P2 : wb.cell? ⟨w.heap.size, 2, none⟩ = some (.slice qa nq qcap) := (hbel.cell (p := ⟨w.heap.size, 2, none⟩) (lt_of_cell p2.out)).trans p2.out
          go_wp2
          go_loopw [9] (fun i wr => ∃ k : Nat, k ≤ nq ∧ i = .int .i64 k ∧ Below W0.heap.size W0 wr) (fun i _ => nq - (intOf i).toNat)
          case atStart => exact ⟨0, Nat.zero_le _, rfl, hbel⟩
          case round =>
            clear P1 Q1 P2 hbel
            obtain ⟨i, hi, rfl, hbel⟩ := hrel
            have P2 : wr.cell? ⟨w.heap.size, 2, none⟩ = some (.slice qa nq qcap) := (hbel.cell (p := ⟨w.heap.size, 2, none⟩) (lt_of_cell p2.out)).trans p2.out
            have Q2 : wr.cell? ⟨w.heap.size + 1, 2, none⟩ = some (.slice qb nq qcap') := (hbel.cell (p := ⟨w.heap.size + 1, 2, none⟩) (lt_of_cell q2.out)).trans q2.out
            by_cases hlt : i < nq
            · obtain ⟨xb, xo, hxa, c0, c1⟩ := (hM0.below hbel).quote (j := i) (by dsimp only; rw [← hnq.out]; exact hlt)
              obtain ⟨yb, yo, hya, d0, d1⟩ := (hN0.below hbel).quote (j := i) (by dsimp only; rw [← hnq.out]; exact hlt)
              dsimp only at hxa hya c0 c1 d0 d1
              subst hxa hya
              generalize qus.getD i default = P at c0 c1 d0 d1
              obtain ⟨lg, da⟩ := P
              dsimp only at c0 c1 d0 d1
              have hE : ∀ w', (Op.equalIn 10000 69 (.agg #[.string lg, .int .i64 da]) (.agg #[.string lg, .int .i64 da])).run Try.prog w' = .ok true w' := fun w' => by
                have := eq_quote 9998 lg lg da da w'
                simpa using this
              clear hM0 hN0 p0 p1 p2 q0 q1 q2
              go_wp2
              go_quiet (fail)
              go_wp2
              go_roundw
              case rel => exact ⟨i + 1, by omega, by go_num, below_drewN hbel _⟩
              case measure => simp [intOf]; omega
            · have hge3 : ¬ ((i : Int) < (nq : Int)) := by omega
              clear hlt hM0 hN0
              go_wp2
              go_ret
              exact ⟨rfl, BW.out.trans (hbel.mono BW.out.size)⟩

end Go.Proofs.Ytdbbiibnhgcndaa
