/-
  What the call ran of package run answers (own work): a machine in which the enclave was run, in memory of its own, and how that ended. The conditions: the machine, the address and the registers may be; the lists are within the reach of the form.
-/
import Derived.Test.YtdngbojbpmdegaaGreatDoorJRunEnd
import Derived.Test.YtdngbojbpmdegaaGreatDoorCopyM
namespace Go.Proofs.YtdngbojbpmdegaaGreatDoor
open Go.RowKit

theorem set9 {w : World} {b : Nat} {v0 v1 v2 v3 v4 v5 v6 v7 v8 x0 x1 x2 x3 x4 x5 x6 x7 x8 : Value} (h0 : w.cell? ⟨b, 0, none⟩ = some x0) (h1 : w.cell? ⟨b, 1, none⟩ = some x1) (h2 : w.cell? ⟨b, 2, none⟩ = some x2) (h3 : w.cell? ⟨b, 3, none⟩ = some x3) (h4 : w.cell? ⟨b, 4, none⟩ = some x4) (h5 : w.cell? ⟨b, 5, none⟩ = some x5) (h6 : w.cell? ⟨b, 6, none⟩ = some x6) (h7 : w.cell? ⟨b, 7, none⟩ = some x7) (h8 : w.cell? ⟨b, 8, none⟩ = some x8) :
    (((((((((w.setCell ⟨b, 0, none⟩ v0).setCell ⟨b, 1, none⟩ v1).setCell ⟨b, 2, none⟩ v2).setCell ⟨b, 3, none⟩ v3).setCell ⟨b, 4, none⟩ v4).setCell ⟨b, 5, none⟩ v5).setCell ⟨b, 6, none⟩ v6).setCell ⟨b, 7, none⟩ v7).setCell ⟨b, 8, none⟩ v8).cell? ⟨b, 0, none⟩ = some v0 ∧ (((((((((w.setCell ⟨b, 0, none⟩ v0).setCell ⟨b, 1, none⟩ v1).setCell ⟨b, 2, none⟩ v2).setCell ⟨b, 3, none⟩ v3).setCell ⟨b, 4, none⟩ v4).setCell ⟨b, 5, none⟩ v5).setCell ⟨b, 6, none⟩ v6).setCell ⟨b, 7, none⟩ v7).setCell ⟨b, 8, none⟩ v8).cell? ⟨b, 1, none⟩ = some v1 ∧ (((((((((w.setCell ⟨b, 0, none⟩ v0).setCell ⟨b, 1, none⟩ v1).setCell ⟨b, 2, none⟩ v2).setCell ⟨b, 3, none⟩ v3).setCell ⟨b, 4, none⟩ v4).setCell ⟨b, 5, none⟩ v5).setCell ⟨b, 6, none⟩ v6).setCell ⟨b, 7, none⟩ v7).setCell ⟨b, 8, none⟩ v8).cell? ⟨b, 2, none⟩ = some v2 ∧ (((((((((w.setCell ⟨b, 0, none⟩ v0).setCell ⟨b, 1, none⟩ v1).setCell ⟨b, 2, none⟩ v2).setCell ⟨b, 3, none⟩ v3).setCell ⟨b, 4, none⟩ v4).setCell ⟨b, 5, none⟩ v5).setCell ⟨b, 6, none⟩ v6).setCell ⟨b, 7, none⟩ v7).setCell ⟨b, 8, none⟩ v8).cell? ⟨b, 3, none⟩ = some v3 ∧ (((((((((w.setCell ⟨b, 0, none⟩ v0).setCell ⟨b, 1, none⟩ v1).setCell ⟨b, 2, none⟩ v2).setCell ⟨b, 3, none⟩ v3).setCell ⟨b, 4, none⟩ v4).setCell ⟨b, 5, none⟩ v5).setCell ⟨b, 6, none⟩ v6).setCell ⟨b, 7, none⟩ v7).setCell ⟨b, 8, none⟩ v8).cell? ⟨b, 4, none⟩ = some v4 ∧ (((((((((w.setCell ⟨b, 0, none⟩ v0).setCell ⟨b, 1, none⟩ v1).setCell ⟨b, 2, none⟩ v2).setCell ⟨b, 3, none⟩ v3).setCell ⟨b, 4, none⟩ v4).setCell ⟨b, 5, none⟩ v5).setCell ⟨b, 6, none⟩ v6).setCell ⟨b, 7, none⟩ v7).setCell ⟨b, 8, none⟩ v8).cell? ⟨b, 5, none⟩ = some v5 ∧ (((((((((w.setCell ⟨b, 0, none⟩ v0).setCell ⟨b, 1, none⟩ v1).setCell ⟨b, 2, none⟩ v2).setCell ⟨b, 3, none⟩ v3).setCell ⟨b, 4, none⟩ v4).setCell ⟨b, 5, none⟩ v5).setCell ⟨b, 6, none⟩ v6).setCell ⟨b, 7, none⟩ v7).setCell ⟨b, 8, none⟩ v8).cell? ⟨b, 6, none⟩ = some v6 ∧ (((((((((w.setCell ⟨b, 0, none⟩ v0).setCell ⟨b, 1, none⟩ v1).setCell ⟨b, 2, none⟩ v2).setCell ⟨b, 3, none⟩ v3).setCell ⟨b, 4, none⟩ v4).setCell ⟨b, 5, none⟩ v5).setCell ⟨b, 6, none⟩ v6).setCell ⟨b, 7, none⟩ v7).setCell ⟨b, 8, none⟩ v8).cell? ⟨b, 7, none⟩ = some v7 ∧ (((((((((w.setCell ⟨b, 0, none⟩ v0).setCell ⟨b, 1, none⟩ v1).setCell ⟨b, 2, none⟩ v2).setCell ⟨b, 3, none⟩ v3).setCell ⟨b, 4, none⟩ v4).setCell ⟨b, 5, none⟩ v5).setCell ⟨b, 6, none⟩ v6).setCell ⟨b, 7, none⟩ v7).setCell ⟨b, 8, none⟩ v8).cell? ⟨b, 8, none⟩ = some v8 := by
  have o : ∀ (w : World) (i j : Nat) (v : Value), i ≠ j → (w.setCell ⟨b, i, none⟩ v).cell? ⟨b, j, none⟩ = w.cell? ⟨b, j, none⟩ := fun w i j v h => World.cell?_setCell_other _ _ _ _ (by intro q; simp only [Addr.mk.injEq, true_and, and_true] at q; exact h q)
  refine ⟨?_, ?_, ?_, ?_, ?_, ?_, ?_, ?_, ?_⟩
  · rw [o _ 8 0 _ (by omega), o _ 7 0 _ (by omega), o _ 6 0 _ (by omega), o _ 5 0 _ (by omega), o _ 4 0 _ (by omega), o _ 3 0 _ (by omega), o _ 2 0 _ (by omega), o _ 1 0 _ (by omega)]; exact World.cell?_setCell_same _ _ _ h0
  · rw [o _ 8 1 _ (by omega), o _ 7 1 _ (by omega), o _ 6 1 _ (by omega), o _ 5 1 _ (by omega), o _ 4 1 _ (by omega), o _ 3 1 _ (by omega), o _ 2 1 _ (by omega)]; exact World.cell?_setCell_same _ _ _ ((o _ 0 1 _ (by omega)).trans h1)
  · rw [o _ 8 2 _ (by omega), o _ 7 2 _ (by omega), o _ 6 2 _ (by omega), o _ 5 2 _ (by omega), o _ 4 2 _ (by omega), o _ 3 2 _ (by omega)]; exact World.cell?_setCell_same _ _ _ ((o _ 1 2 _ (by omega)).trans ((o _ 0 2 _ (by omega)).trans h2))
  · rw [o _ 8 3 _ (by omega), o _ 7 3 _ (by omega), o _ 6 3 _ (by omega), o _ 5 3 _ (by omega), o _ 4 3 _ (by omega)]; exact World.cell?_setCell_same _ _ _ ((o _ 2 3 _ (by omega)).trans ((o _ 1 3 _ (by omega)).trans ((o _ 0 3 _ (by omega)).trans h3)))
  · rw [o _ 8 4 _ (by omega), o _ 7 4 _ (by omega), o _ 6 4 _ (by omega), o _ 5 4 _ (by omega)]; exact World.cell?_setCell_same _ _ _ ((o _ 3 4 _ (by omega)).trans ((o _ 2 4 _ (by omega)).trans ((o _ 1 4 _ (by omega)).trans ((o _ 0 4 _ (by omega)).trans h4))))
  · rw [o _ 8 5 _ (by omega), o _ 7 5 _ (by omega), o _ 6 5 _ (by omega)]; exact World.cell?_setCell_same _ _ _ ((o _ 4 5 _ (by omega)).trans ((o _ 3 5 _ (by omega)).trans ((o _ 2 5 _ (by omega)).trans ((o _ 1 5 _ (by omega)).trans ((o _ 0 5 _ (by omega)).trans h5)))))
  · rw [o _ 8 6 _ (by omega), o _ 7 6 _ (by omega)]; exact World.cell?_setCell_same _ _ _ ((o _ 5 6 _ (by omega)).trans ((o _ 4 6 _ (by omega)).trans ((o _ 3 6 _ (by omega)).trans ((o _ 2 6 _ (by omega)).trans ((o _ 1 6 _ (by omega)).trans ((o _ 0 6 _ (by omega)).trans h6))))))
  · rw [o _ 8 7 _ (by omega)]; exact World.cell?_setCell_same _ _ _ ((o _ 6 7 _ (by omega)).trans ((o _ 5 7 _ (by omega)).trans ((o _ 4 7 _ (by omega)).trans ((o _ 3 7 _ (by omega)).trans ((o _ 2 7 _ (by omega)).trans ((o _ 1 7 _ (by omega)).trans ((o _ 0 7 _ (by omega)).trans h7)))))))
  · exact World.cell?_setCell_same _ _ _ ((o _ 7 8 _ (by omega)).trans ((o _ 6 8 _ (by omega)).trans ((o _ 5 8 _ (by omega)).trans ((o _ 4 8 _ (by omega)).trans ((o _ 3 8 _ (by omega)).trans ((o _ 2 8 _ (by omega)).trans ((o _ 1 8 _ (by omega)).trans ((o _ 0 8 _ (by omega)).trans h8))))))))
theorem set9_heap {w : World} {b : Nat} {v0 v1 v2 v3 v4 v5 v6 v7 v8 : Value} (c : Nat) (h : c ≠ b) : (((((((((w.setCell ⟨b, 0, none⟩ v0).setCell ⟨b, 1, none⟩ v1).setCell ⟨b, 2, none⟩ v2).setCell ⟨b, 3, none⟩ v3).setCell ⟨b, 4, none⟩ v4).setCell ⟨b, 5, none⟩ v5).setCell ⟨b, 6, none⟩ v6).setCell ⟨b, 7, none⟩ v7).setCell ⟨b, 8, none⟩ v8).heap[c]? = w.heap[c]? := by
  rw [Below.heap_setCell _ _ _ _ h, Below.heap_setCell _ _ _ _ h, Below.heap_setCell _ _ _ _ h, Below.heap_setCell _ _ _ _ h, Below.heap_setCell _ _ _ _ h, Below.heap_setCell _ _ _ _ h, Below.heap_setCell _ _ _ _ h, Below.heap_setCell _ _ _ _ h, Below.heap_setCell _ _ _ _ h]
theorem set9_size {w : World} {b : Nat} {v0 v1 v2 v3 v4 v5 v6 v7 v8 : Value} : (((((((((w.setCell ⟨b, 0, none⟩ v0).setCell ⟨b, 1, none⟩ v1).setCell ⟨b, 2, none⟩ v2).setCell ⟨b, 3, none⟩ v3).setCell ⟨b, 4, none⟩ v4).setCell ⟨b, 5, none⟩ v5).setCell ⟨b, 6, none⟩ v6).setCell ⟨b, 7, none⟩ v7).setCell ⟨b, 8, none⟩ v8).heap.size = w.heap.size := by simp [World.setCell]
theorem set9_frozen {w : World} {b : Nat} {v0 v1 v2 v3 v4 v5 v6 v7 v8 : Value} (a : Addr) : (((((((((w.setCell ⟨b, 0, none⟩ v0).setCell ⟨b, 1, none⟩ v1).setCell ⟨b, 2, none⟩ v2).setCell ⟨b, 3, none⟩ v3).setCell ⟨b, 4, none⟩ v4).setCell ⟨b, 5, none⟩ v5).setCell ⟨b, 6, none⟩ v6).setCell ⟨b, 7, none⟩ v7).setCell ⟨b, 8, none⟩ v8).frozen? a = w.frozen? a := by simp only [World.frozen?_setCell]
theorem set9_below {w0 w : World} {b B : Nat} {v0 v1 v2 v3 v4 v5 v6 v7 v8 : Value} (h : Below B w0 w) (hb : B ≤ b) : Below B w0 (((((((((w.setCell ⟨b, 0, none⟩ v0).setCell ⟨b, 1, none⟩ v1).setCell ⟨b, 2, none⟩ v2).setCell ⟨b, 3, none⟩ v3).setCell ⟨b, 4, none⟩ v4).setCell ⟨b, 5, none⟩ v5).setCell ⟨b, 6, none⟩ v6).setCell ⟨b, 7, none⟩ v7).setCell ⟨b, 8, none⟩ v8) := by
  repeat (first | (with_reducible exact h) | (with_reducible refine Below.setCell ?_ hb _))

/-- a core that is made behind the copy of the machine -/
theorem core_new {n0 : Nat} {w : World} {N : Mv} {e pc r0 r1 r2 r3 : Int} {t : TypeId} (hO : Owned n0 w N) (hq : QRow n0 w N) (hn : n0 ≤ w.heap.size) :
    Core n0 (w.alloc (.cells #[.slice N.fa N.frs.length N.fcap, .slice N.ea N.ens.length N.ecap, .slice N.qa N.qus.length N.qcap, .int .i64 e, .int .i64 pc, .int .i64 r0, .int .i64 r1, .int .i64 r2, .int .i64 r3] t)) w.heap.size N e pc [r0, r1, r2, r3] := by
  have hB : Below w.heap.size w (w.alloc (.cells #[.slice N.fa N.frs.length N.fcap, .slice N.ea N.ens.length N.ecap, .slice N.qa N.qus.length N.qcap, .int .i64 e, .int .i64 pc, .int .i64 r0, .int .i64 r1, .int .i64 r2, .int .i64 r3] t)) := (Below.refl _ _).alloc (Nat.le_refl _) _
  have hb := Go.Deep.blk_alloc_new w (.cells #[.slice N.fa N.frs.length N.fcap, .slice N.ea N.ens.length N.ecap, .slice N.qa N.qus.length N.qcap, .int .i64 e, .int .i64 pc, .int .i64 r0, .int .i64 r1, .int .i64 r2, .int .i64 r3] t)
  generalize w.alloc (.cells #[.slice N.fa N.frs.length N.fcap, .slice N.ea N.ens.length N.ecap, .slice N.qa N.qus.length N.qcap, .int .i64 e, .int .i64 pc, .int .i64 r0, .int .i64 r1, .int .i64 r2, .int .i64 r3] t) = V at hB hb
  refine ⟨⟨by simp [World.cell?, hb], by simp [World.cell?, hb], by simp [World.cell?, hb], by simp [World.cell?, hb], by simp [World.cell?, hb], fun i hi => ?_, fun o => frozen_of_block hb o, (Array.getElem?_eq_some_iff.1 hb).1⟩, hO.below hB, hq.keep fun b o s e => hB.block b (hO.nq b o s e).2.1, hn, fun q => ?_⟩
  · match i, hi with
    | 0, _ => simp [World.cell?, hb]
    | 1, _ => simp [World.cell?, hb]
    | 2, _ => simp [World.cell?, hb]
    | 3, _ => simp [World.cell?, hb]
  · have := (Mine.fresh hO q).2
    omega
/-- a core that was made ahead of it -/
theorem core_set {n0 n1 : Nat} {w : World} {N : Mv} {e pc r0 r1 r2 r3 : Int} {b : Nat} (hO : Owned n1 w N) (hq : QRow n1 w N) (hn : n0 ≤ b) (hb : b < n1) {X0 X1 X2 X3 X4 X5 X6 X7 X8 : Value} (h0 : w.cell? ⟨b, 0, none⟩ = some X0) (h1 : w.cell? ⟨b, 1, none⟩ = some X1) (h2 : w.cell? ⟨b, 2, none⟩ = some X2) (h3 : w.cell? ⟨b, 3, none⟩ = some X3) (h4 : w.cell? ⟨b, 4, none⟩ = some X4) (h5 : w.cell? ⟨b, 5, none⟩ = some X5) (h6 : w.cell? ⟨b, 6, none⟩ = some X6) (h7 : w.cell? ⟨b, 7, none⟩ = some X7) (h8 : w.cell? ⟨b, 8, none⟩ = some X8) (hf : ∀ o, w.frozen? ⟨b, o, none⟩ = false) (hl : b < w.heap.size) :
    Core n0 (((((((((w.setCell ⟨b, 0, none⟩ (.slice N.fa N.frs.length N.fcap)).setCell ⟨b, 1, none⟩ (.slice N.ea N.ens.length N.ecap)).setCell ⟨b, 2, none⟩ (.slice N.qa N.qus.length N.qcap)).setCell ⟨b, 3, none⟩ (.int .i64 e)).setCell ⟨b, 4, none⟩ (.int .i64 pc)).setCell ⟨b, 5, none⟩ (.int .i64 r0)).setCell ⟨b, 6, none⟩ (.int .i64 r1)).setCell ⟨b, 7, none⟩ (.int .i64 r2)).setCell ⟨b, 8, none⟩ (.int .i64 r3)) b N e pc [r0, r1, r2, r3] := by
  obtain ⟨k0, k1, k2, k3, k4, k5, k6, k7, k8⟩ := set9 (v0 := .slice N.fa N.frs.length N.fcap) (v1 := .slice N.ea N.ens.length N.ecap) (v2 := .slice N.qa N.qus.length N.qcap) (v3 := .int .i64 e) (v4 := .int .i64 pc) (v5 := .int .i64 r0) (v6 := .int .i64 r1) (v7 := .int .i64 r2) (v8 := .int .i64 r3) h0 h1 h2 h3 h4 h5 h6 h7 h8
  have off : ¬ Mine N b := fun q => by have := (Mine.fresh hO q).1; omega
  refine ⟨⟨k0, k1, k2, k3, k4, fun i hi => ?_, fun o => by rw [set9_frozen]; exact hf o, by rw [set9_size]; exact hl⟩, (hO.mono (by omega)).keepM (fun c hc => set9_heap c (fun q => off (q ▸ hc))) (by rw [set9_size]; exact Nat.le_refl _), (hq.mono (by omega)).keep fun c o s e => set9_heap c (fun q => off (q ▸ .inr (.inr (.inl ⟨o, s, e⟩)))), hn, off⟩
  match i, hi with
  | 0, _ => exact k5
  | 1, _ => exact k6
  | 2, _ => exact k7
  | 3, _ => exact k8

theorem leave_any {n0 : Nat} {w : World} {cb : Nat} {M : Mv} {m : Nat} {pc : Int} {rs : List Int} {nd v : Int} (h : Core n0 w cb M ((m : Int) + 1) pc rs) (hl : M.ens.length = 4) (hm : m < 4) (hn0 : n0 ≤ w.heap.size) (hnd : nd = 1 ∨ nd = 2 ∨ nd = 3) (hpc : (Lit.int .i64 pc).wf = true) (hrs : ∀ i, i < 4 → (Lit.int .i64 (rs.getD i 0)).wf = true) :
    Calls Tryz.prog 114 #[.pointer (some ⟨cb, 0, none⟩), .agg #[.int .i64 nd, .int .i64 v]] w fun y w' => y = .returned (.tuple #[]) ∧ Core n0 w' cb (leftM ⟨M, pc, rs, nd, v⟩ m) ((m : Int) + 1) pc rs ∧ Below n0 w w' ∧ FarSame M cb w w' := by
  rcases hnd with rfl | rfl | rfl
  · exact leave_done h hl hm hn0 v hpc hrs
  · exact leave_held h hl hm hn0 v hpc hrs
  · exact leave_fault h hl hm hn0 v hpc hrs

/-- five stores, into the answer's two variables -/
theorem xy5 {w : World} {X Y : Nat} {a b c d e x0 x1 x2 y0 y1 : Value} (h : X ≠ Y) (h0 : w.cell? ⟨X, 0, none⟩ = some x0) (h1 : w.cell? ⟨X, 1, none⟩ = some x1) (h2 : w.cell? ⟨X, 2, none⟩ = some x2) (h3 : w.cell? ⟨Y, 0, none⟩ = some y0) (h4 : w.cell? ⟨Y, 1, none⟩ = some y1) :
    let V := (((((w.setCell ⟨X, 0, none⟩ a).setCell ⟨X, 1, none⟩ b).setCell ⟨X, 2, none⟩ c).setCell ⟨Y, 0, none⟩ d).setCell ⟨Y, 1, none⟩ e)
    V.cell? ⟨X, 0, none⟩ = some a ∧ V.cell? ⟨X, 1, none⟩ = some b ∧ V.cell? ⟨X, 2, none⟩ = some c ∧ V.cell? ⟨Y, 0, none⟩ = some d ∧ V.cell? ⟨Y, 1, none⟩ = some e := by
  intro V
  have o : ∀ (w : World) (B i j : Nat) (v : Value), i ≠ j → (w.setCell ⟨B, i, none⟩ v).cell? ⟨B, j, none⟩ = w.cell? ⟨B, j, none⟩ := fun w B i j v h => World.cell?_setCell_other _ _ _ _ (by intro q; simp only [Addr.mk.injEq, true_and, and_true] at q; exact h q)
  have p : ∀ (w : World) (i j : Nat) (v : Value), (w.setCell ⟨Y, i, none⟩ v).cell? ⟨X, j, none⟩ = w.cell? ⟨X, j, none⟩ := fun w i j v => World.cell?_setCell_other _ _ _ _ (by intro q; simp only [Addr.mk.injEq] at q; first | exact h q.1 | exact h q.1.symm)
  have q : ∀ (w : World) (i j : Nat) (v : Value), (w.setCell ⟨X, i, none⟩ v).cell? ⟨Y, j, none⟩ = w.cell? ⟨Y, j, none⟩ := fun w i j v => World.cell?_setCell_other _ _ _ _ (by intro q; simp only [Addr.mk.injEq] at q; first | exact h q.1 | exact h q.1.symm)
  refine ⟨?_, ?_, ?_, ?_, ?_⟩
  · show (((((w.setCell _ a).setCell _ b).setCell _ c).setCell _ d).setCell _ e).cell? _ = _
    rw [p, p, o _ _ 2 0 _ (by omega), o _ _ 1 0 _ (by omega)]; exact World.cell?_setCell_same _ _ _ h0
  · show (((((w.setCell _ a).setCell _ b).setCell _ c).setCell _ d).setCell _ e).cell? _ = _
    rw [p, p, o _ _ 2 1 _ (by omega)]; exact World.cell?_setCell_same _ _ _ ((o _ _ 0 1 _ (by omega)).trans h1)
  · show (((((w.setCell _ a).setCell _ b).setCell _ c).setCell _ d).setCell _ e).cell? _ = _
    rw [p, p]; exact World.cell?_setCell_same _ _ _ ((o _ _ 1 2 _ (by omega)).trans ((o _ _ 0 2 _ (by omega)).trans h2))
  · show (((((w.setCell _ a).setCell _ b).setCell _ c).setCell _ d).setCell _ e).cell? _ = _
    rw [o _ _ 1 0 _ (by omega)]; exact World.cell?_setCell_same _ _ _ ((q _ _ _ _).trans ((q _ _ _ _).trans ((q _ _ _ _).trans h3)))
  · exact World.cell?_setCell_same _ _ _ ((o _ _ 0 1 _ (by omega)).trans ((q _ _ _ _).trans ((q _ _ _ _).trans ((q _ _ _ _).trans h4))))

structure Z9Box (w2 : World) (b : Nat) : Prop where
  e0 : w2.cell? ⟨b, 0, none⟩ = some (.slice none 0 0)
  e1 : w2.cell? ⟨b, 1, none⟩ = some (.slice none 0 0)
  e2 : w2.cell? ⟨b, 2, none⟩ = some (.slice none 0 0)
  e3 : w2.cell? ⟨b, 3, none⟩ = some (.int .i64 0)
  e4 : w2.cell? ⟨b, 4, none⟩ = some (.int .i64 0)
  e5 : w2.cell? ⟨b, 5, none⟩ = some (.int .i64 0)
  e6 : w2.cell? ⟨b, 6, none⟩ = some (.int .i64 0)
  e7 : w2.cell? ⟨b, 7, none⟩ = some (.int .i64 0)
  e8 : w2.cell? ⟨b, 8, none⟩ = some (.int .i64 0)
  fz : ∀ o, w2.frozen? ⟨b, o, none⟩ = false
  lt : b < w2.heap.size
theorem z9_only {Wb w2 : World} {t : TypeId} (hb : Below (Wb.alloc (.cells #[.slice none 0 0, .slice none 0 0, .slice none 0 0, .int .i64 0, .int .i64 0, .int .i64 0, .int .i64 0, .int .i64 0, .int .i64 0] t)).drew.heap.size (Wb.alloc (.cells #[.slice none 0 0, .slice none 0 0, .slice none 0 0, .int .i64 0, .int .i64 0, .int .i64 0, .int .i64 0, .int .i64 0, .int .i64 0] t)).drew w2) : Z9Box w2 Wb.heap.size := by
  have hX : (Wb.alloc (.cells #[.slice none 0 0, .slice none 0 0, .slice none 0 0, .int .i64 0, .int .i64 0, .int .i64 0, .int .i64 0, .int .i64 0, .int .i64 0] t)).drew.heap[Wb.heap.size]? = some (.cells #[.slice none 0 0, .slice none 0 0, .slice none 0 0, .int .i64 0, .int .i64 0, .int .i64 0, .int .i64 0, .int .i64 0, .int .i64 0] t) := Go.Deep.blk_alloc_new _ _
  have hlt : Wb.heap.size < (Wb.alloc (.cells #[.slice none 0 0, .slice none 0 0, .slice none 0 0, .int .i64 0, .int .i64 0, .int .i64 0, .int .i64 0, .int .i64 0, .int .i64 0] t)).drew.heap.size := (Array.getElem?_eq_some_iff.1 hX).1
  have h2 := (hb.block _ hlt).trans hX
  exact ⟨by simp [World.cell?, h2], by simp [World.cell?, h2], by simp [World.cell?, h2], by simp [World.cell?, h2], by simp [World.cell?, h2], by simp [World.cell?, h2], by simp [World.cell?, h2], by simp [World.cell?, h2], by simp [World.cell?, h2], fun o => frozen_of_block h2 o, Nat.lt_of_lt_of_le hlt hb.size⟩

set_option maxRecDepth 100000 in
set_option maxHeartbeats 8000000 in
theorem ran_run (M : Mv) (m : Nat) (pc r0 r1 r2 r3 : Int) (f : Nat) (w : World) (hM : MachAt w M) (hF : M.Fits) (ho : RunOk M m pc [r0, r1, r2, r3]) (hf : f ≤ 5000) :
    Calls Tryz.prog 65 #[M.val, .int .i64 ((m : Int) + 1), .int .i64 pc, .agg #[.int .i64 r0, .int .i64 r1, .int .i64 r2, .int .i64 r3], .int .i64 (f : Int)] w fun y w' => ∃ N : Mv, y = .returned (.tuple #[N.val, .agg #[.int .i64 (runR f M m pc [r0, r1, r2, r3] xorR).nd, .int .i64 (runR f M m pc [r0, r1, r2, r3] xorR).v]]) ∧ N.Same (leftM (runR f M m pc [r0, r1, r2, r3] xorR) m) ∧ Owned w.heap.size w' N ∧ Below w.heap.size w w' := by
  obtain ⟨R, hR⟩ : ∃ R, Hid (R = runR f M m pc [r0, r1, r2, r3] xorR) := ⟨_, rfl⟩
  rw [← hR.out]
  have HO : Hid (_) := ho
  have cL0 := fun w' (h : Below w.heap.size w w') => copyM_own M w' (hM.below h) hF
  unfold Mv.val at cL0 ⊢
  obtain ⟨fa, frs, fcap, ea, ens, ecap, qa, qus, qcap⟩ := M
  dsimp only at cL0 ⊢
  obtain ⟨W2, hW2⟩ : ∃ W2, Hid (W2 = (((w.alloc (.cells #[.slice fa frs.length fcap, .slice ea ens.length ecap, .slice qa qus.length qcap] 29)).alloc (.cells #[.int .i64 r0, .int .i64 r1, .int .i64 r2, .int .i64 r3] 56)).alloc (.cells #[.slice none 0 0, .slice none 0 0, .slice none 0 0] 29)).alloc (.cells #[.int .i64 0, .int .i64 0] 47)) := ⟨_, rfl⟩
  have BW : Hid (Below w.heap.size w W2) := by show Below _ _ _; rw [hW2.out]; exact below_allocR (below_allocR (below_allocR (below_allocR (Below.refl _ _) _) _) _) _
  have cL := fun w' (h : Below W2.heap.size W2 w') => cL0 w' (BW.out.trans (h.mono BW.out.size))
  have FC : Hid (W2.cell? ⟨w.heap.size, 0, none⟩ = some (.slice fa frs.length fcap) ∧ W2.cell? ⟨w.heap.size, 1, none⟩ = some (.slice ea ens.length ecap) ∧ W2.cell? ⟨w.heap.size, 2, none⟩ = some (.slice qa qus.length qcap) ∧ W2.cell? ⟨w.heap.size + 1, 0, none⟩ = some (.int .i64 r0) ∧ W2.cell? ⟨w.heap.size + 1, 1, none⟩ = some (.int .i64 r1) ∧ W2.cell? ⟨w.heap.size + 1, 2, none⟩ = some (.int .i64 r2) ∧ W2.cell? ⟨w.heap.size + 1, 3, none⟩ = some (.int .i64 r3) ∧ W2.heap[w.heap.size + 1 + 1]? = some (.cells #[.slice none 0 0, .slice none 0 0, .slice none 0 0] 29 (0, 0)) ∧ W2.heap[w.heap.size + 1 + 1 + 1]? = some (.cells #[.int .i64 0, .int .i64 0] 47 (0, 0))) := by
    show _ ∧ _
    rw [hW2.out]
    have q1 := al1 w (.cells #[.slice fa frs.length fcap, .slice ea ens.length ecap, .slice qa qus.length qcap] 29) (.cells #[.int .i64 r0, .int .i64 r1, .int .i64 r2, .int .i64 r3] 56) (.cells #[.slice none 0 0, .slice none 0 0, .slice none 0 0] 29) (.cells #[.int .i64 0, .int .i64 0] 47)
    have q2 := al2 w (.cells #[.slice fa frs.length fcap, .slice ea ens.length ecap, .slice qa qus.length qcap] 29) (.cells #[.int .i64 r0, .int .i64 r1, .int .i64 r2, .int .i64 r3] 56) (.cells #[.slice none 0 0, .slice none 0 0, .slice none 0 0] 29) (.cells #[.int .i64 0, .int .i64 0] 47)
    have q3 := al3 w (.cells #[.slice fa frs.length fcap, .slice ea ens.length ecap, .slice qa qus.length qcap] 29) (.cells #[.int .i64 r0, .int .i64 r1, .int .i64 r2, .int .i64 r3] 56) (.cells #[.slice none 0 0, .slice none 0 0, .slice none 0 0] 29) (.cells #[.int .i64 0, .int .i64 0] 47)
    have q4 := al4 w (.cells #[.slice fa frs.length fcap, .slice ea ens.length ecap, .slice qa qus.length qcap] 29) (.cells #[.int .i64 r0, .int .i64 r1, .int .i64 r2, .int .i64 r3] 56) (.cells #[.slice none 0 0, .slice none 0 0, .slice none 0 0] 29) (.cells #[.int .i64 0, .int .i64 0] 47)
    generalize (((w.alloc (.cells #[.slice fa frs.length fcap, .slice ea ens.length ecap, .slice qa qus.length qcap] 29)).alloc (.cells #[.int .i64 r0, .int .i64 r1, .int .i64 r2, .int .i64 r3] 56)).alloc (.cells #[.slice none 0 0, .slice none 0 0, .slice none 0 0] 29)).alloc (.cells #[.int .i64 0, .int .i64 0] 47) = V at q1 q2 q3 q4
    have q1' : V.heap[w.heap.size]? = _ := q1
    have q2' : V.heap[w.heap.size + 1]? = _ := q2
    exact ⟨by simp [World.cell?, q1'], by simp [World.cell?, q1'], by simp [World.cell?, q1'], by simp [World.cell?, q2'], by simp [World.cell?, q2'], by simp [World.cell?, q2'], by simp [World.cell?, q2'], q3, q4⟩
  obtain ⟨t0, t1, t2, t3, t4, t5, t6, _, _⟩ := FC.out
  have l0 : w.heap.size < W2.heap.size := lt_of_cell t0
  have l1 : w.heap.size + 1 < W2.heap.size := lt_of_cell t3
  have GG : Hid (∀ w2, Below W2.heap.size W2 w2 → w2.cell? ⟨w.heap.size, 0, none⟩ = some (.slice fa frs.length fcap) ∧ w2.cell? ⟨w.heap.size, 1, none⟩ = some (.slice ea ens.length ecap) ∧ w2.cell? ⟨w.heap.size, 2, none⟩ = some (.slice qa qus.length qcap) ∧ w2.cell? ⟨w.heap.size + 1, 0, none⟩ = some (.int .i64 r0) ∧ w2.cell? ⟨w.heap.size + 1, 1, none⟩ = some (.int .i64 r1) ∧ w2.cell? ⟨w.heap.size + 1, 2, none⟩ = some (.int .i64 r2) ∧ w2.cell? ⟨w.heap.size + 1, 3, none⟩ = some (.int .i64 r3)) := fun w2 h => ⟨(h.cell (p := ⟨w.heap.size, 0, none⟩) l0).trans t0, (h.cell (p := ⟨w.heap.size, 1, none⟩) l0).trans t1, (h.cell (p := ⟨w.heap.size, 2, none⟩) l0).trans t2, (h.cell (p := ⟨w.heap.size + 1, 0, none⟩) l1).trans t3, (h.cell (p := ⟨w.heap.size + 1, 1, none⟩) l1).trans t4, (h.cell (p := ⟨w.heap.size + 1, 2, none⟩) l1).trans t5, (h.cell (p := ⟨w.heap.size + 1, 3, none⟩) l1).trans t6⟩
  have n1 := World.new_ne W2 ⟨w.heap.size, 0, none⟩ t0
  have n2 := World.new_ne W2 ⟨w.heap.size + 1, 0, none⟩ t3
  dsimp only at n1 n2
  have HN1 : Hid (W2.heap.size ≠ w.heap.size) := n1
  have HN2 : Hid (W2.heap.size ≠ w.heap.size + 1) := n2
  clear hM hF ho cL0
  go_enter Tryz.func65, Tryz.ntmps65
  go_upto_region 1 with fail
  rw [← hW2.out]
  go_cut [12] from 14 to 19 (fun s12 wx => ∃ cb M', s12 = .pointer (some ⟨cb, 0, none⟩) ∧ Mv.Same M' ⟨fa, frs, fcap, ea, ens, ecap, qa, qus, qcap⟩ ∧ Core W2.heap.size wx cb M' ((m : Int) + 1) pc [r0, r1, r2, r3] ∧ Below W2.heap.size W2 wx)
  case first =>
    go_region_held3 (fun w' => w'.cell? ⟨w.heap.size, 0, none⟩ = some (.slice fa frs.length fcap) ∧ w'.cell? ⟨w.heap.size, 1, none⟩ = some (.slice ea ens.length ecap) ∧ w'.cell? ⟨w.heap.size, 2, none⟩ = some (.slice qa qus.length qcap) ∧ w'.cell? ⟨w.heap.size + 1, 0, none⟩ = some (.int .i64 r0) ∧ w'.cell? ⟨w.heap.size + 1, 1, none⟩ = some (.int .i64 r1) ∧ w'.cell? ⟨w.heap.size + 1, 2, none⟩ = some (.int .i64 r2) ∧ w'.cell? ⟨w.heap.size + 1, 3, none⟩ = some (.int .i64 r3)) (first | (with_reducible exact ⟨g0, g1, g2, g3, g4, g5, g6⟩) | (with_reducible exact GG.out _ (set9_below HB5.out (Nat.le_refl _))) | exact GG.out _ (by repeat (first | (with_reducible exact Below.refl _ _) | (with_reducible exact HB5.out) | (with_reducible refine Below.drew ?_) | (with_reducible refine below_allocR ?_ _) | (with_reducible refine Below.setCell ?_ (Nat.le_refl _) _))) | (with_reducible exact ⟨(World.cell?_of_block (set9_heap w.heap.size HN1.out.symm)).trans g0, (World.cell?_of_block (set9_heap w.heap.size HN1.out.symm)).trans g1, (World.cell?_of_block (set9_heap w.heap.size HN1.out.symm)).trans g2, (World.cell?_of_block (set9_heap (w.heap.size + 1) HN2.out.symm)).trans g3, (World.cell?_of_block (set9_heap (w.heap.size + 1) HN2.out.symm)).trans g4, (World.cell?_of_block (set9_heap (w.heap.size + 1) HN2.out.symm)).trans g5, (World.cell?_of_block (set9_heap (w.heap.size + 1) HN2.out.symm)).trans g6⟩) | fail) (first
      | (go_at_call 37; refine (cL _ (by repeat (first | (with_reducible exact Below.refl _ _) | (with_reducible refine Below.drew ?_) | (with_reducible refine below_allocR ?_ _)))).mono ?_; clear cL; rintro x w5 ⟨N, rfl, hS, hO, hb, hq⟩; have HS5 : Hid (_) := hS; have HO5 : Hid (_) := hO; have HQ5 : Hid (_) := hq; (first | ((with_reducible_and_instances have hzz := z9_only (Wb := W2) hb); have e0 := hzz.e0; have z0 := hzz.fz 0; have e1 := hzz.e1; have z1 := hzz.fz 1; have e2 := hzz.e2; have z2 := hzz.fz 2; have e3 := hzz.e3; have z3 := hzz.fz 3; have e4 := hzz.e4; have z4 := hzz.fz 4; have e5 := hzz.e5; have z5 := hzz.fz 5; have e6 := hzz.e6; have z6 := hzz.fz 6; have e7 := hzz.e7; have z7 := hzz.fz 7; have e8 := hzz.e8; have z8 := hzz.fz 8; have HZZ : Hid (_) := hzz; have l2 := hzz.lt; clear hzz) | skip); have HB5 : Hid (Below W2.heap.size W2 w5) := Below.trans (by repeat (first | (with_reducible exact Below.refl _ _) | (with_reducible refine Below.drew ?_) | (with_reducible refine below_allocR ?_ _))) (hb.mono (by first | exact Nat.le_refl _ | (simp; done) | (simp; omega))); obtain ⟨g0, g1, g2, g3, g4, g5, g6⟩ := GG.out w5 HB5.out; clear hS hO hb hq t0 t1 t2 t3 t4 t5 t6 l0 l1 n1 n2; have G7 : Hid (_ ∧ _ ∧ _ ∧ _ ∧ _ ∧ _ ∧ _) := ⟨g0, g1, g2, g3, g4, g5, g6⟩; obtain ⟨nfa, nfrs, nfcap, nea, nens, necap, nqa, nqus, nqcap⟩ := N; dsimp only)
      | fail)
    all_goals
      go_wp2_with fail
      go_meet
      case rel => first
        | (have hc := core_set (n0 := W2.heap.size) (N := ⟨nfa, nfrs, nfcap, nea, nens, necap, nqa, nqus, nqcap⟩) (e := (m : Int) + 1) (pc := pc) (r0 := r0) (r1 := r1) (r2 := r2) (r3 := r3) HO5.out HQ5.out (Nat.le_refl _) (by first | exact Nat.le_refl _ | (simp; done) | (simp; omega)) HZZ.out.e0 HZZ.out.e1 HZZ.out.e2 HZZ.out.e3 HZZ.out.e4 HZZ.out.e5 HZZ.out.e6 HZZ.out.e7 HZZ.out.e8 HZZ.out.fz HZZ.out.lt; dsimp only at hc; (with_reducible exact ⟨W2.heap.size, ⟨nfa, nfrs, nfcap, nea, nens, necap, nqa, nqus, nqcap⟩, rfl, HS5.out, hc, set9_below HB5.out (Nat.le_refl _)⟩))
        | (have hc := core_new (n0 := W2.heap.size) (N := ⟨nfa, nfrs, nfcap, nea, nens, necap, nqa, nqus, nqcap⟩) (e := (m : Int) + 1) (pc := pc) (r0 := r0) (r1 := r1) (r2 := r2) (r3 := r3) (t := 152) (HO5.out.mono (by first | exact Nat.le_refl _ | (simp; done) | (simp; omega))) (QRow.mono (M := ⟨nfa, nfrs, nfcap, nea, nens, necap, nqa, nqus, nqcap⟩) (n0 := W2.drew.heap.size) HQ5.out (by first | exact Nat.le_refl _ | (simp; done) | (simp; omega))) HB5.out.size; dsimp only at hc; (with_reducible exact ⟨w5.heap.size, ⟨nfa, nfrs, nfcap, nea, nens, necap, nqa, nqus, nqcap⟩, rfl, HS5.out, hc, below_allocR HB5.out _⟩))
        | fail
  case rest =>
  obtain ⟨cb, M1, rfl, hsm, hcore, hbel⟩ := hcut
  rename World => V1
  have hok' := RunOk.same HO.out hsm
  have hst := steps_run hcore hok' hbel.size f hf
  obtain ⟨S, hS⟩ : ∃ S, Hid (S = runR f M1 m pc [r0, r1, r2, r3] xorR) := ⟨_, rfl⟩
  rw [← hS.out] at hst
  have HRS : Hid (R.Same S) := by show R.Same S; rw [hR.out, hS.out]; exact runR_same f hsm.symm m pc _ xorR
  have HE : Hid (EndOk S m) := by show EndOk S m; rw [hS.out]; exact runR_end f hok'
  have HND : Hid (S.nd = 1 ∨ S.nd = 2 ∨ S.nd = 3) := by show _ ∨ _; rw [hS.out]; exact runR_nd f M1 m pc _ xorR
  have HBEL : Hid (Below W2.heap.size W2 V1) := hbel
  have HGE : Hid (W2.heap.size ≤ cb) := hcore.ge
  have HM4 : Hid (m < 4) := HO.out.m4
  obtain ⟨n2, hn2⟩ : ∃ n2, Hid (n2 = W2.heap.size) := ⟨_, rfl⟩
  rw [← hn2.out] at hst HBEL HGE
  clear hS hsm hcore hbel hok' GG t0 t1 t2 t3 t4 t5 t6 l0 l1 n1 HN1 HN2 hf
  have lv := fun (w7 : World) (M2 : Mv) (h : Core n2 w7 cb M2 ((m : Int) + 1) S.pc S.rs) (hl : M2.ens.length = 4) (hn : n2 ≤ w7.heap.size) => leave_any (nd := S.nd) (v := S.v) h hl HM4.out hn HND.out (wf_run ⟨HE.out.pc.1, Int.le_trans HE.out.pc.2 (by omega)⟩) (fun i _ => wf_run ⟨(HE.out.rs i).1, Int.le_trans (HE.out.rs i).2 (by omega)⟩)
  obtain ⟨nd, v, hnd, hv⟩ : ∃ nd v, Hid (nd = S.nd) ∧ Hid (v = S.v) := ⟨_, _, rfl, rfl⟩
  rw [← hnd.out, ← hv.out] at hst lv
  go_wp2_with (first
    | (go_at_call 113; refine hst.mono ?_; clear hst; rintro y w6 ⟨M2, hs2, rfl, hc6, hb6, -, -⟩; have HS2 : Hid (_) := hs2; have HC6 : Hid (_) := hc6; have HB6 : Hid (_) := hb6; clear hs2 hc6 hb6)
    | (go_at_call 114; refine (lv _ M2 (HC6.out.keep ((Below.refl _ _).alloc (Nat.le_refl _) _)) (by rw [HS2.out.en]; exact HE.out.good.s2) (by have h1 := HB6.out.size; have h2 := HBEL.out.size; have h3 := hn2.out; simp; omega)).mono ?_; clear lv; rintro y w8 ⟨rfl, hc8, hb8, hf8⟩; have HC8 : Hid (_) := hc8; have HB8 : Hid (_) := hb8; have HF8 : Hid (_) := hf8; clear hc8 hb8 hf8)
    | fail)
  obtain ⟨N, hN⟩ : ∃ N, Hid (N = leftM ⟨M2, S.pc, S.rs, nd, v⟩ m) := ⟨_, rfl⟩
  rw [← hN.out] at HC8
  have BALL : Hid (Below n2 W2 w8) := (((HBEL.out.trans HB6.out).alloc (by have h1 := HB6.out.size; have h2 := HBEL.out.size; have h3 := hn2.out; omega) _).trans HB8.out)
  obtain ⟨_, _, _, _, _, _, _, hx, hy⟩ := FC.out
  have lx : w.heap.size + 1 + 1 < n2 := by rw [hn2.out]; exact (Array.getElem?_eq_some_iff.1 hx).1
  have ly : w.heap.size + 1 + 1 + 1 < n2 := by rw [hn2.out]; exact (Array.getElem?_eq_some_iff.1 hy).1
  have hx8 := (BALL.out.block _ lx).trans hx
  have hy8 := (BALL.out.block _ ly).trans hy
  have x0 : w8.cell? ⟨w.heap.size + 1 + 1, 0, none⟩ = some (.slice none 0 0) := by simp [World.cell?, hx8]
  have x1 : w8.cell? ⟨w.heap.size + 1 + 1, 1, none⟩ = some (.slice none 0 0) := by simp [World.cell?, hx8]
  have x2 : w8.cell? ⟨w.heap.size + 1 + 1, 2, none⟩ = some (.slice none 0 0) := by simp [World.cell?, hx8]
  have y0 : w8.cell? ⟨w.heap.size + 1 + 1 + 1, 0, none⟩ = some (.int .i64 0) := by simp [World.cell?, hy8]
  have y1 : w8.cell? ⟨w.heap.size + 1 + 1 + 1, 1, none⟩ = some (.int .i64 0) := by simp [World.cell?, hy8]
  have fx0 := frozen_of_block hx8 0
  have fx1 := frozen_of_block hx8 1
  have fx2 := frozen_of_block hx8 2
  have fy0 := frozen_of_block hy8 0
  have fy1 := frozen_of_block hy8 1
  have s6 : n2 ≤ w6.heap.size := by have h1 := HB6.out.size; have h2 := HBEL.out.size; have h3 := hn2.out; omega
  have hb6 : w8.heap[w6.heap.size]? = some (.cells #[.int .i64 nd, .int .i64 v] 47 (0, 0)) := (HF8.out w6.heap.size (by simp) (fun q => by have := (Mine.fresh HC6.out.own q).2; omega) (fun q => by have := HC6.out.at_.lt; omega)).trans (Go.Deep.blk_alloc_new _ _)
  have o0 : w8.cell? ⟨w6.heap.size, 0, none⟩ = some (.int .i64 nd) := by simp [World.cell?, hb6]
  have o1 : w8.cell? ⟨w6.heap.size, 1, none⟩ = some (.int .i64 v) := by simp [World.cell?, hb6]
  have c0 := HC8.out.at_.c0
  have c1 := HC8.out.at_.c1
  have c2 := HC8.out.at_.c2
  have gcb := HGE.out
  obtain ⟨X, hX⟩ : ∃ X, Hid (X = w.heap.size + 1 + 1) := ⟨_, rfl⟩
  obtain ⟨Y, hY⟩ : ∃ Y, Hid (Y = w.heap.size + 1 + 1 + 1) := ⟨_, rfl⟩
  obtain ⟨Z, hZ⟩ : ∃ Z, Hid (Z = w6.heap.size) := ⟨_, rfl⟩
  rw [← hY.out, ← hX.out, ← hZ.out]
  rw [← hX.out] at x0 x1 x2 fx0 fx1 fx2 lx
  rw [← hY.out] at y0 y1 fy0 fy1 ly
  rw [← hZ.out] at o0 o1 s6
  have e1 : cb ≠ X := by omega
  have e2 : cb ≠ Y := by omega
  have e3 : Z ≠ X := by omega
  have e4 : Z ≠ Y := by omega
  have e5 : X ≠ Y := by have h1 := hX.out; have h2 := hY.out; omega
  have LX : Hid (X < n2) := lx
  have LY : Hid (Y < n2) := ly
  have GW : Hid (w.heap.size ≤ X ∧ w.heap.size ≤ Y) := by have h1 := hX.out; have h2 := hY.out; constructor <;> omega
  clear hx8 hy8 hx hy hb6 HF8 HB8 HB6 HBEL HC6 FC cL lx ly s6 gcb hX hY hZ
  go_big_region
  go_wp2
  refine bp_genR fun V9 hV9 => ?_
  obtain ⟨k0, k1, k2, k3, k4⟩ := xy5 (a := .slice N.fa N.frs.length N.fcap) (b := .slice N.ea N.ens.length N.ecap) (c := .slice N.qa N.qus.length N.qcap) (d := .int .i64 nd) (e := .int .i64 v) e5 x0 x1 x2 y0 y1
  have off : ∀ B, B < n2 → ¬ Mine N B ∧ B ≠ cb := fun B hB => ⟨fun q => by have := (Mine.fresh HC8.out.own q).1; omega, fun q => by have := HGE.out; omega⟩
  have HC9 := (((((HC8.out.far (off X LX.out).1 (off X LX.out).2 0 (.slice N.fa N.frs.length N.fcap)).far (off X LX.out).1 (off X LX.out).2 1 (.slice N.ea N.ens.length N.ecap)).far (off X LX.out).1 (off X LX.out).2 2 (.slice N.qa N.qus.length N.qcap)).far (off Y LY.out).1 (off Y LY.out).2 0 (.int .i64 nd)).far (off Y LY.out).1 (off Y LY.out).2 1 (.int .i64 v)).keep (Below.refl _ _).drew
  have HB9 := ((((((BW.out.trans (BALL.out.mono (by rw [hn2.out]; exact BW.out.size))).setCell (p := ⟨X, 0, none⟩) GW.out.1 (.slice N.fa N.frs.length N.fcap)).setCell (p := ⟨X, 1, none⟩) GW.out.1 (.slice N.ea N.ens.length N.ecap)).setCell (p := ⟨X, 2, none⟩) GW.out.1 (.slice N.qa N.qus.length N.qcap)).setCell (p := ⟨Y, 0, none⟩) GW.out.2 (.int .i64 nd)).setCell (p := ⟨Y, 1, none⟩) GW.out.2 (.int .i64 v)).drew
  generalize ((((w8.setCell ⟨X, 0, none⟩ (.slice N.fa N.frs.length N.fcap)).setCell ⟨X, 1, none⟩ (.slice N.ea N.ens.length N.ecap)).setCell ⟨X, 2, none⟩ (.slice N.qa N.qus.length N.qcap)).setCell ⟨Y, 0, none⟩ (.int .i64 nd)).setCell ⟨Y, 1, none⟩ (.int .i64 v) = V at hV9 k0 k1 k2 k3 k4 HC9 HB9
  subst hV9
  refine bodyPost_ret (by simp [results, Tryz.results65, go_sem, k0, k1, k2, k3, k4]; try rfl) rfl ?_
  refine ⟨N, by rw [hnd.out, hv.out, HRS.out.nd, HRS.out.v], ?_, HC9.own.mono (by rw [hn2.out]; exact BW.out.size), HB9⟩
  rw [hN.out, hnd.out, hv.out]
  exact (leftM_same (R := ⟨M2, S.pc, S.rs, S.nd, S.v⟩) (S := S) ⟨HS2.out, rfl, rfl, rfl, rfl⟩ m).trans (leftM_same HRS.out.symm m)

end Go.Proofs.YtdngbojbpmdegaaGreatDoor
