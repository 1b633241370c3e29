/-
  What the calls Enter and Resume of package run answer, for every argument (own work): the error and nothing else, or a machine in which the enclave was run, in memory of its own. The condition: the lists are within the reach of the form.
-/
import Derived.Test.YtdngbojbpmdegaaGreatDoorJRunEnter
namespace Go.Proofs.YtdngbojbpmdegaaGreatDoor
open Go.RowKit


set_option maxRecDepth 100000 in
set_option maxHeartbeats 8000000 in
theorem resume_any (M : Mv) (e fuel : Int) (w : World) (hM : MachAt w M) (hF : M.Fits) :
    Calls Tryz.prog 23 #[M.val, .int .i64 e, .int .i64 fuel] w (RunSaid (resD M e fuel) (resV M e fuel) (fuelF M e 3 fuel) (resM M e fuel) w) := by
  have h1' := fun w' (h : Below w.heap.size w w') => check_run M e 3 fuel w' (hM.below h) (by omega)
  have h2' := fun w' (h : Below w.heap.size w w') m pc r0 r1 r2 r3 f => fun ho hf => ran_run M m pc r0 r1 r2 r3 f w' (hM.below h) hF ho hf
  obtain ⟨z, hz⟩ : ∃ z, z = fuelF M e 3 fuel := ⟨_, rfl⟩
  obtain ⟨T, hT⟩ : ∃ T, T = resM M e fuel := ⟨_, rfl⟩
  obtain ⟨nd, hnd⟩ : ∃ nd, nd = resD M e fuel := ⟨_, rfl⟩
  obtain ⟨v, hv⟩ : ∃ v, v = resV M e fuel := ⟨_, rfl⟩
  rw [← hz, ← hT, ← hnd, ← hv]
  by_cases h0 : fuelF M e 3 fuel = 0
  · obtain ⟨m, f, rfl, rfl, hf, ho⟩ := res_ok h0
    rw [h0] at h1'
    obtain ⟨E, hE⟩ : ∃ E, E = M.ens.getD m default := ⟨_, rfl⟩
    have h2'' := fun w' h => h2' w' h m E.pc E.g0 E.g1 E.g2 E.g3 f (by rw [hE]; exact ho) hf
    have HT : Hid (T = leftM (runR f M m E.pc [E.g0, E.g1, E.g2, E.g3] xorR) m) := by show T = _; rw [hT, hE]; unfold resM resR; rw [if_pos h0, show ((m : Int) + 1 - 1).toNat = m by omega, Int.toNat_natCast]; rfl
    have HND : Hid (nd = (runR f M m E.pc [E.g0, E.g1, E.g2, E.g3] xorR).nd) := by show nd = _; rw [hnd, hE]; unfold resD resR; rw [if_pos h0, show ((m : Int) + 1 - 1).toNat = m by omega, Int.toNat_natCast]; rfl
    have HV : Hid (v = (runR f M m E.pc [E.g0, E.g1, E.g2, E.g3] xorR).v) := by show v = _; rw [hv, hE]; unfold resV resR; rw [if_pos h0, show ((m : Int) + 1 - 1).toNat = m by omega, Int.toNat_natCast]; rfl
    have HZ : Hid (z = 0) := by show z = 0; rw [hz, h0]
    rw [← HND.out, ← HV.out, ← HT.out] at h2''
    have hm4 := ho.m4
    have hl4 := ho.good.s2
    obtain ⟨eb, eo, hea, t0, t1, t2, t3, t4, t5, t6⟩ := hM.enclave (j := m) (by omega)
    rw [← hE] at t0 t1 t2 t3 t4 t5 t6
    have el := lt_of_cell t0
    have EE' : Hid (∀ w1, Below w.heap.size w w1 → w1.cell? ⟨eb, eo + m * 7, none⟩ = some (.int .i64 E.st) ∧ w1.cell? ⟨eb, eo + m * 7 + 1, none⟩ = some (.string E.log) ∧ w1.cell? ⟨eb, eo + m * 7 + 2, none⟩ = some (.int .i64 E.pc) ∧ w1.cell? ⟨eb, eo + m * 7 + 3, none⟩ = some (.int .i64 E.g0) ∧ w1.cell? ⟨eb, eo + m * 7 + 4, none⟩ = some (.int .i64 E.g1) ∧ w1.cell? ⟨eb, eo + m * 7 + 5, none⟩ = some (.int .i64 E.g2) ∧ w1.cell? ⟨eb, eo + m * 7 + 6, none⟩ = some (.int .i64 E.g3) ∧ eb < w1.heap.size) := fun w1 hb => ⟨(hb.cell (p := ⟨eb, eo + m * 7, none⟩) el).trans t0, (hb.cell (p := ⟨eb, eo + m * 7 + 1, none⟩) el).trans t1, (hb.cell (p := ⟨eb, eo + m * 7 + 2, none⟩) el).trans t2, (hb.cell (p := ⟨eb, eo + m * 7 + 3, none⟩) el).trans t3, (hb.cell (p := ⟨eb, eo + m * 7 + 4, none⟩) el).trans t4, (hb.cell (p := ⟨eb, eo + m * 7 + 5, none⟩) el).trans t5, (hb.cell (p := ⟨eb, eo + m * 7 + 6, none⟩) el).trans t6, Nat.lt_of_lt_of_le el hb.size⟩
    have hwm : IntKind.i64.wrap ((m : Int) + 1 - 1) = (m : Int) := by rw [IntKind.wrap_i64]; omega
    unfold Mv.val at h1' h2''
    unfold Mv.val
    obtain ⟨fa, frs, fcap, ea, ens, ecap, qa, qus, qcap⟩ := M
    dsimp only at h1' h2'' hea hl4 ⊢
    subst hea
    clear hM hF hz hT hnd hv h0 h2' ho hf hE t0 t1 t2 t3 t4 t5 t6 el
    obtain ⟨W3, hW3⟩ : ∃ W3, Hid (W3 = (((w.alloc (.cells #[.slice fa frs.length fcap, .slice (some ⟨eb, eo, none⟩) ens.length ecap, .slice qa qus.length qcap] 29)).alloc (.cells #[.slice none 0 0, .slice none 0 0, .slice none 0 0] 29)).alloc (.cells #[.int .i64 0, .int .i64 0] 47))) := ⟨_, rfl⟩
    have BW : Hid (Below w.heap.size w W3) := by show Below _ _ _; rw [hW3.out]; exact below_allocR (below_allocR (below_allocR (Below.refl _ _) _) _) _
    have FC : Hid (∀ w1, Below W3.heap.size W3 w1 → w1.cell? ⟨w.heap.size, 0, none⟩ = some (.slice fa frs.length fcap) ∧ w1.cell? ⟨w.heap.size, 1, none⟩ = some (.slice (some ⟨eb, eo, none⟩) ens.length ecap) ∧ w1.cell? ⟨w.heap.size, 2, none⟩ = some (.slice qa qus.length qcap) ∧ w1.heap[w.heap.size + 1]? = some (.cells #[.slice none 0 0, .slice none 0 0, .slice none 0 0] 29 (0, 0)) ∧ w1.heap[w.heap.size + 1 + 1]? = some (.cells #[.int .i64 0, .int .i64 0] 47 (0, 0))) := fun w1 hb => by
      have q1 : W3.heap[w.heap.size]? = some (.cells #[.slice fa frs.length fcap, .slice (some ⟨eb, eo, none⟩) ens.length ecap, .slice qa qus.length qcap] 29) := by
        rw [hW3.out, Below.heap_alloc _ _ _ (by simp; omega), Below.heap_alloc _ _ _ (by simp)]; exact Go.Deep.blk_alloc_new _ _
      have q2 : W3.heap[w.heap.size + 1]? = some (.cells #[.slice none 0 0, .slice none 0 0, .slice none 0 0] 29) := by
        rw [hW3.out, Below.heap_alloc _ _ _ (by simp)]
        have := Go.Deep.blk_alloc_new (w.alloc (.cells #[.slice fa frs.length fcap, .slice (some ⟨eb, eo, none⟩) ens.length ecap, .slice qa qus.length qcap] 29)) (.cells #[.slice none 0 0, .slice none 0 0, .slice none 0 0] 29)
        simpa using this
      have q3 : W3.heap[w.heap.size + 1 + 1]? = some (.cells #[.int .i64 0, .int .i64 0] 47) := by
        rw [hW3.out]
        have := Go.Deep.blk_alloc_new ((w.alloc (.cells #[.slice fa frs.length fcap, .slice (some ⟨eb, eo, none⟩) ens.length ecap, .slice qa qus.length qcap] 29)).alloc (.cells #[.slice none 0 0, .slice none 0 0, .slice none 0 0] 29)) (.cells #[.int .i64 0, .int .i64 0] 47)
        simpa using this
      have q1' := (hb.block _ (Array.getElem?_eq_some_iff.1 q1).1).trans q1
      have q2' := (hb.block _ (Array.getElem?_eq_some_iff.1 q2).1).trans q2
      have q3' := (hb.block _ (Array.getElem?_eq_some_iff.1 q3).1).trans q3
      exact ⟨by simp [World.cell?, q1'], by simp [World.cell?, q1'], by simp [World.cell?, q1'], q2', q3'⟩
    obtain ⟨m0, m1, m2, _, _⟩ := FC.out W3 (Below.refl _ _)
    have h1 := fun w' (h : Below W3.heap.size W3 w') => h1' w' (BW.out.trans (h.mono BW.out.size))
  
    have EE : Hid (∀ w1, Below W3.heap.size W3 w1 → _) := fun w1 hb => EE'.out w1 (BW.out.trans (hb.mono BW.out.size))
    have h2 := fun w' (h : Below W3.heap.size W3 w') => h2'' w' (BW.out.trans (h.mono BW.out.size))
    rw [hl4] at h1 h2 m1 FC hW3 ⊢
    have HL4 : Hid (ens.length = 4) := hl4
    clear h1' h2'' EE' hl4
    go_enter Tryz.func23, Tryz.ntmps23
    go_upto_region 1 with fail
    rw [← hW3.out]
    clear hW3
    go_wp2_with (first
      | (go_at_call 64; refine (h1 _ (Below.refl _ _)).mono ?_; clear h1; rintro x w1 ⟨rfl, hb1⟩; clear m0 m1 m2; obtain ⟨m0, m1, m2, hx, hy⟩ := FC.out w1 hb1; have HB1 : Hid (Below W3.heap.size W3 w1) := hb1; obtain ⟨x0, x1, x2, y0, y1, fx0, fx1, fx2, fy0, fy1⟩ := five_of hx hy; (obtain ⟨t0, t1, t2, t3, t4, t5, t6, tl⟩ := EE.out w1 hb1); have ml : w.heap.size < w1.heap.size := lt_of_cell m0; clear hb1 hx hy)
      | (go_at_call 65; refine (h2 _ (below_allocR HB1.out _)).mono ?_; clear h2; rintro x w2 ⟨N, rfl, hS, hO, hb2⟩; have HS2 : Hid (_) := hS; have HO2 : Hid (Owned w1.heap.size w2 N) := hO.mono (by first | exact Nat.le_refl _ | (simp; done)); have HB2 : Hid (Below W3.heap.size W3 w2) := HB1.out.trans ((below_allocR (Below.refl _ _) _).trans (hb2.mono (by simp)) |>.mono HB1.out.size); clear hS hO hb2)
      | fail)
    clear m0 m1 m2 x0 x1 x2 y0 y1 fx0 fx1 fx2 fy0 fy1
    obtain ⟨V3, hV3⟩ : ∃ V3, Hid (V3 = (w2.alloc (.cells #[.slice N.fa N.frs.length N.fcap, .slice N.ea N.ens.length N.ecap, .slice N.qa N.qus.length N.qcap] 29)).alloc (.cells #[.int .i64 nd, .int .i64 v] 47)) := ⟨_, rfl⟩
    rw [← hV3.out]
    have BV : Hid (Below W3.heap.size W3 V3) := by show Below _ _ _; rw [hV3.out]; exact below_allocR (below_allocR HB2.out _) _
    have BV2 : Hid (Below w2.heap.size w2 V3) := by show Below _ _ _; rw [hV3.out]; exact below_allocR (below_allocR (Below.refl _ _) _) _
    have q1 : V3.heap[w2.heap.size]? = some (.cells #[.slice N.fa N.frs.length N.fcap, .slice N.ea N.ens.length N.ecap, .slice N.qa N.qus.length N.qcap] 29) := by rw [hV3.out, Below.heap_alloc _ _ _ (by simp)]; exact Go.Deep.blk_alloc_new _ _
    have q2 : V3.heap[w2.heap.size + 1]? = some (.cells #[.int .i64 nd, .int .i64 v] 47) := by
      rw [hV3.out]
      have := Go.Deep.blk_alloc_new (w2.alloc (.cells #[.slice N.fa N.frs.length N.fcap, .slice N.ea N.ens.length N.ecap, .slice N.qa N.qus.length N.qcap] 29)) (.cells #[.int .i64 nd, .int .i64 v] 47)
      simpa using this
    obtain ⟨_, _, _, hx, hy⟩ := FC.out V3 BV.out
    have lx : w.heap.size + 1 < W3.heap.size := (Array.getElem?_eq_some_iff.1 (FC.out W3 (Below.refl _ _)).2.2.2.1).1
    have ly : w.heap.size + 1 + 1 < W3.heap.size := (Array.getElem?_eq_some_iff.1 (FC.out W3 (Below.refl _ _)).2.2.2.2).1
    have p0 : V3.cell? ⟨w2.heap.size, 0, none⟩ = some (.slice N.fa N.frs.length N.fcap) := by simp [World.cell?, q1]
    have p1 : V3.cell? ⟨w2.heap.size, 1, none⟩ = some (.slice N.ea N.ens.length N.ecap) := by simp [World.cell?, q1]
    have p2 : V3.cell? ⟨w2.heap.size, 2, none⟩ = some (.slice N.qa N.qus.length N.qcap) := by simp [World.cell?, q1]
    have o0 : V3.cell? ⟨w2.heap.size + 1, 0, none⟩ = some (.int .i64 nd) := by simp [World.cell?, q2]
    have o1 : V3.cell? ⟨w2.heap.size + 1, 1, none⟩ = some (.int .i64 v) := by simp [World.cell?, q2]
    have x0 : V3.cell? ⟨w.heap.size + 1, 0, none⟩ = some (.slice none 0 0) := by simp [World.cell?, hx]
    have x1 : V3.cell? ⟨w.heap.size + 1, 1, none⟩ = some (.slice none 0 0) := by simp [World.cell?, hx]
    have x2 : V3.cell? ⟨w.heap.size + 1, 2, none⟩ = some (.slice none 0 0) := by simp [World.cell?, hx]
    have y0 : V3.cell? ⟨w.heap.size + 1 + 1, 0, none⟩ = some (.int .i64 0) := by simp [World.cell?, hy]
    have y1 : V3.cell? ⟨w.heap.size + 1 + 1, 1, none⟩ = some (.int .i64 0) := by simp [World.cell?, hy]
    have fx0 := frozen_of_block hx 0
    have fx1 := frozen_of_block hx 1
    have fx2 := frozen_of_block hx 2
    have fy0 := frozen_of_block hy 0
    have fy1 := frozen_of_block hy 1
    obtain ⟨X, hX⟩ : ∃ X, Hid (X = w.heap.size + 1) := ⟨_, rfl⟩
    obtain ⟨Y, hY⟩ : ∃ Y, Hid (Y = w.heap.size + 1 + 1) := ⟨_, rfl⟩
    obtain ⟨P, hP⟩ : ∃ P, Hid (P = w2.heap.size) := ⟨_, rfl⟩
    obtain ⟨Z, hZ⟩ : ∃ Z, Hid (Z = w2.heap.size + 1) := ⟨_, rfl⟩
    rw [← hY.out, ← hX.out, ← hZ.out, ← hP.out]
    rw [← hX.out] at x0 x1 x2 fx0 fx1 fx2 lx
    rw [← hY.out] at y0 y1 fy0 fy1 ly
    rw [← hP.out] at p0 p1 p2
    rw [← hZ.out] at o0 o1
    have s2 := HB2.out.size
    have eXY : X ≠ Y := by have h1 := hX.out; have h2 := hY.out; omega
    have e1 : P ≠ X := by have h1 := hP.out; omega
    have e2 : P ≠ Y := by have h1 := hP.out; omega
    have e3 : Z ≠ X := by have h1 := hZ.out; omega
    have e4 : Z ≠ Y := by have h1 := hZ.out; omega
    have LXY : Hid (X < W3.heap.size ∧ Y < W3.heap.size) := ⟨lx, ly⟩
    have GW : Hid (w.heap.size ≤ X ∧ w.heap.size ≤ Y) := by have h1 := hX.out; have h2 := hY.out; constructor <;> omega
    clear hx hy q1 q2 FC s2 lx ly hX hY hP hZ hV3
    go_big_region
    go_wp2
    refine bp_genR fun V9 hV9 => ?_
    obtain ⟨k0, k1, k2, k3, k4⟩ := xy5 (a := .slice N.fa N.frs.length N.fcap) (b := .slice N.ea N.ens.length N.ecap) (c := .slice N.qa N.qus.length N.qcap) (d := .int .i64 nd) (e := .int .i64 v) eXY x0 x1 x2 y0 y1
    have HB9 := ((((((BW.out.trans (BV.out.mono BW.out.size)).setCell (p := ⟨X, 0, none⟩) GW.out.1 (.slice N.fa N.frs.length N.fcap)).setCell (p := ⟨X, 1, none⟩) GW.out.1 (.slice N.ea N.ens.length N.ecap)).setCell (p := ⟨X, 2, none⟩) GW.out.1 (.slice N.qa N.qus.length N.qcap)).setCell (p := ⟨Y, 0, none⟩) GW.out.2 (.int .i64 nd)).setCell (p := ⟨Y, 1, none⟩) GW.out.2 (.int .i64 v)).drew
    have HO9 := own_xy (a := .slice N.fa N.frs.length N.fcap) (b := .slice N.ea N.ens.length N.ecap) (c := .slice N.qa N.qus.length N.qcap) (d := .int .i64 nd) (e := .int .i64 v) (HO2.out.below BV2.out) (Nat.lt_of_lt_of_le LXY.out.1 HB1.out.size) (Nat.lt_of_lt_of_le LXY.out.2 HB1.out.size)
    generalize ((((V3.setCell ⟨X, 0, none⟩ (.slice N.fa N.frs.length N.fcap)).setCell ⟨X, 1, none⟩ (.slice N.ea N.ens.length N.ecap)).setCell ⟨X, 2, none⟩ (.slice N.qa N.qus.length N.qcap)).setCell ⟨Y, 0, none⟩ (.int .i64 nd)).setCell ⟨Y, 1, none⟩ (.int .i64 v) = V at hV9 k0 k1 k2 k3 k4 HB9 HO9
    subst hV9
    refine bodyPost_ret (by simp [results, Tryz.results23, go_sem, k0, k1, k2, k3, k4]; try rfl) rfl ?_
    exact ⟨N, by rw [HZ.out]; rfl, HS2.out, HO9.mono (Nat.le_trans BW.out.size HB1.out.size), HB9⟩
  · rw [hT, hnd, hv]
    unfold resM resD resV
    rw [if_neg h0, if_neg h0, if_neg h0]
    have hT' : noM.Same noM := Mv.Same.refl _
    have HT : Hid (_) := hT'
    unfold Mv.val at h1'
    unfold Mv.val
    have hz1 : (z != 0) = true := by rw [hz]; simpa using h0
    rw [← hz] at h1'
    obtain ⟨fa, frs, fcap, ea, ens, ecap, qa, qus, qcap⟩ := M
    dsimp only at h1' ⊢
    clear hM hF hT hnd hv h0 h2' hT' hz
    obtain ⟨W3, hW3, BW, FC⟩ := box5 w (.slice fa frs.length fcap) (.slice ea ens.length ecap) (.slice qa qus.length qcap)
    obtain ⟨m0, m1, m2, _, _⟩ := FC.out W3 (Below.refl _ _)
    have h1 := fun w' (h : Below W3.heap.size W3 w') => h1' w' (BW.out.trans (h.mono BW.out.size))
  
    clear h1'
    go_enter Tryz.func23, Tryz.ntmps23
    go_upto_region 1 with fail
    rw [← hW3.out]
    clear hW3
    go_wp2_with (go_at_call 64; refine (h1 _ (Below.refl _ _)).mono ?_; clear h1; rintro x w1 ⟨rfl, hb1⟩; clear m0 m1 m2; obtain ⟨m0, m1, m2, hx, hy⟩ := FC.out w1 hb1; have HB1 : Hid (Below W3.heap.size W3 w1) := hb1; obtain ⟨x0, x1, x2, y0, y1, fx0, fx1, fx2, fy0, fy1⟩ := five_of hx hy; clear FC hb1 hx hy)
    refine bp_genR fun V9 hV9 => ?_
    obtain ⟨k0, k1, k2, k3, k4⟩ := xy5 (a := .slice none 0 0) (b := .slice none 0 0) (c := .slice none 0 0) (d := .int .i64 0) (e := .int .i64 0) (by omega) x0 x1 x2 y0 y1
    have HB9 : Below w.heap.size w V9 := below5 BW.out HB1.out hV9
    rw [← hV9] at k0 k1 k2 k3 k4
    clear hV9
    (try simp only [Exit.inBlock, Exit.then])
    refine bodyPost_ret (by simp [results, Tryz.results23, go_sem, k0, k1, k2, k3, k4]; try rfl) rfl ?_
    exact ⟨noM, rfl, HT.out, noM_own _ _, HB9⟩

end Go.Proofs.YtdngbojbpmdegaaGreatDoor
