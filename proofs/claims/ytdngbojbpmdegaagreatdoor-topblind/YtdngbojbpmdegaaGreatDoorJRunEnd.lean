/-
  What the call leave of package run does (own work): the enclave's state behind a run. The conditions: the core holds a machine that may be; its enclave is there. What holds of a run's end (own work): the enclaves are as they were, the address and the registers may be, and so may the machine. No condition beside the run's own.
-/
import Derived.Test.YtdngbojbpmdegaaGreatDoorRunSteps
import Derived.BigRegion
namespace Go.Proofs.YtdngbojbpmdegaaGreatDoor
open Go.RowKit

theorem FarSame.drew {M : Mv} {cb : Nat} {w w1 : World} (h : FarSame M cb w w1) : FarSame M cb w w1.drew := h
theorem wf0 : (Lit.int .i64 0).wf = true := by decide
theorem wf3 : (Lit.int .i64 3).wf = true := by decide
/-- a cell of the enclave is another one -/
theorem Core.enc {n0 : Nat} {w : World} {cb : Nat} {M : Mv} {e pc : Int} {rs : List Int} {m eb eo i0 : Nat} {E E' : En} {v : Value} (h : Core n0 w cb { M with ens := M.ens.set m E } e pc rs) (he : M.ea = some ⟨eb, eo, none⟩) (hm : m < M.ens.length) (hi : i0 < 7) (hok : E'.Ok) (hx : ∀ i, i < 7 → E'.cells[i]? = if i = i0 then some v else E.cells[i]?) :
    Core n0 (w.setCell ⟨eb, eo + m * 7 + i0, none⟩ v) cb { M with ens := M.ens.set m E' } e pc rs := by
  have hbc : eb ≠ cb := fun q => h.off (q ▸ .inr (.inl ⟨eo, none, he⟩))
  have hb : ∀ o', (w.setCell ⟨eb, eo + m * 7 + i0, none⟩ v).cell? ⟨cb, o', none⟩ = w.cell? ⟨cb, o', none⟩ := fun o' => World.cell?_setCell_other _ _ _ _ (by intro q; simp only [Addr.mk.injEq] at q; exact hbc q.1)
  have hg : (M.ens.set m E).getD m default = E := by simp [List.getD_eq_getElem?_getD, hm]
  have o := h.own.setEn (eb := eb) (eo := eo) (k := m) (i0 := i0) (e' := E') (v := v) he (by simpa using hm) hi hok (fun i hi' => by rw [hx i hi']; dsimp only; rw [hg])
  dsimp only at o
  rw [List.set_set] at o
  refine ⟨⟨(hb 0).trans h.at_.c0, ?_, (hb 2).trans h.at_.c2, (hb 3).trans h.at_.c3, (hb 4).trans h.at_.c4, fun i hi => (hb _).trans (h.at_.cr i hi), fun o => (World.frozen?_setCell _ _ _ _).trans (h.at_.fz o), by simp [World.setCell]; exact h.at_.lt⟩, o, ?_, h.ge, h.off⟩
  · rw [hb 1, h.at_.c1]; simp
  · exact QRow.keep (M := { M with ens := M.ens.set m E }) h.q fun b' o' s e' => set_heap _ _ _ _ _ (fun q => by subst q; exact h.own.eq b' eo none o' s he e')
theorem Core.five {n0 : Nat} {w : World} {cb : Nat} {M : Mv} {e pc : Int} {rs : List Int} {m eb eo : Nat} {E : En} (h : Core n0 w cb { M with ens := M.ens.set m E } e pc rs) (he : M.ea = some ⟨eb, eo, none⟩) (hm : m < M.ens.length) (hok : E.Ok) {p a b c d : Int} (wp : (Lit.int .i64 p).wf = true) (wa : (Lit.int .i64 a).wf = true) (wb : (Lit.int .i64 b).wf = true) (wc : (Lit.int .i64 c).wf = true) (wd : (Lit.int .i64 d).wf = true) :
    Core n0 (((((w.setCell ⟨eb, eo + m * 7 + 2, none⟩ (.int .i64 p)).setCell ⟨eb, eo + m * 7 + 3, none⟩ (.int .i64 a)).setCell ⟨eb, eo + m * 7 + 3 + 1, none⟩ (.int .i64 b)).setCell ⟨eb, eo + m * 7 + 3 + 2, none⟩ (.int .i64 c)).setCell ⟨eb, eo + m * 7 + 3 + 3, none⟩ (.int .i64 d)) cb { M with ens := M.ens.set m ⟨E.st, E.log, p, a, b, c, d⟩ } e pc rs := by
  have h1 := h.enc (i0 := 2) (E' := ⟨E.st, E.log, p, E.g0, E.g1, E.g2, E.g3⟩) (v := .int .i64 p) he hm (by omega) ⟨hok.wst, hok.len, wp, hok.w0, hok.w1, hok.w2, hok.w3⟩ (fun i hi => by
    match i, hi with
    | 0, _ => rfl
    | 1, _ => rfl
    | 2, _ => rfl
    | 3, _ => rfl
    | 4, _ => rfl
    | 5, _ => rfl
    | 6, _ => rfl)
  have h2 := h1.enc (i0 := 3) (E' := ⟨E.st, E.log, p, a, E.g1, E.g2, E.g3⟩) (v := .int .i64 a) he hm (by omega) ⟨hok.wst, hok.len, wp, wa, hok.w1, hok.w2, hok.w3⟩ (fun i hi => by
    match i, hi with
    | 0, _ => rfl
    | 1, _ => rfl
    | 2, _ => rfl
    | 3, _ => rfl
    | 4, _ => rfl
    | 5, _ => rfl
    | 6, _ => rfl)
  have h3 := h2.enc (i0 := 4) (E' := ⟨E.st, E.log, p, a, b, E.g2, E.g3⟩) (v := .int .i64 b) he hm (by omega) ⟨hok.wst, hok.len, wp, wa, wb, hok.w2, hok.w3⟩ (fun i hi => by
    match i, hi with
    | 0, _ => rfl
    | 1, _ => rfl
    | 2, _ => rfl
    | 3, _ => rfl
    | 4, _ => rfl
    | 5, _ => rfl
    | 6, _ => rfl)
  have h4 := h3.enc (i0 := 5) (E' := ⟨E.st, E.log, p, a, b, c, E.g3⟩) (v := .int .i64 c) he hm (by omega) ⟨hok.wst, hok.len, wp, wa, wb, wc, hok.w3⟩ (fun i hi => by
    match i, hi with
    | 0, _ => rfl
    | 1, _ => rfl
    | 2, _ => rfl
    | 3, _ => rfl
    | 4, _ => rfl
    | 5, _ => rfl
    | 6, _ => rfl)
  exact h4.enc (i0 := 6) (E' := ⟨E.st, E.log, p, a, b, c, d⟩) (v := .int .i64 d) he hm (by omega) ⟨hok.wst, hok.len, wp, wa, wb, wc, wd⟩ (fun i hi => by
    match i, hi with
    | 0, _ => rfl
    | 1, _ => rfl
    | 2, _ => rfl
    | 3, _ => rfl
    | 4, _ => rfl
    | 5, _ => rfl
    | 6, _ => rfl)
theorem Core.state {n0 : Nat} {w : World} {cb : Nat} {M : Mv} {e pc : Int} {rs : List Int} {m eb eo : Nat} {E : En} (h : Core n0 w cb { M with ens := M.ens.set m E } e pc rs) (he : M.ea = some ⟨eb, eo, none⟩) (hm : m < M.ens.length) (hok : E.Ok) {s : Int} (ws : (Lit.int .i64 s).wf = true) :
    Core n0 (w.setCell ⟨eb, eo + m * 7, none⟩ (.int .i64 s)) cb { M with ens := M.ens.set m { E with st := s } } e pc rs :=
  h.enc (i0 := 0) (E' := { E with st := s }) (v := .int .i64 s) he hm (by omega) ⟨ws, hok.len, hok.wpc, hok.w0, hok.w1, hok.w2, hok.w3⟩ (fun i hi => by
    match i, hi with
    | 0, _ => rfl
    | 1, _ => rfl
    | 2, _ => rfl
    | 3, _ => rfl
    | 4, _ => rfl
    | 5, _ => rfl
    | 6, _ => rfl)
theorem set_self {M : Mv} {m : Nat} (hm : m < M.ens.length) : { M with ens := M.ens.set m (M.ens.getD m default) } = M := by
  have : M.ens.set m (M.ens.getD m default) = M.ens := by
    apply List.ext_getElem?
    intro i
    by_cases e : i = m
    · subst e; simp [hm, List.getD_eq_getElem?_getD]
    · rw [List.getElem?_set_ne (Ne.symm e)]
  rw [this]

theorem doR_nd (M : Mv) (m : Nat) (pc : Int) (rs : List Int) (x n : Int) (xr : Int → Int → Int) : (doR M m pc rs x n xr).nd = 0 ∨ (doR M m pc rs x n xr).nd = 1 ∨ (doR M m pc rs x n xr).nd = 3 := by
  unfold doR
  repeat' split
  all_goals simp
theorem stepR_nd (M : Mv) (m : Nat) (pc : Int) (rs : List Int) (xr : Int → Int → Int) : (stepR M m pc rs xr).nd = 0 ∨ (stepR M m pc rs xr).nd = 1 ∨ (stepR M m pc rs xr).nd = 3 := by
  unfold stepR
  split
  · simp
  · exact doR_nd _ _ _ _ _ _ _
theorem runR_nd : ∀ (k : Nat) (M : Mv) (m : Nat) (pc : Int) (rs : List Int) (xr : Int → Int → Int), (runR k M m pc rs xr).nd = 1 ∨ (runR k M m pc rs xr).nd = 2 ∨ (runR k M m pc rs xr).nd = 3
  | 0, _, _, _, _, _ => by simp [runR]
  | k + 1, M, m, pc, rs, xr => by
    unfold runR
    split
    · exact runR_nd k _ _ _ _ _
    · rename_i h
      rcases stepR_nd M m pc rs xr with q | q | q
      · exact absurd q h
      · exact .inl q
      · exact .inr (.inr q)

set_option maxRecDepth 100000 in
set_option maxHeartbeats 4000000 in
theorem leave_done {n0 : Nat} {w : World} {cb : Nat} {M : Mv} {m : Nat} {pc : Int} {rs : List Int} (h : Core n0 w cb M ((m : Int) + 1) pc rs) (hl : M.ens.length = 4) (hm : m < 4) (hn0 : n0 ≤ w.heap.size) (v : Int) (hpc : (Lit.int .i64 pc).wf = true) (hrs : ∀ i, i < 4 → (Lit.int .i64 (rs.getD i 0)).wf = true) :
    Calls Tryz.prog 114 #[.pointer (some ⟨cb, 0, none⟩), .agg #[.int .i64 1, .int .i64 v]] w fun y w' => y = .returned (.tuple #[]) ∧ Core n0 w' cb { M with ens := M.ens.set m (leftE (M.ens.getD m default) ⟨M, pc, rs, 1, v⟩) } ((m : Int) + 1) pc rs ∧ Below n0 w w' ∧ FarSame M cb w w' := by
  obtain ⟨e, he⟩ : ∃ e : Int, Hid (e = (m : Int) + 1) := ⟨_, rfl⟩
  rw [← he.out] at h ⊢
  obtain ⟨W2, hW2⟩ : ∃ W2, Hid (W2 = w.alloc (.cells #[.int .i64 1, .int .i64 v] 47)) := ⟨_, rfl⟩
  have BW : Hid (Below w.heap.size w W2) := by show Below _ _ _; rw [hW2.out]; exact (Below.refl _ _).alloc (Nat.le_refl _) _
  have hblk : W2.heap[w.heap.size]? = some (.cells #[.int .i64 1, .int .i64 v] 47 (0, 0)) := by rw [hW2.out]; exact Go.Deep.blk_alloc_new _ _
  have HC2 : Hid (Core n0 W2 cb M e pc rs) := h.keep BW.out
  have hmR : ¬ Mine M w.heap.size := fun q => by have := (Mine.fresh h.own q).2; omega
  obtain ⟨eb, eo, hea, t0, t1, t2, t3, t4, t5, t6⟩ := h.own.at_.enclave (j := m) (by omega)
  have hok := h.own.at_.enok m (by omega)
  have heR : eb ≠ w.heap.size := fun q => hmR (q ▸ .inr (.inl ⟨eo, none, hea⟩))
  have hec : eb ≠ cb := fun q => h.off (q ▸ .inr (.inl ⟨eo, none, hea⟩))
  have hnew := h.own.ne eb eo none hea
  have FF : Hid (∀ V, Below W2.heap.size W2 V → V.cell? ⟨cb, 1, none⟩ = some (.slice (some ⟨eb, eo, none⟩) 4 M.ecap) ∧ V.cell? ⟨cb, 3, none⟩ = some (.int .i64 ((m : Int) + 1)) ∧ V.cell? ⟨cb, 4, none⟩ = some (.int .i64 pc) ∧ V.cell? ⟨cb, 5, none⟩ = some (.int .i64 (rs.getD 0 0)) ∧ V.cell? ⟨cb, 6, none⟩ = some (.int .i64 (rs.getD 1 0)) ∧ V.cell? ⟨cb, 7, none⟩ = some (.int .i64 (rs.getD 2 0)) ∧ V.cell? ⟨cb, 8, none⟩ = some (.int .i64 (rs.getD 3 0)) ∧ V.cell? ⟨w.heap.size, 0, none⟩ = some (.int .i64 1) ∧
      V.cell? ⟨eb, eo + m * 7, none⟩ = some (.int .i64 (M.ens.getD m default).st) ∧ V.cell? ⟨eb, eo + m * 7 + 2, none⟩ = some (.int .i64 (M.ens.getD m default).pc) ∧ V.cell? ⟨eb, eo + m * 7 + 3, none⟩ = some (.int .i64 (M.ens.getD m default).g0) ∧ V.cell? ⟨eb, eo + m * 7 + 4, none⟩ = some (.int .i64 (M.ens.getD m default).g1) ∧ V.cell? ⟨eb, eo + m * 7 + 5, none⟩ = some (.int .i64 (M.ens.getD m default).g2) ∧ V.cell? ⟨eb, eo + m * 7 + 6, none⟩ = some (.int .i64 (M.ens.getD m default).g3) ∧ (∀ o, V.frozen? ⟨eb, o, none⟩ = false) ∧ cb < V.heap.size ∧ eb < V.heap.size ∧ w.heap.size < V.heap.size) := fun V hV => by
    have c := HC2.out.keep hV
    have lr : w.heap.size < W2.heap.size := (Array.getElem?_eq_some_iff.1 hblk).1
    have hb2 := (hV.block _ lr).trans hblk
    have key : ∀ o x, w.cell? ⟨eb, o, none⟩ = some x → V.cell? ⟨eb, o, none⟩ = some x := fun o x q => (hV.cell (p := ⟨eb, o, none⟩) (Nat.lt_of_lt_of_le hnew.2.1 BW.out.size)).trans ((BW.out.cell (p := ⟨eb, o, none⟩) hnew.2.1).trans q)
    have c1 := c.at_.c1
    have c3 := c.at_.c3
    rw [hea, hl] at c1
    rw [he.out] at c3
    exact ⟨c1, c3, c.at_.c4, c.at_.cr 0 (by omega), c.at_.cr 1 (by omega), c.at_.cr 2 (by omega), c.at_.cr 3 (by omega), by simp [World.cell?, hb2], key _ _ t0, key _ _ t2, key _ _ t3, key _ _ t4, key _ _ t5, key _ _ t6, fun o => (c.own.ne eb eo none hea).2.2 o, c.at_.lt, (c.own.ne eb eo none hea).2.1, Nat.lt_of_lt_of_le lr hV.size⟩
  obtain ⟨c1, c3, c4, d0, d1, d2, d3, r0, u0, u2, u3, u4, u5, u6, uf, lc, le, lr⟩ := FF.out W2 (Below.refl _ _)
  have hm4 : (m : Int) < 4 := by omega
  have hwm : IntKind.i64.wrap ((m : Int) + 1 - 1) = (m : Int) := by rw [IntKind.wrap_i64]; omega
  have HOK : Hid (_) := hok
  have HEA : Hid (_) := hea
  have HML : Hid (m < M.ens.length) := by show m < _; omega
  have HF2 : Hid (FarSame M cb w W2) := (FarSame.refl M cb w).below (Nat.le_refl _) BW.out
  have HB2 : Hid (Below n0 w W2) := BW.out.mono hn0
  have HGE : Hid (n0 ≤ eb) := hnew.1
  have HME : Hid (Mine M eb) := .inr (.inl ⟨eo, none, hea⟩)
  have HPC : Hid (_) := hpc
  have HRS : Hid (_) := hrs
  generalize hEn : M.ens.getD m default = En0 at *
  clear h hblk t0 t1 t2 t3 t4 t5 t6 hok hea hnew hl hpc hrs
  go_enter Tryz.func114, Tryz.ntmps114
  go_upto_region 1 with fail
  rw [← hW2.out]
  go_quiet (fail)
  obtain ⟨V4, hV4⟩ : ∃ V4, Hid (V4 = W2.drewN nq) := ⟨_, rfl⟩
  rw [← hV4.out]
  have hB4 : Below W2.heap.size W2 V4 := by rw [hV4.out]; exact below_drewN (Below.refl _ _) nq
  clear c1 c3 c4 d0 d1 d2 d3 r0 u0 u2 u3 u4 u5 u6 uf lc le lr
  obtain ⟨c1, c3, c4, d0, d1, d2, d3, r0, u0, u2, u3, u4, u5, u6, uf, lc, le, lr⟩ := FF.out V4 hB4
  have uf0 := uf (eo + m * 7)
  have uf2 := uf (eo + m * 7 + 2)
  have uf3 := uf (eo + m * 7 + 3)
  have uf4 := uf (eo + m * 7 + 4)
  have uf5 := uf (eo + m * 7 + 5)
  have uf6 := uf (eo + m * 7 + 6)
  obtain ⟨q0, hq0⟩ : ∃ q, Hid (rs.getD 0 0 = q) := ⟨_, rfl⟩
  obtain ⟨q1, hq1⟩ : ∃ q, Hid (rs.getD 1 0 = q) := ⟨_, rfl⟩
  obtain ⟨q2, hq2⟩ : ∃ q, Hid (rs.getD 2 0 = q) := ⟨_, rfl⟩
  obtain ⟨q3, hq3⟩ : ∃ q, Hid (rs.getD 3 0 = q) := ⟨_, rfl⟩
  rw [hq0.out] at d0
  rw [hq1.out] at d1
  rw [hq2.out] at d2
  rw [hq3.out] at d3
  have HC4 : Hid (Core n0 V4 cb M e pc rs) := HC2.out.keep hB4
  have HB4 : Hid (Below n0 w V4) := HB2.out.trans (hB4.mono (by have := BW.out.size; omega))
  have HF4 : Hid (FarSame M cb w V4) := HF2.out.below BW.out.size hB4
  clear hB4 hV4 FF uf
  go_wp2
  refine bp_genR fun V9 hV9 => ?_
  have hc0 : Core n0 V4 cb { M with ens := M.ens.set m En0 } e pc rs := by
    have := set_self (M := M) (m := m) HML.out
    rw [hEn] at this
    rw [this]
    exact HC4.out
  have hc1 := Core.five (E := En0) hc0 HEA.out HML.out HOK.out (p := 0) (a := 0) (b := 0) (c := 0) (d := 0) wf0 wf0 wf0 wf0 wf0
  have hok1 : (En.mk En0.st En0.log 0 0 0 0 0).Ok := ⟨HOK.out.wst, HOK.out.len, wf0, wf0, wf0, wf0, wf0⟩
  have hc2 := hc1.state HEA.out HML.out hok1 (s := 2) (by decide)
  have HC9 : Core n0 V9 cb { M with ens := M.ens.set m ⟨2, En0.log, 0, 0, 0, 0, 0⟩ } e pc rs := by rw [hV9]; exact hc2
  have HB9 : Below n0 w V9 := by rw [hV9]; repeat (first | (with_reducible exact HB4.out) | (with_reducible refine Below.drew ?_) | (with_reducible refine Below.setCell ?_ HGE.out _))
  have HF9 : FarSame M cb w V9 := by rw [hV9]; repeat (first | (with_reducible exact HF4.out) | (with_reducible refine FarSame.drew ?_) | (with_reducible refine FarSame.set ?_ (.inr (.inl HME.out)) _ _))
  clear hV9
  (try simp only [Exit.inBlock, Exit.then])
  refine bodyPost_end (by simp [results, Tryz.results114, go_sem]; try rfl) rfl ?_
  refine ⟨rfl, ?_, HB9, HF9⟩
  have : leftE En0 ⟨M, pc, rs, 1, v⟩ = ⟨2, En0.log, 0, 0, 0, 0, 0⟩ := by simp [leftE]
  rw [this]
  exact HC9

set_option maxRecDepth 100000 in
set_option maxHeartbeats 4000000 in
theorem leave_fault {n0 : Nat} {w : World} {cb : Nat} {M : Mv} {m : Nat} {pc : Int} {rs : List Int} (h : Core n0 w cb M ((m : Int) + 1) pc rs) (hl : M.ens.length = 4) (hm : m < 4) (hn0 : n0 ≤ w.heap.size) (v : Int) (hpc : (Lit.int .i64 pc).wf = true) (hrs : ∀ i, i < 4 → (Lit.int .i64 (rs.getD i 0)).wf = true) :
    Calls Tryz.prog 114 #[.pointer (some ⟨cb, 0, none⟩), .agg #[.int .i64 3, .int .i64 v]] w fun y w' => y = .returned (.tuple #[]) ∧ Core n0 w' cb { M with ens := M.ens.set m (leftE (M.ens.getD m default) ⟨M, pc, rs, 3, v⟩) } ((m : Int) + 1) pc rs ∧ Below n0 w w' ∧ FarSame M cb w w' := by
  obtain ⟨e, he⟩ : ∃ e : Int, Hid (e = (m : Int) + 1) := ⟨_, rfl⟩
  rw [← he.out] at h ⊢
  obtain ⟨W2, hW2⟩ : ∃ W2, Hid (W2 = w.alloc (.cells #[.int .i64 3, .int .i64 v] 47)) := ⟨_, rfl⟩
  have BW : Hid (Below w.heap.size w W2) := by show Below _ _ _; rw [hW2.out]; exact (Below.refl _ _).alloc (Nat.le_refl _) _
  have hblk : W2.heap[w.heap.size]? = some (.cells #[.int .i64 3, .int .i64 v] 47 (0, 0)) := by rw [hW2.out]; exact Go.Deep.blk_alloc_new _ _
  have HC2 : Hid (Core n0 W2 cb M e pc rs) := h.keep BW.out
  have hmR : ¬ Mine M w.heap.size := fun q => by have := (Mine.fresh h.own q).2; omega
  obtain ⟨eb, eo, hea, t0, t1, t2, t3, t4, t5, t6⟩ := h.own.at_.enclave (j := m) (by omega)
  have hok := h.own.at_.enok m (by omega)
  have heR : eb ≠ w.heap.size := fun q => hmR (q ▸ .inr (.inl ⟨eo, none, hea⟩))
  have hec : eb ≠ cb := fun q => h.off (q ▸ .inr (.inl ⟨eo, none, hea⟩))
  have hnew := h.own.ne eb eo none hea
  have FF : Hid (∀ V, Below W2.heap.size W2 V → V.cell? ⟨cb, 1, none⟩ = some (.slice (some ⟨eb, eo, none⟩) 4 M.ecap) ∧ V.cell? ⟨cb, 3, none⟩ = some (.int .i64 ((m : Int) + 1)) ∧ V.cell? ⟨cb, 4, none⟩ = some (.int .i64 pc) ∧ V.cell? ⟨cb, 5, none⟩ = some (.int .i64 (rs.getD 0 0)) ∧ V.cell? ⟨cb, 6, none⟩ = some (.int .i64 (rs.getD 1 0)) ∧ V.cell? ⟨cb, 7, none⟩ = some (.int .i64 (rs.getD 2 0)) ∧ V.cell? ⟨cb, 8, none⟩ = some (.int .i64 (rs.getD 3 0)) ∧ V.cell? ⟨w.heap.size, 0, none⟩ = some (.int .i64 3) ∧
      V.cell? ⟨eb, eo + m * 7, none⟩ = some (.int .i64 (M.ens.getD m default).st) ∧ V.cell? ⟨eb, eo + m * 7 + 2, none⟩ = some (.int .i64 (M.ens.getD m default).pc) ∧ V.cell? ⟨eb, eo + m * 7 + 3, none⟩ = some (.int .i64 (M.ens.getD m default).g0) ∧ V.cell? ⟨eb, eo + m * 7 + 4, none⟩ = some (.int .i64 (M.ens.getD m default).g1) ∧ V.cell? ⟨eb, eo + m * 7 + 5, none⟩ = some (.int .i64 (M.ens.getD m default).g2) ∧ V.cell? ⟨eb, eo + m * 7 + 6, none⟩ = some (.int .i64 (M.ens.getD m default).g3) ∧ (∀ o, V.frozen? ⟨eb, o, none⟩ = false) ∧ cb < V.heap.size ∧ eb < V.heap.size ∧ w.heap.size < V.heap.size) := fun V hV => by
    have c := HC2.out.keep hV
    have lr : w.heap.size < W2.heap.size := (Array.getElem?_eq_some_iff.1 hblk).1
    have hb2 := (hV.block _ lr).trans hblk
    have key : ∀ o x, w.cell? ⟨eb, o, none⟩ = some x → V.cell? ⟨eb, o, none⟩ = some x := fun o x q => (hV.cell (p := ⟨eb, o, none⟩) (Nat.lt_of_lt_of_le hnew.2.1 BW.out.size)).trans ((BW.out.cell (p := ⟨eb, o, none⟩) hnew.2.1).trans q)
    have c1 := c.at_.c1
    have c3 := c.at_.c3
    rw [hea, hl] at c1
    rw [he.out] at c3
    exact ⟨c1, c3, c.at_.c4, c.at_.cr 0 (by omega), c.at_.cr 1 (by omega), c.at_.cr 2 (by omega), c.at_.cr 3 (by omega), by simp [World.cell?, hb2], key _ _ t0, key _ _ t2, key _ _ t3, key _ _ t4, key _ _ t5, key _ _ t6, fun o => (c.own.ne eb eo none hea).2.2 o, c.at_.lt, (c.own.ne eb eo none hea).2.1, Nat.lt_of_lt_of_le lr hV.size⟩
  obtain ⟨c1, c3, c4, d0, d1, d2, d3, r0, u0, u2, u3, u4, u5, u6, uf, lc, le, lr⟩ := FF.out W2 (Below.refl _ _)
  have hm4 : (m : Int) < 4 := by omega
  have hwm : IntKind.i64.wrap ((m : Int) + 1 - 1) = (m : Int) := by rw [IntKind.wrap_i64]; omega
  have HOK : Hid (_) := hok
  have HEA : Hid (_) := hea
  have HML : Hid (m < M.ens.length) := by show m < _; omega
  have HF2 : Hid (FarSame M cb w W2) := (FarSame.refl M cb w).below (Nat.le_refl _) BW.out
  have HB2 : Hid (Below n0 w W2) := BW.out.mono hn0
  have HGE : Hid (n0 ≤ eb) := hnew.1
  have HME : Hid (Mine M eb) := .inr (.inl ⟨eo, none, hea⟩)
  have HPC : Hid (_) := hpc
  have HRS : Hid (_) := hrs
  generalize hEn : M.ens.getD m default = En0 at *
  clear h hblk t0 t1 t2 t3 t4 t5 t6 hok hea hnew hl hpc hrs
  go_enter Tryz.func114, Tryz.ntmps114
  go_upto_region 1 with fail
  rw [← hW2.out]
  go_quiet (fail)
  obtain ⟨V4, hV4⟩ : ∃ V4, Hid (V4 = W2.drewN nq) := ⟨_, rfl⟩
  rw [← hV4.out]
  have hB4 : Below W2.heap.size W2 V4 := by rw [hV4.out]; exact below_drewN (Below.refl _ _) nq
  clear c1 c3 c4 d0 d1 d2 d3 r0 u0 u2 u3 u4 u5 u6 uf lc le lr
  obtain ⟨c1, c3, c4, d0, d1, d2, d3, r0, u0, u2, u3, u4, u5, u6, uf, lc, le, lr⟩ := FF.out V4 hB4
  have uf0 := uf (eo + m * 7)
  have uf2 := uf (eo + m * 7 + 2)
  have uf3 := uf (eo + m * 7 + 3)
  have uf4 := uf (eo + m * 7 + 4)
  have uf5 := uf (eo + m * 7 + 5)
  have uf6 := uf (eo + m * 7 + 6)
  obtain ⟨q0, hq0⟩ : ∃ q, Hid (rs.getD 0 0 = q) := ⟨_, rfl⟩
  obtain ⟨q1, hq1⟩ : ∃ q, Hid (rs.getD 1 0 = q) := ⟨_, rfl⟩
  obtain ⟨q2, hq2⟩ : ∃ q, Hid (rs.getD 2 0 = q) := ⟨_, rfl⟩
  obtain ⟨q3, hq3⟩ : ∃ q, Hid (rs.getD 3 0 = q) := ⟨_, rfl⟩
  rw [hq0.out] at d0
  rw [hq1.out] at d1
  rw [hq2.out] at d2
  rw [hq3.out] at d3
  have HC4 : Hid (Core n0 V4 cb M e pc rs) := HC2.out.keep hB4
  have HB4 : Hid (Below n0 w V4) := HB2.out.trans (hB4.mono (by have := BW.out.size; omega))
  have HF4 : Hid (FarSame M cb w V4) := HF2.out.below BW.out.size hB4
  clear hB4 hV4 FF uf
  go_wp2
  refine bp_genR fun V9 hV9 => ?_
  have hc0 : Core n0 V4 cb { M with ens := M.ens.set m En0 } e pc rs := by
    have := set_self (M := M) (m := m) HML.out
    rw [hEn] at this
    rw [this]
    exact HC4.out
  have hc1 := Core.five (E := En0) hc0 HEA.out HML.out HOK.out (p := 0) (a := 0) (b := 0) (c := 0) (d := 0) wf0 wf0 wf0 wf0 wf0
  have hok1 : (En.mk En0.st En0.log 0 0 0 0 0).Ok := ⟨HOK.out.wst, HOK.out.len, wf0, wf0, wf0, wf0, wf0⟩
  have hc2 := hc1.state HEA.out HML.out hok1 (s := 4) (by decide)
  have HC9 : Core n0 V9 cb { M with ens := M.ens.set m ⟨4, En0.log, 0, 0, 0, 0, 0⟩ } e pc rs := by rw [hV9]; exact hc2
  have HB9 : Below n0 w V9 := by rw [hV9]; repeat (first | (with_reducible exact HB4.out) | (with_reducible refine Below.drew ?_) | (with_reducible refine Below.setCell ?_ HGE.out _))
  have HF9 : FarSame M cb w V9 := by rw [hV9]; repeat (first | (with_reducible exact HF4.out) | (with_reducible refine FarSame.drew ?_) | (with_reducible refine FarSame.set ?_ (.inr (.inl HME.out)) _ _))
  clear hV9
  (try simp only [Exit.inBlock, Exit.then])
  refine bodyPost_end (by simp [results, Tryz.results114, go_sem]; try rfl) rfl ?_
  refine ⟨rfl, ?_, HB9, HF9⟩
  have : leftE En0 ⟨M, pc, rs, 3, v⟩ = ⟨4, En0.log, 0, 0, 0, 0, 0⟩ := by simp [leftE]
  rw [this]
  exact HC9

set_option maxRecDepth 100000 in
set_option maxHeartbeats 4000000 in
theorem leave_held {n0 : Nat} {w : World} {cb : Nat} {M : Mv} {m : Nat} {pc : Int} {rs : List Int} (h : Core n0 w cb M ((m : Int) + 1) pc rs) (hl : M.ens.length = 4) (hm : m < 4) (hn0 : n0 ≤ w.heap.size) (v : Int) (hpc : (Lit.int .i64 pc).wf = true) (hrs : ∀ i, i < 4 → (Lit.int .i64 (rs.getD i 0)).wf = true) :
    Calls Tryz.prog 114 #[.pointer (some ⟨cb, 0, none⟩), .agg #[.int .i64 2, .int .i64 v]] w fun y w' => y = .returned (.tuple #[]) ∧ Core n0 w' cb { M with ens := M.ens.set m (leftE (M.ens.getD m default) ⟨M, pc, rs, 2, v⟩) } ((m : Int) + 1) pc rs ∧ Below n0 w w' ∧ FarSame M cb w w' := by
  obtain ⟨e, he⟩ : ∃ e : Int, Hid (e = (m : Int) + 1) := ⟨_, rfl⟩
  rw [← he.out] at h ⊢
  obtain ⟨W2, hW2⟩ : ∃ W2, Hid (W2 = w.alloc (.cells #[.int .i64 2, .int .i64 v] 47)) := ⟨_, rfl⟩
  have BW : Hid (Below w.heap.size w W2) := by show Below _ _ _; rw [hW2.out]; exact (Below.refl _ _).alloc (Nat.le_refl _) _
  have hblk : W2.heap[w.heap.size]? = some (.cells #[.int .i64 2, .int .i64 v] 47 (0, 0)) := by rw [hW2.out]; exact Go.Deep.blk_alloc_new _ _
  have HC2 : Hid (Core n0 W2 cb M e pc rs) := h.keep BW.out
  have hmR : ¬ Mine M w.heap.size := fun q => by have := (Mine.fresh h.own q).2; omega
  obtain ⟨eb, eo, hea, t0, t1, t2, t3, t4, t5, t6⟩ := h.own.at_.enclave (j := m) (by omega)
  have hok := h.own.at_.enok m (by omega)
  have heR : eb ≠ w.heap.size := fun q => hmR (q ▸ .inr (.inl ⟨eo, none, hea⟩))
  have hec : eb ≠ cb := fun q => h.off (q ▸ .inr (.inl ⟨eo, none, hea⟩))
  have hnew := h.own.ne eb eo none hea
  have FF : Hid (∀ V, Below W2.heap.size W2 V → V.cell? ⟨cb, 1, none⟩ = some (.slice (some ⟨eb, eo, none⟩) 4 M.ecap) ∧ V.cell? ⟨cb, 3, none⟩ = some (.int .i64 ((m : Int) + 1)) ∧ V.cell? ⟨cb, 4, none⟩ = some (.int .i64 pc) ∧ V.cell? ⟨cb, 5, none⟩ = some (.int .i64 (rs.getD 0 0)) ∧ V.cell? ⟨cb, 6, none⟩ = some (.int .i64 (rs.getD 1 0)) ∧ V.cell? ⟨cb, 7, none⟩ = some (.int .i64 (rs.getD 2 0)) ∧ V.cell? ⟨cb, 8, none⟩ = some (.int .i64 (rs.getD 3 0)) ∧ V.cell? ⟨w.heap.size, 0, none⟩ = some (.int .i64 2) ∧
      V.cell? ⟨eb, eo + m * 7, none⟩ = some (.int .i64 (M.ens.getD m default).st) ∧ V.cell? ⟨eb, eo + m * 7 + 2, none⟩ = some (.int .i64 (M.ens.getD m default).pc) ∧ V.cell? ⟨eb, eo + m * 7 + 3, none⟩ = some (.int .i64 (M.ens.getD m default).g0) ∧ V.cell? ⟨eb, eo + m * 7 + 4, none⟩ = some (.int .i64 (M.ens.getD m default).g1) ∧ V.cell? ⟨eb, eo + m * 7 + 5, none⟩ = some (.int .i64 (M.ens.getD m default).g2) ∧ V.cell? ⟨eb, eo + m * 7 + 6, none⟩ = some (.int .i64 (M.ens.getD m default).g3) ∧ (∀ o, V.frozen? ⟨eb, o, none⟩ = false) ∧ cb < V.heap.size ∧ eb < V.heap.size ∧ w.heap.size < V.heap.size) := fun V hV => by
    have c := HC2.out.keep hV
    have lr : w.heap.size < W2.heap.size := (Array.getElem?_eq_some_iff.1 hblk).1
    have hb2 := (hV.block _ lr).trans hblk
    have key : ∀ o x, w.cell? ⟨eb, o, none⟩ = some x → V.cell? ⟨eb, o, none⟩ = some x := fun o x q => (hV.cell (p := ⟨eb, o, none⟩) (Nat.lt_of_lt_of_le hnew.2.1 BW.out.size)).trans ((BW.out.cell (p := ⟨eb, o, none⟩) hnew.2.1).trans q)
    have c1 := c.at_.c1
    have c3 := c.at_.c3
    rw [hea, hl] at c1
    rw [he.out] at c3
    exact ⟨c1, c3, c.at_.c4, c.at_.cr 0 (by omega), c.at_.cr 1 (by omega), c.at_.cr 2 (by omega), c.at_.cr 3 (by omega), by simp [World.cell?, hb2], key _ _ t0, key _ _ t2, key _ _ t3, key _ _ t4, key _ _ t5, key _ _ t6, fun o => (c.own.ne eb eo none hea).2.2 o, c.at_.lt, (c.own.ne eb eo none hea).2.1, Nat.lt_of_lt_of_le lr hV.size⟩
  obtain ⟨c1, c3, c4, d0, d1, d2, d3, r0, u0, u2, u3, u4, u5, u6, uf, lc, le, lr⟩ := FF.out W2 (Below.refl _ _)
  have hm4 : (m : Int) < 4 := by omega
  have hwm : IntKind.i64.wrap ((m : Int) + 1 - 1) = (m : Int) := by rw [IntKind.wrap_i64]; omega
  have HOK : Hid (_) := hok
  have HEA : Hid (_) := hea
  have HML : Hid (m < M.ens.length) := by show m < _; omega
  have HF2 : Hid (FarSame M cb w W2) := (FarSame.refl M cb w).below (Nat.le_refl _) BW.out
  have HB2 : Hid (Below n0 w W2) := BW.out.mono hn0
  have HGE : Hid (n0 ≤ eb) := hnew.1
  have HME : Hid (Mine M eb) := .inr (.inl ⟨eo, none, hea⟩)
  have HPC : Hid (_) := hpc
  have HRS : Hid (_) := hrs
  generalize hEn : M.ens.getD m default = En0 at *
  clear h hblk t0 t1 t2 t3 t4 t5 t6 hok hea hnew hl hpc hrs
  go_enter Tryz.func114, Tryz.ntmps114
  go_upto_region 1 with fail
  rw [← hW2.out]
  go_quiet (fail)
  obtain ⟨V4, hV4⟩ : ∃ V4, Hid (V4 = W2.drewN nq) := ⟨_, rfl⟩
  rw [← hV4.out]
  have hB4 : Below W2.heap.size W2 V4 := by rw [hV4.out]; exact below_drewN (Below.refl _ _) nq
  clear c1 c3 c4 d0 d1 d2 d3 r0 u0 u2 u3 u4 u5 u6 uf lc le lr
  obtain ⟨c1, c3, c4, d0, d1, d2, d3, r0, u0, u2, u3, u4, u5, u6, uf, lc, le, lr⟩ := FF.out V4 hB4
  have uf0 := uf (eo + m * 7)
  have uf2 := uf (eo + m * 7 + 2)
  have uf3 := uf (eo + m * 7 + 3)
  have uf4 := uf (eo + m * 7 + 4)
  have uf5 := uf (eo + m * 7 + 5)
  have uf6 := uf (eo + m * 7 + 6)
  obtain ⟨q0, hq0⟩ : ∃ q, Hid (rs.getD 0 0 = q) := ⟨_, rfl⟩
  obtain ⟨q1, hq1⟩ : ∃ q, Hid (rs.getD 1 0 = q) := ⟨_, rfl⟩
  obtain ⟨q2, hq2⟩ : ∃ q, Hid (rs.getD 2 0 = q) := ⟨_, rfl⟩
  obtain ⟨q3, hq3⟩ : ∃ q, Hid (rs.getD 3 0 = q) := ⟨_, rfl⟩
  rw [hq0.out] at d0
  rw [hq1.out] at d1
  rw [hq2.out] at d2
  rw [hq3.out] at d3
  have HC4 : Hid (Core n0 V4 cb M e pc rs) := HC2.out.keep hB4
  have HB4 : Hid (Below n0 w V4) := HB2.out.trans (hB4.mono (by have := BW.out.size; omega))
  have HF4 : Hid (FarSame M cb w V4) := HF2.out.below BW.out.size hB4
  clear hB4 hV4 FF uf
  go_upto_region 8 with fail
  go_big_region
  go_wp2
  refine bp_genR fun V9 hV9 => ?_
  have hc0 : Core n0 V4 cb { M with ens := M.ens.set m En0 } e pc rs := by
    have := set_self (M := M) (m := m) HML.out
    rw [hEn] at this
    rw [this]
    exact HC4.out
  have hc1 := Core.five (E := En0) hc0 HEA.out HML.out HOK.out (p := 0) (a := 0) (b := 0) (c := 0) (d := 0) wf0 wf0 wf0 wf0 wf0
  have hok1 : (En.mk En0.st En0.log 0 0 0 0 0).Ok := ⟨HOK.out.wst, HOK.out.len, wf0, wf0, wf0, wf0, wf0⟩
  have hc2 := hc1.state HEA.out HML.out hok1 (s := 3) (by decide)
  have hok2 : (En.mk 3 En0.log 0 0 0 0 0).Ok := ⟨wf3, HOK.out.len, wf0, wf0, wf0, wf0, wf0⟩
  have hc3 := hc2.five HEA.out HML.out hok2 (p := pc) (a := q0) (b := q1) (c := q2) (d := q3) HPC.out (by rw [← hq0.out]; exact HRS.out 0 (by omega)) (by rw [← hq1.out]; exact HRS.out 1 (by omega)) (by rw [← hq2.out]; exact HRS.out 2 (by omega)) (by rw [← hq3.out]; exact HRS.out 3 (by omega))
  have HC9 : Core n0 V9 cb { M with ens := M.ens.set m ⟨3, En0.log, pc, q0, q1, q2, q3⟩ } e pc rs := by rw [hV9]; exact hc3.keep (Below.refl _ _).drew
  have HB9 : Below n0 w V9 := by rw [hV9]; repeat (first | (with_reducible exact HB4.out) | (with_reducible refine Below.drew ?_) | (with_reducible refine Below.setCell ?_ HGE.out _))
  have HF9 : FarSame M cb w V9 := by rw [hV9]; repeat (first | (with_reducible exact HF4.out) | (with_reducible refine FarSame.drew ?_) | (with_reducible refine FarSame.set ?_ (.inr (.inl HME.out)) _ _))
  clear hV9
  (try simp only [Exit.inBlock, Exit.then])
  refine bodyPost_end (by simp [results, Tryz.results114, go_sem]; try rfl) rfl ?_
  refine ⟨rfl, ?_, HB9, HF9⟩
  have : leftE En0 ⟨M, pc, rs, 2, v⟩ = ⟨3, En0.log, pc, q0, q1, q2, q3⟩ := by rw [← hq0.out, ← hq1.out, ← hq2.out, ← hq3.out]; simp [leftE]
  rw [this]
  exact HC9

end Go.Proofs.YtdngbojbpmdegaaGreatDoor

namespace Go.Proofs.YtdngbojbpmdegaaGreatDoor
open Go.RowKit

theorem doR_stop {M : Mv} {m : Nat} {pc : Int} {rs : List Int} {x n : Int} {xr : Int → Int → Int} : (doR M m pc rs x n xr).nd = 0 ∨ ((doR M m pc rs x n xr).M = M ∧ (doR M m pc rs x n xr).rs = rs ∧ (doR M m pc rs x n xr).pc = pc + 2) := by
  unfold doR
  repeat (first | (split; first | exact .inl rfl | exact .inr ⟨rfl, rfl, rfl⟩) | split | exact .inl rfl | exact .inr ⟨rfl, rfl, rfl⟩)
theorem stepR_stop {M : Mv} {m : Nat} {pc : Int} {rs : List Int} {xr : Int → Int → Int} (h : ¬ (stepR M m pc rs xr).nd = 0) : (stepR M m pc rs xr).M = M ∧ (stepR M m pc rs xr).rs = rs ∧ ((stepR M m pc rs xr).pc = pc + 2 ∨ (stepR M m pc rs xr).pc = pc) := by
  unfold stepR at h ⊢
  split at h
  · rename_i q
    rw [if_pos q]
    exact ⟨rfl, rfl, .inr rfl⟩
  · rename_i q
    rw [if_neg q]
    rcases doR_stop (M := M) (m := m) (pc := pc) (rs := rs) (xr := xr) (x := wordAt M (frmF M.frs ((m : Int) + 1) pc 4) pc) (n := wordAt M (frmF M.frs ((m : Int) + 1) (pc + 1) 4) (pc + 1)) with q | ⟨a, b, c⟩
    · exact absurd q h
    · exact ⟨a, b, .inl c⟩
/-- what is left of a run may be -/
structure EndOk (R : Rn) (m : Nat) : Prop where
  good : Good R.M
  pc : 0 ≤ R.pc ∧ R.pc ≤ 65537
  held : R.nd = 2 → R.pc ≤ 65535
  len : R.rs.length = 4
  rs : ∀ i, 0 ≤ R.rs.getD i 0 ∧ R.rs.getD i 0 ≤ 65535
  st : (R.M.ens.getD m default).st ≠ 0
theorem stepR_two {M : Mv} {m : Nat} {pc : Int} {rs : List Int} {xr : Int → Int → Int} : ¬ (stepR M m pc rs xr).nd = 2 := by
  unfold stepR
  split
  · simp
  · unfold doR
    repeat (first | (split; simp) | split | simp)
theorem runR_end : ∀ (k : Nat) {M : Mv} {m : Nat} {pc : Int} {rs : List Int} (_ : RunOk M m pc rs), EndOk (runR k M m pc rs xorR) m
  | 0, M, m, pc, rs, h => ⟨h.good, ⟨h.pc.1, by have := h.pc.2; show pc ≤ 65537; omega⟩, fun _ => h.pc.2, h.len, h.rs, h.st⟩
  | k + 1, M, m, pc, rs, h => by
    by_cases hn : (stepR M m pc rs xorR).nd = 0
    · rw [runR_more hn]
      exact runR_end k (step_ok h (fun a b => xor_in a b) hn)
    · rw [runR_stop hn]
      obtain ⟨a, b, c⟩ := stepR_stop hn
      have hp := h.pc
      refine ⟨by rw [a]; exact h.good, by omega, fun q => absurd q stepR_two, by rw [b]; exact h.len, fun i => by rw [b]; exact h.rs i, by rw [a]; exact h.st⟩
theorem wf_run {n : Int} (h : 0 ≤ n ∧ n ≤ 1000000) : (Lit.int .i64 n).wf = true := by
  have h1 : IntKind.i64.min = -9223372036854775808 := rfl
  have h2 : IntKind.i64.max = 9223372036854775807 := rfl
  simp [Lit.wf, h1, h2]; omega

end Go.Proofs.YtdngbojbpmdegaaGreatDoor
