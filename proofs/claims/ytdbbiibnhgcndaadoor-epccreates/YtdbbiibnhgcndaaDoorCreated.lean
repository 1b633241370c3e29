/-
  What the call CreatedOf (riddleref) answers for every machine: what the document asks, in memory of its own; it turns nothing that was in memory. The condition: the lists are within the reach of the form.
-/
import Derived.Test.YtdbbiibnhgcndaaDoorCreate
namespace Go.Proofs.YtdbbiibnhgcndaaDoor
open Go.RowKit

theorem Owned.layEn {n0 : Nat} {w : World} {M : Mv} (h : Owned n0 w M) {eb eo k : Nat} (he : M.ea = some ⟨eb, eo, none⟩) (hk : k < M.ens.length) (E' : En) (q' : E'.Ok) :
    Owned n0 (((((((w.setCell ⟨eb, eo + k * 7, none⟩ (.int .i64 E'.st)).setCell ⟨eb, eo + k * 7 + 1, none⟩ (.string E'.log)).setCell ⟨eb, eo + k * 7 + 2, none⟩ (.int .i64 E'.pc)).setCell ⟨eb, eo + k * 7 + 3, none⟩ (.int .i64 E'.g0)).setCell ⟨eb, eo + k * 7 + 4, none⟩ (.int .i64 E'.g1)).setCell ⟨eb, eo + k * 7 + 5, none⟩ (.int .i64 E'.g2)).setCell ⟨eb, eo + k * 7 + 6, none⟩ (.int .i64 E'.g3)) { M with ens := M.ens.set k E' } := by
  have q := h.at_.enok k hk
  obtain ⟨E, hE⟩ : ∃ E, E = M.ens.getD k default := ⟨_, rfl⟩
  rw [← hE] at q
  have step : ∀ {w : World} {N : Mv} (_ : Owned n0 w N) (_ : N.ea = some ⟨eb, eo, none⟩) (_ : k < N.ens.length) (i0 : Nat) (_ : i0 < 7) (e0 e' : En) (v : Value) (_ : N.ens.getD k default = e0) (_ : e'.Ok) (_ : ∀ i, i < 7 → e'.cells[i]? = if i = i0 then some v else e0.cells[i]?),
      Owned n0 (w.setCell ⟨eb, eo + k * 7 + i0, none⟩ v) { N with ens := N.ens.set k e' } := fun h he hk i0 hi e0 e' v h0 hok hx => h.setEn he hk hi hok (by rw [h0]; exact hx)
  have g : ∀ (N : Mv) (e : En), k < N.ens.length → (N.ens.set k e).getD k default = e := fun N e hk => by rw [getD_set _ _ _ _ hk, if_pos rfl]
  have s1 := step h he hk 0 (by omega) E { E with st := E'.st } (.int .i64 E'.st) hE.symm ⟨q'.wst, q.len, q.wpc, q.w0, q.w1, q.w2, q.w3⟩ (fun i hi => by match i, hi with | 0, _ => rfl | 1, _ => rfl | 2, _ => rfl | 3, _ => rfl | 4, _ => rfl | 5, _ => rfl | 6, _ => rfl)
  have s2 := step s1 he (by simpa using hk) 1 (by omega) _ { E with st := E'.st, log := E'.log } (.string E'.log) (g _ _ hk) ⟨q'.wst, q'.len, q.wpc, q.w0, q.w1, q.w2, q.w3⟩ (fun i hi => by match i, hi with | 0, _ => rfl | 1, _ => rfl | 2, _ => rfl | 3, _ => rfl | 4, _ => rfl | 5, _ => rfl | 6, _ => rfl)
  have s3 := step s2 he (by simpa using hk) 2 (by omega) _ { E with st := E'.st, log := E'.log, pc := E'.pc } (.int .i64 E'.pc) (g _ _ (by simpa using hk)) ⟨q'.wst, q'.len, q'.wpc, q.w0, q.w1, q.w2, q.w3⟩ (fun i hi => by match i, hi with | 0, _ => rfl | 1, _ => rfl | 2, _ => rfl | 3, _ => rfl | 4, _ => rfl | 5, _ => rfl | 6, _ => rfl)
  have s4 := step s3 he (by simpa using hk) 3 (by omega) _ { E with st := E'.st, log := E'.log, pc := E'.pc, g0 := E'.g0 } (.int .i64 E'.g0) (g _ _ (by simpa using hk)) ⟨q'.wst, q'.len, q'.wpc, q'.w0, q.w1, q.w2, q.w3⟩ (fun i hi => by match i, hi with | 0, _ => rfl | 1, _ => rfl | 2, _ => rfl | 3, _ => rfl | 4, _ => rfl | 5, _ => rfl | 6, _ => rfl)
  have s5 := step s4 he (by simpa using hk) 4 (by omega) _ { E with st := E'.st, log := E'.log, pc := E'.pc, g0 := E'.g0, g1 := E'.g1 } (.int .i64 E'.g1) (g _ _ (by simpa using hk)) ⟨q'.wst, q'.len, q'.wpc, q'.w0, q'.w1, q.w2, q.w3⟩ (fun i hi => by match i, hi with | 0, _ => rfl | 1, _ => rfl | 2, _ => rfl | 3, _ => rfl | 4, _ => rfl | 5, _ => rfl | 6, _ => rfl)
  have s6 := step s5 he (by simpa using hk) 5 (by omega) _ { E with st := E'.st, log := E'.log, pc := E'.pc, g0 := E'.g0, g1 := E'.g1, g2 := E'.g2 } (.int .i64 E'.g2) (g _ _ (by simpa using hk)) ⟨q'.wst, q'.len, q'.wpc, q'.w0, q'.w1, q'.w2, q.w3⟩ (fun i hi => by match i, hi with | 0, _ => rfl | 1, _ => rfl | 2, _ => rfl | 3, _ => rfl | 4, _ => rfl | 5, _ => rfl | 6, _ => rfl)
  have s7 := step s6 he (by simpa using hk) 6 (by omega) _ E' (.int .i64 E'.g3) (g _ _ (by simpa using hk)) q' (fun i hi => by match i, hi with | 0, _ => rfl | 1, _ => rfl | 2, _ => rfl | 3, _ => rfl | 4, _ => rfl | 5, _ => rfl | 6, _ => rfl)
  simp only [List.set_set, Nat.add_zero] at s7
  exact s7
theorem lay7_below {w0 w : World} {B eb : Nat} {v0 v1 v2 v3 v4 v5 v6 : Value} {a : Nat} (h : Below B w0 w) (hb : B ≤ eb) :
    Below B w0 (((((((w.setCell ⟨eb, a, none⟩ v0).setCell ⟨eb, a + 1, none⟩ v1).setCell ⟨eb, a + 2, none⟩ v2).setCell ⟨eb, a + 3, none⟩ v3).setCell ⟨eb, a + 4, none⟩ v4).setCell ⟨eb, a + 5, none⟩ v5).setCell ⟨eb, a + 6, none⟩ v6) :=
  ((((((h.setCell (by simpa using hb) _).setCell (by simpa using hb) _).setCell (by simpa using hb) _).setCell (by simpa using hb) _).setCell (by simpa using hb) _).setCell (by simpa using hb) _).setCell (by simpa using hb) _
theorem lay7_heap {w : World} {eb : Nat} {v0 v1 v2 v3 v4 v5 v6 : Value} {a b : Nat} (h : b ≠ eb) :
    (((((((w.setCell ⟨eb, a, none⟩ v0).setCell ⟨eb, a + 1, none⟩ v1).setCell ⟨eb, a + 2, none⟩ v2).setCell ⟨eb, a + 3, none⟩ v3).setCell ⟨eb, a + 4, none⟩ v4).setCell ⟨eb, a + 5, none⟩ v5).setCell ⟨eb, a + 6, none⟩ v6).heap[b]? = w.heap[b]? := by
  rw [Below.heap_setCell _ _ _ _ h, Below.heap_setCell _ _ _ _ h, Below.heap_setCell _ _ _ _ h, Below.heap_setCell _ _ _ _ h, Below.heap_setCell _ _ _ _ h, Below.heap_setCell _ _ _ _ h, Below.heap_setCell _ _ _ _ h]
theorem lay7_size {w : World} {eb : Nat} {v0 v1 v2 v3 v4 v5 v6 : Value} {a : Nat} :
    (((((((w.setCell ⟨eb, a, none⟩ v0).setCell ⟨eb, a + 1, none⟩ v1).setCell ⟨eb, a + 2, none⟩ v2).setCell ⟨eb, a + 3, none⟩ v3).setCell ⟨eb, a + 4, none⟩ v4).setCell ⟨eb, a + 5, none⟩ v5).setCell ⟨eb, a + 6, none⟩ v6).heap.size = w.heap.size := by simp [World.setCell]
theorem openE_ok : openE.Ok := by
  have z : (Lit.int .i64 0).wf = true := by decide
  exact ⟨by show (Lit.int .i64 1).wf = true; decide, by show (5 : Nat) ≤ maxLen; unfold maxLen; omega, z, z, z, z, z⟩

set_option maxRecDepth 100000 in
set_option maxHeartbeats 4000000 in
theorem created_any (M : Mv) (w : World) (hM : MachAt w M) (hF : M.Fits) :
    Calls Tryd.prog 26 #[M.val] w fun x w' => ∃ N : Mv, x = .returned (.tuple #[N.val, .int .i64 (creN M), .int .i64 (creF M)]) ∧ N.Same (creM M) ∧ Owned w.heap.size w' N ∧ Below w.heap.size w w' := by
  have h1 := fun w' (h : Below w.heap.size w w') => machineFault_any M w' (hM.below h)
  have h2 := fun w' (h : Below w.heap.size w w') => mcopy_any M w' (hM.below h) hF
  have HM : Hid (∀ w', Below w.heap.size w w' → MachAt w' M) := fun w' h => hM.below h
  obtain ⟨RM, hRM⟩ : ∃ RM, Hid (RM = creM M) := ⟨_, rfl⟩
  obtain ⟨rn, hrn⟩ : ∃ rn, Hid (rn = creN M) := ⟨_, rfl⟩
  obtain ⟨rf, hrf⟩ : ∃ rf, Hid (rf = creF M) := ⟨_, rfl⟩
  rw [← hRM.out, ← hrn.out, ← hrf.out]
  have hN0 : creN M = if creF M = 0 then creI M + 1 else 0 := rfl
  have hF0 : creF M = if machF M = 0 then (if creI M < 0 then 7 else 0) else machF M := rfl
  by_cases hz : machF M = 0
  · rw [if_pos hz] at hF0
    rw [hz] at h1
    have HS4 : Hid (M.ens.length = 4) := (machF_sizes hz).2.1
    have HFull : Hid ((∀ j, j < 4 → emptyB (M.ens.getD j default) = false) → RM = noM ∧ rn = 0 ∧ rf = 7) := fun hall => by
      have hi : creI M = -1 := idxOf_none (by rw [HS4.out]; exact hall)
      rw [hi] at hF0
      rw [hRM.out, hrn.out, hrf.out]
      unfold creM
      rw [hN0, hF0]
      exact ⟨rfl, rfl, rfl⟩
    have HHit : Hid (∀ k, k < 4 → (∀ j, j < k → emptyB (M.ens.getD j default) = false) → emptyB (M.ens.getD k default) = true → RM = { M with ens := M.ens.set k openE } ∧ rn = (k : Int) + 1 ∧ rf = 0) := fun k hk hall he => by
      have hi : creI M = (k : Int) := idxOf_at (by rw [HS4.out]; exact hk) hall he
      have e0 : creF M = 0 := by rw [hF0, hi]; exact if_neg (by omega)
      rw [hRM.out, hrn.out, hrf.out]
      unfold creM
      rw [hN0, e0, if_pos rfl, if_pos rfl, hi, Int.toNat_natCast]
      exact ⟨rfl, rfl, rfl⟩
    unfold Mv.val at h1 h2 ⊢
    obtain ⟨fa, frs, fcap, ea, ens, ecap, qa, qus, qcap⟩ := M
    dsimp only at h1 h2 HS4 ⊢
    have B2 : ∀ o1 o2, Hid (Below w.heap.size w ((w.alloc o1).alloc o2)) := fun o1 o2 => a2B _ _ _
    have HX : ∀ o1 o2 w1, Hid (Below ((w.alloc o1).alloc o2).heap.size ((w.alloc o1).alloc o2) w1 → Below w.heap.size w w1) := fun o1 o2 w1 h => (B2 o1 o2).out.trans (h.mono (by simp; omega))
    have CF : Hid (_) := boxes_blk w (.slice fa frs.length fcap) (.slice ea ens.length ecap) (.slice qa qus.length qcap)
    clear hM hF hz hN0 hF0 hRM hrn hrf
    rw [HS4.out] at h1 h2 CF ⊢
    go_enter Tryd.func26, Tryd.ntmps26
    go_wp2_with (first
      | (go_at_call 49; refine (h1 _ (B2 _ _).out).mono ?_; rintro x w1 ⟨rfl, hb1⟩; obtain ⟨AB, RB⟩ := CF.out w1 hb1; have HAB : Hid (_) := AB; have HRB : Hid (_) := RB; have HB1 : Hid (Below w.heap.size w w1) := (HX _ _ _).out hb1; clear hb1 CF AB RB)
      | fail)
    clear HX B2 h1
    go_loop [6] (fun i => ∃ k : Nat, k ≤ 4 ∧ i = .int .i64 k ∧ Hid (∀ j, j < k → emptyB (ens.getD j default) = false)) (fun i => 4 - (intOf i).toNat)
    case atStart => exact ⟨0, Nat.zero_le _, rfl, fun j hj => absurd hj (by omega)⟩
    case round =>
      obtain ⟨k, hk, rfl, hid⟩ := hrel
      by_cases hlt : k < 4
      · have hM1 := HM.out w1 HB1.out
        obtain ⟨eb, eo, hea, t0, _⟩ := hM1.enclave (j := k) (by dsimp only; have := HS4.out; omega)
        dsimp only at hea t0
        subst hea
        have hkl : (k : Int) < 4 := by omega
        obtain ⟨st, HST⟩ : ∃ st, Hid ((ens.getD k default).st = st) := ⟨_, rfl⟩
        rw [HST.out] at t0
        have bl : eb < w1.heap.size := lt_of_cell t0
        obtain ⟨m0, m1, m2, _, _, _, ml⟩ := box_cells HAB.out
        clear hM1
        by_cases c0 : st = 0
        · subst c0
          obtain ⟨e1, e2, e3⟩ := HHit.out k hlt hid.out (by unfold emptyB; rw [HST.out]; rfl)
          subst e1 e2 e3
          have hwm : IntKind.i64.wrap ((k : Int) + 1) = (k : Int) + 1 := by rw [IntKind.wrap_i64]; omega
          clear HHit HFull
          go_upto_region 10 with (first
            | (go_at_call 24; refine (h2 _ HB1.out).mono ?_; rintro x w3 ⟨N, rfl, hS, hO, hb3⟩; obtain ⟨nfa, nfrs, nfcap, nea, nens, necap, nqa, nqus, nqcap⟩ := N; have HSN : Hid (_) := hS; have HON : Hid (_) := hO; have HB3 : Hid (_) := hb3; have eN := hS.en; dsimp only at eN; subst eN; obtain ⟨xb, xo, hxa, t0', t1', t2', t3', t4', t5', t6'⟩ := hO.at_.enclave (j := k) (by dsimp only; have := HS4.out; omega); dsimp only at hxa t0' t1' t2' t3' t4' t5' t6'; subst hxa; have nn := hO.ne xb xo none rfl; have ef := nn.2.2; have ef0 := ef (xo + k * 7); have ef1 := ef (xo + k * 7 + 1); have ef2 := ef (xo + k * 7 + 2); have ef3 := ef (xo + k * 7 + 3); have ef4 := ef (xo + k * 7 + 4); have ef5 := ef (xo + k * 7 + 5); have ef6 := ef (xo + k * 7 + 6); have el : xb < w3.heap.size := nn.2.1; have HEN : Hid (w1.heap.size ≤ xb) := nn.1; have RB3 := ((hb3.block _ (Array.getElem?_eq_some_iff.1 HRB.out).1).trans HRB.out); have HRL : Hid (w.heap.size + 1 < w1.heap.size) := (Array.getElem?_eq_some_iff.1 HRB.out).1; obtain ⟨r0, r1, r2, rf0, rf1, rf2, rl⟩ := box_cells RB3; have hne : xb ≠ w.heap.size + 1 := (by have := HEN.out; have := HRL.out; omega); generalize (nens.getD k default).st = e0 at t0'; generalize (nens.getD k default).log = e1 at t1'; generalize (nens.getD k default).pc = e2 at t2'; generalize (nens.getD k default).g0 = e3 at t3'; generalize (nens.getD k default).g1 = e4 at t4'; generalize (nens.getD k default).g2 = e5 at t5'; generalize (nens.getD k default).g3 = e6 at t6'; rw [HS4.out]; clear nn hS hO hb3 m0 m1 m2 HRB ef; have HRB3 : Hid (_) := RB3; clear RB3 r0 r1 r2 rf0 rf1 rf2 rl; dsimp only)
            | fail)
          have HO7 : Owned w1.heap.size _ _ := HON.out.layEn (k := k) rfl (by dsimp only; have := HS4.out; omega) openE openE_ok
          dsimp only [openE] at HO7
          have HB7 := lay7_below (v0 := .int .i64 1) (v1 := .string ⟨#[111, 112, 101, 110, 59]⟩) (v2 := .int .i64 0) (v3 := .int .i64 0) (v4 := .int .i64 0) (v5 := .int .i64 0) (v6 := .int .i64 0) (a := xo + k * 7) (HB1.out.trans (HB3.out.mono HB1.out.size)) (show w.heap.size ≤ xb by have := HEN.out; have := HRL.out; omega)
          have k7 := lay7_heap (w := w3) (eb := xb) (v0 := .int .i64 1) (v1 := .string ⟨#[111, 112, 101, 110, 59]⟩) (v2 := .int .i64 0) (v3 := .int .i64 0) (v4 := .int .i64 0) (v5 := .int .i64 0) (v6 := .int .i64 0) (a := xo + k * 7) (Ne.symm hne)
          have s7 := lay7_size (w := w3) (eb := xb) (v0 := .int .i64 1) (v1 := .string ⟨#[111, 112, 101, 110, 59]⟩) (v2 := .int .i64 0) (v3 := .int .i64 0) (v4 := .int .i64 0) (v5 := .int .i64 0) (v6 := .int .i64 0) (a := xo + k * 7)
          obtain ⟨W7, hW7⟩ : ∃ W7, W7 = (((((((w3.setCell ⟨xb, xo + k * 7, none⟩ (.int .i64 1)).setCell ⟨xb, xo + k * 7 + 1, none⟩ (.string ⟨#[111, 112, 101, 110, 59]⟩)).setCell ⟨xb, xo + k * 7 + 2, none⟩ (.int .i64 0)).setCell ⟨xb, xo + k * 7 + 3, none⟩ (.int .i64 0)).setCell ⟨xb, xo + k * 7 + 4, none⟩ (.int .i64 0)).setCell ⟨xb, xo + k * 7 + 5, none⟩ (.int .i64 0)).setCell ⟨xb, xo + k * 7 + 6, none⟩ (.int .i64 0)) := ⟨_, rfl⟩
          clear t0' t1' t2' t3' t4' t5' t6' ef0 ef1 ef2 ef3 ef4 ef5 ef6
          rw [← hW7] at HO7 HB7 k7 s7 ⊢
          obtain ⟨W8, hW8⟩ : ∃ W8, W8 = W7.alloc (.cells #[.slice nfa nfrs.length nfcap, .slice (some ⟨xb, xo, none⟩) 4 necap, .slice nqa nqus.length nqcap] 51) := ⟨_, rfl⟩
          have HO8 : Hid (_) := HO7.below (w' := W8) (by rw [hW8]; exact (Below.refl _ _).alloc (Nat.le_refl _) _)
          have HB8 : Hid (Below w.heap.size w W8) := by show Below _ _ _; rw [hW8]; exact HB7.alloc HB7.size _
          have HBX8 : W8.heap[w3.heap.size]? = some (.cells #[.slice nfa nfrs.length nfcap, .slice (some ⟨xb, xo, none⟩) 4 necap, .slice nqa nqus.length nqcap] 51 (0, 0)) := by rw [hW8, ← s7]; exact a11 _ _
          have HR8 : W8.heap[w.heap.size + 1]? = some (.cells #[.slice none 0 0, .slice none 0 0, .slice none 0 0] 51 (0, 0)) := by rw [hW8, Below.heap_alloc _ _ _ (by rw [s7]; have := HRL.out; have := HB3.out.size; omega), k7]; exact HRB3.out
          rw [← hW8]
          obtain ⟨y0, y1, y2, _, _, _, yl⟩ := box_cells HBX8
          obtain ⟨r0, r1, r2, rf0, rf1, rf2, rl⟩ := box_cells HR8
          clear hW7 hW8 HO7 HB7 k7 s7 HBX8 HR8 HRB3 HON HB3 hid HM h2 HAB HB1
          go_wp2
          obtain ⟨k0, k1, k2⟩ := blk3 (v0 := .slice nfa nfrs.length nfcap) (v1 := .slice (some ⟨xb, xo, none⟩) 4 necap) (v2 := .slice nqa nqus.length nqcap) r0 r1 r2
          (try simp only [Exit.inBlock, Exit.then])
          refine bodyPost_ret (by simp [results, Tryd.results26, go_sem, k0, k1, k2]; try rfl) rfl ?_
          exact ⟨⟨nfa, nfrs, nfcap, some ⟨xb, xo, none⟩, nens.set k openE, necap, nqa, nqus, nqcap⟩, by simp [HS4.out], ⟨HSN.out.len, HSN.out.fr, rfl, HSN.out.qu⟩, (HO8.out.keep (fun b hb _ => blk3_heap b (by have := HRL.out; omega)) (by rw [blk3_size]; exact Nat.le_refl _)).mono (by first | exact HB1.out.size | (have := HRL.out; omega) | omega), blk3_below HB8.out (by omega)⟩
        · have c0' : (st == 0) = false := by simpa using c0
          go_wp2
          go_round
          case rel => exact ⟨k + 1, by omega, by go_num, snoc_false hid (by unfold emptyB; rw [HST.out]; exact c0')⟩
          case measure => simp [intOf]; omega
      · have hk4 : k = 4 := by omega
        subst hk4
        obtain ⟨e1, e2, e3⟩ := HFull.out hid.out
        subst e1 e2 e3
        obtain ⟨r0, r1, r2, rf0, rf1, rf2, rl⟩ := box_cells HRB.out
        clear HHit HFull
        go_wp2
        obtain ⟨k0, k1, k2⟩ := blk3 (v0 := .slice none 0 0) (v1 := .slice none 0 0) (v2 := .slice none 0 0) r0 r1 r2
        (try simp only [Exit.inBlock, Exit.then])
        refine bodyPost_ret (by simp [results, Tryd.results26, go_sem, k0, k1, k2]; try rfl) rfl ?_
        exact ⟨noM, rfl, Mv.Same.refl _, noM_own _ _, blk3_below HB1.out (by omega)⟩
  · have hz1 : (machF M != 0) = true := by simpa using hz
    rw [if_neg hz] at hF0
    have RN : RM = noM := by rw [hRM.out]; unfold creM; rw [hF0, if_neg hz]
    have e1 : rf = machF M := by rw [hrf.out, hF0]
    have e2 : rn = 0 := by rw [hrn.out, hN0, hF0, if_neg hz]
    subst RN e2 e1
    unfold Mv.val at h1 h2 ⊢
    obtain ⟨fa, frs, fcap, ea, ens, ecap, qa, qus, qcap⟩ := M
    dsimp only at h1 h2 ⊢
    have B2 : ∀ o1 o2, Hid (Below w.heap.size w ((w.alloc o1).alloc o2)) := fun o1 o2 => a2B _ _ _
    have HX : ∀ o1 o2 w1, Hid (Below ((w.alloc o1).alloc o2).heap.size ((w.alloc o1).alloc o2) w1 → Below w.heap.size w w1) := fun o1 o2 w1 h => (B2 o1 o2).out.trans (h.mono (by simp; omega))
    have CF : Hid (_) := boxes_blk w (.slice fa frs.length fcap) (.slice ea ens.length ecap) (.slice qa qus.length qcap)
    clear hM hF hz hRM hN0 hF0 hrn hrf
    generalize machF _ = z at h1 hz1 ⊢
    go_enter Tryd.func26, Tryd.ntmps26
    go_wp2_with (first
      | (go_at_call 49; refine (h1 _ (B2 _ _).out).mono ?_; rintro x w1 ⟨rfl, hb1⟩; obtain ⟨AB, RB⟩ := CF.out w1 hb1; have HB1 : Hid (Below w.heap.size w w1) := (HX _ _ _).out hb1; obtain ⟨r0, r1, r2, rf0, rf1, rf2, rl⟩ := box_cells RB; clear hb1 CF AB RB)
      | fail)
    obtain ⟨k0, k1, k2⟩ := blk3 (v0 := .slice none 0 0) (v1 := .slice none 0 0) (v2 := .slice none 0 0) r0 r1 r2
    (try simp only [Exit.inBlock, Exit.then])
    refine bodyPost_ret (by simp [results, Tryd.results26, go_sem, k0, k1, k2]; try rfl) rfl ?_
    exact ⟨noM, rfl, Mv.Same.refl _, noM_own _ _, blk3_below HB1.out (by omega)⟩

end Go.Proofs.YtdbbiibnhgcndaaDoor
