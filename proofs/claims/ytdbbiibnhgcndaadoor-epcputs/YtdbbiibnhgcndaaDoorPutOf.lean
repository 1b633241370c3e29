/-
  What the call PutOf (riddleref) answers for every machine, enclave, frame, place and rights: what the document asks, in memory of its own; it turns nothing that was in memory. The conditions: the lists are within the reach of the form.
-/
import Derived.Test.YtdbbiibnhgcndaaDoorPutMath
namespace Go.Proofs.YtdbbiibnhgcndaaDoor
open Go.RowKit

set_option maxRecDepth 100000 in
set_option maxHeartbeats 4000000 in
theorem putOf_any (M : Mv) (e f a r : Int) (w : World) (hM : MachAt w M) (hF : M.Fits) (wa : (Lit.int .i64 a).wf = true) (wr : (Lit.int .i64 r).wf = true) :
    Calls Tryd.prog 29 #[M.val, .int .i64 e, .int .i64 f, .int .i64 a, .int .i64 r] w fun x w' => ∃ N : Mv, x = .returned (.tuple #[N.val, .int .i64 (putF M e f a r)]) ∧ N.Same (putM M e f a r) ∧ Owned w.heap.size w' N ∧ Below w.heap.size w w' := by
  have h1 := fun w' (h : Below w.heap.size w w') => asked_any M e 1 w' (hM.below h)
  have h3 := fun w' (h : Below w.heap.size w w') => putText_any a r w'
  have h4 := fun w' (h : Below w.heap.size w w') => placeOf_any M e a w' (hM.below h)
  have h2 := fun w' (h : Below w.heap.size w w') => mcopy_any M w' (hM.below h) hF
  obtain ⟨RM, hRM⟩ : ∃ RM, Hid (RM = putM M e f a r) := ⟨_, rfl⟩
  obtain ⟨rf, hrf⟩ : ∃ rf, Hid (rf = putF M e f a r) := ⟨_, rfl⟩
  rw [← hRM.out, ← hrf.out]
  have hF0 : putF M e f a r = if askF M e 1 = 0 then (if inB f 0 23 = true then (if (inB a 0 7 && inB r 0 7) = true then (if (M.frs.getD f.toNat default).o = 0 then (if placeOf M.frs e a < 0 then logF M (e - 1).toNat (putS a r) else 6) else 6) else 2) else 2) else askF M e 1 := rfl
  by_cases hz : askF M e 1 = 0
  · rw [if_pos hz] at hF0
    rw [hz] at h1
    cases hf : inB f 0 23 with
    | false =>
      rw [hf, if_neg (by decide)] at hF0
      have e1 : rf = 2 := by rw [hrf.out, hF0]
      have RN : RM = noM := by rw [hRM.out]; exact putM_bad (by rw [hF0]; decide)
      subst RN e1
      clear hRM hrf hF0 hM hF hz h3 h4 h2
      unfold Mv.val at h1 ⊢
      obtain ⟨fa, frs, fcap, ea, ens, ecap, qa, qus, qcap⟩ := M
      dsimp only at *
      have B2 : ∀ o1 o2, Hid (Below w.heap.size w ((w.alloc o1).alloc o2)) := fun o1 o2 => a2B _ _ _
      have HX : ∀ o1 o2 w1, Hid (Below ((w.alloc o1).alloc o2).heap.size ((w.alloc o1).alloc o2) w1 → Below w.heap.size w w1) := fun o1 o2 w1 h => (B2 o1 o2).out.trans (h.mono (by simp; omega))
      have CF : Hid (_) := boxes_blk w (.slice fa frs.length fcap) (.slice ea ens.length ecap) (.slice qa qus.length qcap)
      go_enter Tryd.func29, Tryd.ntmps29
      go_wp2_with (first
        | (go_at_call 55; refine (h1 _ (B2 _ _).out).mono ?_; rintro x w1 ⟨rfl, hb1⟩; obtain ⟨AB, RB⟩ := CF.out w1 hb1; have HAB1 : Hid (_) := AB; have HRB1 : Hid (_) := RB; have HB1 : Hid (Below w.heap.size w w1) := (HX _ _ _).out hb1; obtain ⟨m0, m1, m2, _, _, _, ml⟩ := box_cells AB; clear hb1 CF AB RB; obtain ⟨r0, r1, r2, rf0, rf1, rf2, rl⟩ := box_cells HRB1.out)
        | (go_at_call 35; refine (in_any _ _ _ _).mono ?_; rintro x w0 ⟨rfl, rfl⟩)
        | fail)
      obtain ⟨k0, k1, k2⟩ := blk3 (v0 := .slice none 0 0) (v1 := .slice none 0 0) (v2 := .slice none 0 0) r0 r1 r2
      (try simp only [Exit.inBlock, Exit.then])
      refine bodyPost_ret (by simp [results, Tryd.results29, go_sem, k0, k1, k2]; try rfl) rfl ?_
      exact ⟨noM, rfl, Mv.Same.refl _, noM_own _ _, blk3_below HB1.out (by omega)⟩
    | true =>
      rw [hf, if_pos rfl] at hF0
      cases ha : (inB a 0 7 && inB r 0 7) with
      | false =>
        rw [ha, if_neg (by decide)] at hF0
        simp only [ha, Bool.false_eq_true, if_false] at h3
        have e1 : rf = 2 := by rw [hrf.out, hF0]
        have RN : RM = noM := by rw [hRM.out]; exact putM_bad (by rw [hF0]; decide)
        subst RN e1
        clear hRM hrf hF0 hM hF hz h4 h2
        unfold Mv.val at h1 ⊢
        obtain ⟨fa, frs, fcap, ea, ens, ecap, qa, qus, qcap⟩ := M
        dsimp only at *
        have B2 : ∀ o1 o2, Hid (Below w.heap.size w ((w.alloc o1).alloc o2)) := fun o1 o2 => a2B _ _ _
        have HX : ∀ o1 o2 w1, Hid (Below ((w.alloc o1).alloc o2).heap.size ((w.alloc o1).alloc o2) w1 → Below w.heap.size w w1) := fun o1 o2 w1 h => (B2 o1 o2).out.trans (h.mono (by simp; omega))
        have CF : Hid (_) := boxes_blk w (.slice fa frs.length fcap) (.slice ea ens.length ecap) (.slice qa qus.length qcap)
        go_enter Tryd.func29, Tryd.ntmps29
        go_wp2_with (first
          | (go_at_call 55; refine (h1 _ (B2 _ _).out).mono ?_; rintro x w1 ⟨rfl, hb1⟩; obtain ⟨AB, RB⟩ := CF.out w1 hb1; have HAB1 : Hid (_) := AB; have HRB1 : Hid (_) := RB; have HB1 : Hid (Below w.heap.size w w1) := (HX _ _ _).out hb1; obtain ⟨m0, m1, m2, _, _, _, ml⟩ := box_cells AB; clear hb1 CF AB RB)
          | (go_at_call 35; refine (in_any _ _ _ _).mono ?_; rintro x w0 ⟨rfl, rfl⟩)
          | (go_at_call 14; refine (h3 _ HB1.out).mono ?_; rintro x w2 ⟨rfl, hb2⟩; have HAB2 : Hid (_) := ((hb2.block _ (Array.getElem?_eq_some_iff.1 HAB1.out).1).trans HAB1.out); have HRB2 : Hid (_) := ((hb2.block _ (Array.getElem?_eq_some_iff.1 HRB1.out).1).trans HRB1.out); have HB2 : Hid (Below w.heap.size w w2) := HB1.out.trans (hb2.mono HB1.out.size); clear m0 m1 m2 ml; obtain ⟨m0, m1, m2, _, _, _, ml⟩ := box_cells HAB2.out; clear hb2 HAB1 HRB1; obtain ⟨r0, r1, r2, rf0, rf1, rf2, rl⟩ := box_cells HRB2.out)
          | fail)
        obtain ⟨k0, k1, k2⟩ := blk3 (v0 := .slice none 0 0) (v1 := .slice none 0 0) (v2 := .slice none 0 0) r0 r1 r2
        (try simp only [Exit.inBlock, Exit.then])
        refine bodyPost_ret (by simp [results, Tryd.results29, go_sem, k0, k1, k2]; try rfl) rfl ?_
        exact ⟨noM, rfl, Mv.Same.refl _, noM_own _ _, blk3_below HB2.out (by omega)⟩
      | true =>
        rw [ha, if_pos rfl] at hF0
        simp only [ha, if_true] at h3
        obtain ⟨s, HS⟩ : ∃ s, Hid (putS a r = s) := ⟨_, rfl⟩
        have hss : s.size ≤ 1000000 := by have := putS_size a r wa wr; rw [HS.out] at this; omega
        rw [HS.out] at h3 hF0
        obtain ⟨hz0, m, rfl, hm4, _, _⟩ := askF_zero hz
        have hfi := inB_iff.1 hf
        obtain ⟨j, rfl⟩ : ∃ j : Nat, f = (j : Int) := ⟨f.toNat, by omega⟩
        have hj : j < 24 := by omega
        have hji : (j : Int) < 24 := by omega
        simp only [Int.toNat_natCast, show ((m : Int) + 1 - 1).toNat = m by omega] at hF0
        have HS24 : Hid (M.frs.length = 24) := (machF_sizes hz0).1
        have HS4 : Hid (M.ens.length = 4) := (machF_sizes hz0).2.1
        obtain ⟨fb, fo, hfa, hfr⟩ := fr_at hM (j := j) (by have := HS24.out; omega)
        obtain ⟨ow, HOW⟩ : ∃ ow, Hid ((M.frs.getD j default).o = ow) := ⟨_, rfl⟩
        have hown := fun w1 (h : Below w.heap.size w w1) => (hfr w1 h).1
        rw [HOW.out] at hF0 hown
        clear hfr
        by_cases ho : ow = 0
        · subst ho
          rw [if_pos rfl] at hF0
          obtain ⟨pl, hpl⟩ : ∃ pl, Hid (placeOf M.frs ((m : Int) + 1) a = pl) := ⟨_, rfl⟩
          rw [hpl.out] at hF0 h4
          by_cases hp : pl < 0
          · rw [if_pos hp] at hF0
            obtain ⟨eb, eo, hea, hl1, hlg⟩ := lg_at hM hz0 hm4
            have hwm : IntKind.i64.wrap ((m : Int) + 1 - 1) = (m : Int) := by rw [IntKind.wrap_i64]; omega
            have hm4i : (m : Int) < 4 := by omega
            have hE : logF M m s = if (M.ens.getD m default).log.size + s.size > 1000 then 7 else 0 := rfl
            have hRI : putF M ((m : Int) + 1) (j : Int) a r = 0 → putM M ((m : Int) + 1) (j : Int) a r = { M with frs := M.frs.set j (putFr M j ((m : Int) + 1) a r), ens := M.ens.set m ((M.ens.getD m default).withLog s) } := fun h => by
              unfold putM; rw [h, if_pos rfl, HS.out, show ((m : Int) + 1 - 1).toNat = m by omega, Int.toNat_natCast]
            obtain ⟨E, hEE⟩ : ∃ E, Hid (M.ens.getD m default = E) := ⟨_, rfl⟩
            rw [hEE.out] at hl1 hlg hE hRI
            obtain ⟨lg, HLG⟩ : ∃ lg, Hid (E.log = lg) := ⟨_, rfl⟩
            rw [HLG.out] at hl1 hlg hE
            have hw : IntKind.i64.wrap ((lg.size : Int) + (s.size : Int)) = (lg.size : Int) + (s.size : Int) := by rw [IntKind.wrap_i64]; omega
            by_cases hc : lg.size + s.size > 1000
            · rw [if_pos hc] at hE
              rw [hE] at hF0
              have hc' : (1000 : Int) < (lg.size : Int) + (s.size : Int) := by omega
              have e1 : rf = 7 := by rw [hrf.out, hF0]
              have RN : RM = noM := by rw [hRM.out]; exact putM_bad (by rw [hF0]; decide)
              subst RN e1
              clear hRM hrf hF0 hM hF hz hz0 hfi hss hE hRI hl1 h2 hc
              unfold Mv.val at h1 h4 ⊢
              obtain ⟨fa, frs, fcap, ea, ens, ecap, qa, qus, qcap⟩ := M
              dsimp only at *
              have B2 : ∀ o1 o2, Hid (Below w.heap.size w ((w.alloc o1).alloc o2)) := fun o1 o2 => a2B _ _ _
              have HX : ∀ o1 o2 w1, Hid (Below ((w.alloc o1).alloc o2).heap.size ((w.alloc o1).alloc o2) w1 → Below w.heap.size w w1) := fun o1 o2 w1 h => (B2 o1 o2).out.trans (h.mono (by simp; omega))
              have CF : Hid (_) := boxes_blk w (.slice fa frs.length fcap) (.slice ea ens.length ecap) (.slice qa qus.length qcap)
              subst hfa hea
              rw [HS24.out, HS4.out] at h1 h4 CF ⊢
              go_enter Tryd.func29, Tryd.ntmps29
              go_wp2_with (first
                | (go_at_call 55; refine (h1 _ (B2 _ _).out).mono ?_; rintro x w1 ⟨rfl, hb1⟩; obtain ⟨AB, RB⟩ := CF.out w1 hb1; have HAB1 : Hid (_) := AB; have HRB1 : Hid (_) := RB; have HB1 : Hid (Below w.heap.size w w1) := (HX _ _ _).out hb1; obtain ⟨m0, m1, m2, _, _, _, ml⟩ := box_cells AB; clear hb1 CF AB RB)
                | (go_at_call 35; refine (in_any _ _ _ _).mono ?_; rintro x w0 ⟨rfl, rfl⟩)
                | (go_at_call 14; refine (h3 _ HB1.out).mono ?_; rintro x w2 ⟨rfl, hb2⟩; have HAB2 : Hid (_) := ((hb2.block _ (Array.getElem?_eq_some_iff.1 HAB1.out).1).trans HAB1.out); have HRB2 : Hid (_) := ((hb2.block _ (Array.getElem?_eq_some_iff.1 HRB1.out).1).trans HRB1.out); have HB2 : Hid (Below w.heap.size w w2) := HB1.out.trans (hb2.mono HB1.out.size); clear m0 m1 m2 ml; obtain ⟨m0, m1, m2, _, _, _, ml⟩ := box_cells HAB2.out; clear hb2 HAB1 HRB1; have t0 := hown _ HB2.out)
                | (go_at_call 56; refine (h4 _ HB2.out).mono ?_; rintro x w3 ⟨rfl, hb3⟩; have HAB3 : Hid (_) := ((hb3.block _ (Array.getElem?_eq_some_iff.1 HAB2.out).1).trans HAB2.out); have HRB3 : Hid (_) := ((hb3.block _ (Array.getElem?_eq_some_iff.1 HRB2.out).1).trans HRB2.out); have HB3 : Hid (Below w.heap.size w w3) := HB2.out.trans (hb3.mono HB2.out.size); clear m0 m1 m2 ml; obtain ⟨m0, m1, m2, _, _, _, ml⟩ := box_cells HAB3.out; clear hb3 HAB2 HRB2; obtain ⟨r0, r1, r2, rf0, rf1, rf2, rl⟩ := box_cells HRB3.out; have l0 := hlg _ HB3.out)
                | fail)
              obtain ⟨k0, k1, k2⟩ := blk3 (v0 := .slice none 0 0) (v1 := .slice none 0 0) (v2 := .slice none 0 0) r0 r1 r2
              (try simp only [Exit.inBlock, Exit.then])
              refine bodyPost_ret (by simp [results, Tryd.results29, go_sem, k0, k1, k2]; try rfl) rfl ?_
              exact ⟨noM, rfl, Mv.Same.refl _, noM_own _ _, blk3_below HB3.out (by omega)⟩
            · rw [if_neg hc] at hE
              rw [hE] at hF0
              have hc' : ¬ ((1000 : Int) < (lg.size : Int) + (s.size : Int)) := by omega
              have e1 : rf = 0 := by rw [hrf.out, hF0]
              have RN : Hid (RM = _) := hRM.out.trans (hRI hF0)
              have wwm : (Lit.int .i64 ((m : Int) + 1)).wf = true := wf_of (by omega)
              have HW : Hid (_) := And.intro wwm (And.intro wa wr)
              have HSS : Hid (_) := And.intro hss hl1
              subst e1
              clear hRM hrf hF0 hM hF hz hz0 hfi hss hE hRI hl1 hc wa wr wwm
              unfold Mv.val at h1 h4 h2 ⊢
              obtain ⟨fa, frs, fcap, ea, ens, ecap, qa, qus, qcap⟩ := M
              dsimp only at *
              have B2 : ∀ o1 o2, Hid (Below w.heap.size w ((w.alloc o1).alloc o2)) := fun o1 o2 => a2B _ _ _
              have HX : ∀ o1 o2 w1, Hid (Below ((w.alloc o1).alloc o2).heap.size ((w.alloc o1).alloc o2) w1 → Below w.heap.size w w1) := fun o1 o2 w1 h => (B2 o1 o2).out.trans (h.mono (by simp; omega))
              have CF : Hid (_) := boxes_blk w (.slice fa frs.length fcap) (.slice ea ens.length ecap) (.slice qa qus.length qcap)
              subst hfa hea
              rw [HS24.out, HS4.out] at h1 h4 h2 CF ⊢
              go_enter Tryd.func29, Tryd.ntmps29
              go_upto_region 17 with (first
                | (go_at_call 55; refine (h1 _ (B2 _ _).out).mono ?_; rintro x w1 ⟨rfl, hb1⟩; obtain ⟨AB, RB⟩ := CF.out w1 hb1; have HAB1 : Hid (_) := AB; have HRB1 : Hid (_) := RB; have HB1 : Hid (Below w.heap.size w w1) := (HX _ _ _).out hb1; obtain ⟨m0, m1, m2, _, _, _, ml⟩ := box_cells AB; clear hb1 CF AB RB)
                | (go_at_call 35; refine (in_any _ _ _ _).mono ?_; rintro x w0 ⟨rfl, rfl⟩)
                | (go_at_call 14; refine (h3 _ HB1.out).mono ?_; rintro x w2 ⟨rfl, hb2⟩; have HAB2 : Hid (_) := ((hb2.block _ (Array.getElem?_eq_some_iff.1 HAB1.out).1).trans HAB1.out); have HRB2 : Hid (_) := ((hb2.block _ (Array.getElem?_eq_some_iff.1 HRB1.out).1).trans HRB1.out); have HB2 : Hid (Below w.heap.size w w2) := HB1.out.trans (hb2.mono HB1.out.size); clear m0 m1 m2 ml; obtain ⟨m0, m1, m2, _, _, _, ml⟩ := box_cells HAB2.out; clear hb2 HAB1 HRB1; have t0 := hown _ HB2.out)
                | (go_at_call 56; refine (h4 _ HB2.out).mono ?_; rintro x w3 ⟨rfl, hb3⟩; have HAB3 : Hid (_) := ((hb3.block _ (Array.getElem?_eq_some_iff.1 HAB2.out).1).trans HAB2.out); have HRB3 : Hid (_) := ((hb3.block _ (Array.getElem?_eq_some_iff.1 HRB2.out).1).trans HRB2.out); have HB3 : Hid (Below w.heap.size w w3) := HB2.out.trans (hb3.mono HB2.out.size); clear m0 m1 m2 ml; obtain ⟨m0, m1, m2, _, _, _, ml⟩ := box_cells HAB3.out; clear hb3 HAB2 HRB2; have l0 := hlg _ HB3.out)
                | (go_at_call 24; refine (h2 _ HB3.out).mono ?_; rintro x w4 ⟨N, rfl, hS, hO, hb4⟩; obtain ⟨nfa, nfrs, nfcap, nea, nens, necap, nqa, nqus, nqcap⟩ := N; have HSN : Hid (_) := hS; have HON : Hid (_) := hO; have HB34 : Hid (_) := hb4; have HRL : Hid (w.heap.size + 1 < w3.heap.size) := (Array.getElem?_eq_some_iff.1 HRB3.out).1; have HRB4 : Hid (_) := ((hb4.block _ HRL.out).trans HRB3.out); have HB4 : Hid (Below w.heap.size w w4) := HB3.out.trans (hb4.mono HB3.out.size); have H24 : Hid (nfrs.length = 24) := (by have := hS.len; exact this.trans HS24.out); have eN := hS.en; dsimp only at eN; subst eN; obtain ⟨nb, no, hnfa, t0', t1', t2', _⟩ := hO.at_.frame (j := j) (by dsimp only; have := H24.out; omega); dsimp only at hnfa t0' t1' t2'; subst hnfa; have nn := hO.nf nb no none rfl; have f0 : w4.frozen? ⟨nb, no + j * 4, none⟩ = false := nn.2.2 _; have f1 : w4.frozen? ⟨nb, no + j * 4 + 1, none⟩ = false := nn.2.2 _; have f2 : w4.frozen? ⟨nb, no + j * 4 + 2, none⟩ = false := nn.2.2 _; have fl : nb < w4.heap.size := nn.2.1; have HNB : Hid (w3.heap.size ≤ nb ∧ nb < w4.heap.size) := ⟨nn.1, nn.2.1⟩; generalize (nfrs.getD j default).o = u0 at t0'; generalize (nfrs.getD j default).at_ = u1 at t1'; generalize (nfrs.getD j default).r = u2 at t2'; rw [H24.out, HS4.out]; clear hS hO hb4 nn m0 m1 m2 ml HAB3 HRB3 l0 t0; dsimp only)
                | fail)
              clear t0' t1' t2' f0 f1 f2 fl
              obtain ⟨W6, hW6⟩ : ∃ W6, Hid (W6 = (((w4.setCell ⟨nb, no + j * 4, none⟩ (.int .i64 ((m : Int) + 1))).setCell ⟨nb, no + j * 4 + 1, none⟩ (.int .i64 a)).setCell ⟨nb, no + j * 4 + 2, none⟩ (.int .i64 r)).alloc (.cells #[.slice (some ⟨nb, no, none⟩) 24 nfcap, .slice nea 4 necap, .slice nqa nqus.length nqcap] 51)) := ⟨_, rfl⟩
              rw [← hW6.out]
              have HO5 := HON.out.put3 (k := j) rfl (by dsimp only; have := H24.out; omega) HW.out.1 HW.out.2.1 HW.out.2.2
              dsimp only at HO5
              have HB5 := put3_below (v0 := .int .i64 ((m : Int) + 1)) (v1 := .int .i64 a) (v2 := .int .i64 r) (a := no + j * 4) HB4.out (show w.heap.size ≤ nb by have := HNB.out; have := HRL.out; omega)
              have k5 := fun b (hb : b ≠ nb) => put3_heap (w := w4) (fb := nb) (v0 := .int .i64 ((m : Int) + 1)) (v1 := .int .i64 a) (v2 := .int .i64 r) (a := no + j * 4) hb
              have s5 := put3_size (w := w4) (fb := nb) (v0 := .int .i64 ((m : Int) + 1)) (v1 := .int .i64 a) (v2 := .int .i64 r) (a := no + j * 4)
              obtain ⟨W5, hW5⟩ : ∃ W5, Hid (W5 = ((w4.setCell ⟨nb, no + j * 4, none⟩ (.int .i64 ((m : Int) + 1))).setCell ⟨nb, no + j * 4 + 1, none⟩ (.int .i64 a)).setCell ⟨nb, no + j * 4 + 2, none⟩ (.int .i64 r)) := ⟨_, rfl⟩
              rw [← hW5.out] at HO5 HB5 k5 s5 hW6
              have HR5 := (k5 (w.heap.size + 1) (by have := HNB.out; have := HRL.out; omega)).trans HRB4.out
              have HBX6 : Hid (W6.heap[w4.heap.size]? = some (.cells #[.slice (some ⟨nb, no, none⟩) 24 nfcap, .slice nea 4 necap, .slice nqa nqus.length nqcap] 51 (0, 0))) := by show _ = _; rw [hW6.out, ← s5]; exact a11 _ _
              have HR6 : Hid (W6.heap[w.heap.size + 1]? = some (.cells #[.slice none 0 0, .slice none 0 0, .slice none 0 0] 51 (0, 0))) := by show _ = _; rw [hW6.out, Below.heap_alloc _ _ _ (by rw [s5]; have := HRL.out; have := HB34.out.size; omega)]; exact HR5
              have HB6 : Hid (Below w.heap.size w W6) := by show Below _ _ _; rw [hW6.out]; exact HB5.alloc HB5.size _
              have HO6 : Hid (Owned w3.heap.size W6 _) := HO5.below (w' := W6) (by rw [hW6.out]; exact (Below.refl _ _).alloc (Nat.le_refl _) _)
              obtain ⟨y0, y1, y2, _, _, _, yl⟩ := box_cells HBX6.out
              obtain ⟨xb, xo, hxa, _, t1, _⟩ := HO6.out.at_.enclave (j := m) (by dsimp only; have := HS4.out; omega)
              dsimp only at hxa t1
              subst hxa
              rw [hEE.out, HLG.out] at t1
              have nn := HO6.out.ne xb xo none rfl
              have ef1 : W6.frozen? ⟨xb, xo + m * 7 + 1, none⟩ = false := nn.2.2 _
              have el : xb < W6.heap.size := nn.2.1
              have HXB : Hid (w3.heap.size ≤ xb ∧ xb < w4.heap.size) := ⟨nn.1, (HON.out.ne xb xo none rfl).2.1⟩
              have hok := HO6.out.at_.enok m (by dsimp only; have := HS4.out; omega)
              dsimp only at hok
              rw [hEE.out] at hok
              have HOK : Hid (_) := hok
              clear nn hok hW5 hW6 HO5 HB5 k5 s5 HR5 HRB4 HON h1 h2 h3 h4 hown hlg HX B2
              go_big_region
              have HO7 := HO6.out.setEn (k := m) (i0 := 1) (e' := E.withLog s) (v := .string (lg ++ s)) rfl (by dsimp only; have := HS4.out; omega) (by omega) ⟨HOK.out.wst, by show (E.log ++ s).size ≤ maxLen; rw [HLG.out, ByteArray.size_append]; unfold maxLen; have := HSS.out; omega, HOK.out.wpc, HOK.out.w0, HOK.out.w1, HOK.out.w2, HOK.out.w3⟩ (fun i hi => by
                dsimp only
                rw [hEE.out, ← HLG.out]
                match i, hi with
                | 0, _ => rfl
                | 1, _ => rfl
                | 2, _ => rfl
                | 3, _ => rfl
                | 4, _ => rfl
                | 5, _ => rfl
                | 6, _ => rfl)
              dsimp only at HO7
              have HB7 : Below w.heap.size w (W6.setCell ⟨xb, xo + m * 7 + 1, none⟩ (.string (lg ++ s))) := HB6.out.setCell (by have := HXB.out; have := HRL.out; dsimp only; omega) _
              have k7 := fun b (hb : b ≠ xb) => Below.heap_setCell W6 ⟨xb, xo + m * 7 + 1, none⟩ (.string (lg ++ s)) b hb
              obtain ⟨W7, hW7⟩ : ∃ W7, Hid (W7 = (W6.setCell ⟨xb, xo + m * 7 + 1, none⟩ (.string (lg ++ s))).drew) := ⟨_, rfl⟩
              rw [← hW7.out]
              have HO8 : Hid (Owned w3.heap.size W7 _) := HO7.keep (w' := W7) (fun b _ _ => by rw [hW7.out]; rfl) (by rw [hW7.out]; exact Nat.le_refl _)
              have HB8 : Hid (Below w.heap.size w W7) := by show Below _ _ _; rw [hW7.out]; exact HB7.drew
              have HBX8 : W7.heap[w4.heap.size]? = some (.cells #[.slice (some ⟨nb, no, none⟩) 24 nfcap, .slice (some ⟨xb, xo, none⟩) 4 necap, .slice nqa nqus.length nqcap] 51 (0, 0)) := by rw [hW7.out]; exact (k7 w4.heap.size (by have := HXB.out; omega)).trans HBX6.out
              have HR8 : W7.heap[w.heap.size + 1]? = some (.cells #[.slice none 0 0, .slice none 0 0, .slice none 0 0] 51 (0, 0)) := by rw [hW7.out]; exact (k7 (w.heap.size + 1) (by have := HXB.out; have := HRL.out; omega)).trans HR6.out
              clear y0 y1 y2 yl t1 ef1 el
              obtain ⟨y0, y1, y2, _, _, _, yl⟩ := box_cells HBX8
              obtain ⟨r0, r1, r2, rf0, rf1, rf2, rl⟩ := box_cells HR8
              clear hW7 k7 HBX8 HR8 HO7 HB7 HBX6 HR6 HO6
              go_wp2
              obtain ⟨k0, k1, k2⟩ := blk3 (v0 := .slice (some ⟨nb, no, none⟩) 24 nfcap) (v1 := .slice (some ⟨xb, xo, none⟩) 4 necap) (v2 := .slice nqa nqus.length nqcap) r0 r1 r2
              (try simp only [Exit.inBlock, Exit.then])
              refine bodyPost_ret (by simp [results, Tryd.results29, go_sem, k0, k1, k2]; try rfl) rfl ?_
              refine ⟨⟨some ⟨nb, no, none⟩, nfrs.set j { nfrs.getD j default with o := (m : Int) + 1, at_ := a, r := r }, nfcap, some ⟨xb, xo, none⟩, nens.set m (E.withLog s), necap, nqa, nqus, nqcap⟩, by simp [H24.out, HS4.out], ?_, (HO8.out.keep (fun b hb _ => blk3_heap b (by have := HRL.out; omega)) (by rw [blk3_size]; exact Nat.le_refl _)).mono HB3.out.size, blk3_below HB8.out (by omega)⟩
              have := set_same HSN.out j { nfrs.getD j default with o := (m : Int) + 1, at_ := a, r := r } (putFr ⟨some ⟨fb, fo, none⟩, frs, fcap, some ⟨eb, eo, none⟩, nens, ecap, qa, qus, qcap⟩ j ((m : Int) + 1) a r) (fun _ => ⟨rfl, rfl, rfl, ws_same HSN.out j⟩)
              rw [RN.out]
              exact ⟨this.len, this.fr, rfl, this.qu⟩
          · rw [if_neg hp] at hF0
            have hp' : 0 ≤ pl := by omega
            have e1 : rf = 6 := by rw [hrf.out, hF0]
            have RN : RM = noM := by rw [hRM.out]; exact putM_bad (by rw [hF0]; decide)
            subst RN e1
            clear hRM hrf hF0 hM hF hz hz0 hp hfi hss h2
            unfold Mv.val at h1 h4 ⊢
            obtain ⟨fa, frs, fcap, ea, ens, ecap, qa, qus, qcap⟩ := M
            dsimp only at *
            have B2 : ∀ o1 o2, Hid (Below w.heap.size w ((w.alloc o1).alloc o2)) := fun o1 o2 => a2B _ _ _
            have HX : ∀ o1 o2 w1, Hid (Below ((w.alloc o1).alloc o2).heap.size ((w.alloc o1).alloc o2) w1 → Below w.heap.size w w1) := fun o1 o2 w1 h => (B2 o1 o2).out.trans (h.mono (by simp; omega))
            have CF : Hid (_) := boxes_blk w (.slice fa frs.length fcap) (.slice ea ens.length ecap) (.slice qa qus.length qcap)
            subst hfa
            rw [HS24.out] at h1 h4 CF ⊢
            go_enter Tryd.func29, Tryd.ntmps29
            go_wp2_with (first
              | (go_at_call 55; refine (h1 _ (B2 _ _).out).mono ?_; rintro x w1 ⟨rfl, hb1⟩; obtain ⟨AB, RB⟩ := CF.out w1 hb1; have HAB1 : Hid (_) := AB; have HRB1 : Hid (_) := RB; have HB1 : Hid (Below w.heap.size w w1) := (HX _ _ _).out hb1; obtain ⟨m0, m1, m2, _, _, _, ml⟩ := box_cells AB; clear hb1 CF AB RB)
              | (go_at_call 35; refine (in_any _ _ _ _).mono ?_; rintro x w0 ⟨rfl, rfl⟩)
              | (go_at_call 14; refine (h3 _ HB1.out).mono ?_; rintro x w2 ⟨rfl, hb2⟩; have HAB2 : Hid (_) := ((hb2.block _ (Array.getElem?_eq_some_iff.1 HAB1.out).1).trans HAB1.out); have HRB2 : Hid (_) := ((hb2.block _ (Array.getElem?_eq_some_iff.1 HRB1.out).1).trans HRB1.out); have HB2 : Hid (Below w.heap.size w w2) := HB1.out.trans (hb2.mono HB1.out.size); clear m0 m1 m2 ml; obtain ⟨m0, m1, m2, _, _, _, ml⟩ := box_cells HAB2.out; clear hb2 HAB1 HRB1; have t0 := hown _ HB2.out)
              | (go_at_call 56; refine (h4 _ HB2.out).mono ?_; rintro x w3 ⟨rfl, hb3⟩; have HAB3 : Hid (_) := ((hb3.block _ (Array.getElem?_eq_some_iff.1 HAB2.out).1).trans HAB2.out); have HRB3 : Hid (_) := ((hb3.block _ (Array.getElem?_eq_some_iff.1 HRB2.out).1).trans HRB2.out); have HB3 : Hid (Below w.heap.size w w3) := HB2.out.trans (hb3.mono HB2.out.size); clear m0 m1 m2 ml; obtain ⟨m0, m1, m2, _, _, _, ml⟩ := box_cells HAB3.out; clear hb3 HAB2 HRB2; obtain ⟨r0, r1, r2, rf0, rf1, rf2, rl⟩ := box_cells HRB3.out)
              | fail)
            obtain ⟨k0, k1, k2⟩ := blk3 (v0 := .slice none 0 0) (v1 := .slice none 0 0) (v2 := .slice none 0 0) r0 r1 r2
            (try simp only [Exit.inBlock, Exit.then])
            refine bodyPost_ret (by simp [results, Tryd.results29, go_sem, k0, k1, k2]; try rfl) rfl ?_
            exact ⟨noM, rfl, Mv.Same.refl _, noM_own _ _, blk3_below HB3.out (by omega)⟩
        · rw [if_neg ho] at hF0
          have ho' : (ow != 0) = true := by simpa using ho
          have e1 : rf = 6 := by rw [hrf.out, hF0]
          have RN : RM = noM := by rw [hRM.out]; exact putM_bad (by rw [hF0]; decide)
          subst RN e1
          clear hRM hrf hF0 hM hF hz hz0 h4 hfi hss ho h2
          unfold Mv.val at h1 ⊢
          obtain ⟨fa, frs, fcap, ea, ens, ecap, qa, qus, qcap⟩ := M
          dsimp only at *
          have B2 : ∀ o1 o2, Hid (Below w.heap.size w ((w.alloc o1).alloc o2)) := fun o1 o2 => a2B _ _ _
          have HX : ∀ o1 o2 w1, Hid (Below ((w.alloc o1).alloc o2).heap.size ((w.alloc o1).alloc o2) w1 → Below w.heap.size w w1) := fun o1 o2 w1 h => (B2 o1 o2).out.trans (h.mono (by simp; omega))
          have CF : Hid (_) := boxes_blk w (.slice fa frs.length fcap) (.slice ea ens.length ecap) (.slice qa qus.length qcap)
          subst hfa
          rw [HS24.out] at h1 CF ⊢
          go_enter Tryd.func29, Tryd.ntmps29
          go_wp2_with (first
            | (go_at_call 55; refine (h1 _ (B2 _ _).out).mono ?_; rintro x w1 ⟨rfl, hb1⟩; obtain ⟨AB, RB⟩ := CF.out w1 hb1; have HAB1 : Hid (_) := AB; have HRB1 : Hid (_) := RB; have HB1 : Hid (Below w.heap.size w w1) := (HX _ _ _).out hb1; obtain ⟨m0, m1, m2, _, _, _, ml⟩ := box_cells AB; clear hb1 CF AB RB)
            | (go_at_call 35; refine (in_any _ _ _ _).mono ?_; rintro x w0 ⟨rfl, rfl⟩)
            | (go_at_call 14; refine (h3 _ HB1.out).mono ?_; rintro x w2 ⟨rfl, hb2⟩; have HAB2 : Hid (_) := ((hb2.block _ (Array.getElem?_eq_some_iff.1 HAB1.out).1).trans HAB1.out); have HRB2 : Hid (_) := ((hb2.block _ (Array.getElem?_eq_some_iff.1 HRB1.out).1).trans HRB1.out); have HB2 : Hid (Below w.heap.size w w2) := HB1.out.trans (hb2.mono HB1.out.size); clear m0 m1 m2 ml; obtain ⟨m0, m1, m2, _, _, _, ml⟩ := box_cells HAB2.out; clear hb2 HAB1 HRB1; obtain ⟨r0, r1, r2, rf0, rf1, rf2, rl⟩ := box_cells HRB2.out; have t0 := hown _ HB2.out)
            | fail)
          obtain ⟨k0, k1, k2⟩ := blk3 (v0 := .slice none 0 0) (v1 := .slice none 0 0) (v2 := .slice none 0 0) r0 r1 r2
          (try simp only [Exit.inBlock, Exit.then])
          refine bodyPost_ret (by simp [results, Tryd.results29, go_sem, k0, k1, k2]; try rfl) rfl ?_
          exact ⟨noM, rfl, Mv.Same.refl _, noM_own _ _, blk3_below HB2.out (by omega)⟩
  · have hz1 : (askF M e 1 != 0) = true := by simpa using hz
    have hz2 : (askF M e 1 == 0) = false := by simpa using hz
    have e1 : rf = askF M e 1 := by rw [hrf.out, hF0, if_neg hz]
    have RN : RM = noM := by rw [hRM.out]; exact putM_bad (by rw [hF0, if_neg hz]; exact hz)
    subst RN e1
    clear hRM hrf hF0 hM hF h3 h4 hz h2
    generalize askF M e 1 = z at h1 hz1 hz2 ⊢
    unfold Mv.val at h1 ⊢
    obtain ⟨fa, frs, fcap, ea, ens, ecap, qa, qus, qcap⟩ := M
    dsimp only at *
    have B2 : ∀ o1 o2, Hid (Below w.heap.size w ((w.alloc o1).alloc o2)) := fun o1 o2 => a2B _ _ _
    have HX : ∀ o1 o2 w1, Hid (Below ((w.alloc o1).alloc o2).heap.size ((w.alloc o1).alloc o2) w1 → Below w.heap.size w w1) := fun o1 o2 w1 h => (B2 o1 o2).out.trans (h.mono (by simp; omega))
    have CF : Hid (_) := boxes_blk w (.slice fa frs.length fcap) (.slice ea ens.length ecap) (.slice qa qus.length qcap)
    go_enter Tryd.func29, Tryd.ntmps29
    go_wp2_with (first
      | (go_at_call 55; refine (h1 _ (B2 _ _).out).mono ?_; rintro x w1 ⟨rfl, hb1⟩; obtain ⟨AB, RB⟩ := CF.out w1 hb1; have HAB1 : Hid (_) := AB; have HRB1 : Hid (_) := RB; have HB1 : Hid (Below w.heap.size w w1) := (HX _ _ _).out hb1; obtain ⟨m0, m1, m2, _, _, _, ml⟩ := box_cells AB; clear hb1 CF AB RB; obtain ⟨r0, r1, r2, rf0, rf1, rf2, rl⟩ := box_cells HRB1.out)
      | fail)
    obtain ⟨k0, k1, k2⟩ := blk3 (v0 := .slice none 0 0) (v1 := .slice none 0 0) (v2 := .slice none 0 0) r0 r1 r2
    (try simp only [Exit.inBlock, Exit.then])
    refine bodyPost_ret (by simp [results, Tryd.results29, go_sem, k0, k1, k2]; try rfl) rfl ?_
    exact ⟨noM, rfl, Mv.Same.refl _, noM_own _ _, blk3_below HB1.out (by omega)⟩

end Go.Proofs.YtdbbiibnhgcndaaDoor
