/-
  What the call Put (epc) answers for every machine, enclave, frame, place and rights: what the document asks, in memory of its own; it turns nothing that was in memory. The conditions: the lists are within the reach of the form; the library's tables are laid.
-/
import Derived.Test.YtdbbiibnhgcndaaDoorPutMath
namespace Go.Proofs.YtdbbiibnhgcndaaDoor
open Go.RowKit

set_option maxRecDepth 100000 in
set_option maxHeartbeats 4000000 in
theorem put_any (M : Mv) (e f a r : Int) (w : World) (hM : MachAt w M) (hF : M.Fits) (wa : (Lit.int .i64 a).wf = true) (wr : (Lit.int .i64 r).wf = true) (ht : Tab w) :
    Calls Tryd.prog 28 #[M.val, .int .i64 e, .int .i64 f, .int .i64 a, .int .i64 r] w fun x w' => ∃ N : Mv, x = .returned (.tuple #[N.val, .int .i64 (putF M e f a r)]) ∧ N.Same (putM M e f a r) ∧ Owned w.heap.size w' N ∧ Below w.heap.size w w' := by
  have h1 := fun w' (h : Below w.heap.size w w') => checkOpened_any M e w' (hM.below h)
  have h3 := fun w' (h : Below w.heap.size w w') => added_any a r w' wa wr (ht.below h)
  have h4 := fun w' (h : Below w.heap.size w w') => place_any M e a w' (hM.below h)
  obtain ⟨RM, hRM⟩ : ∃ RM, Hid (RM = putM M e f a r) := ⟨_, rfl⟩
  obtain ⟨rf, hrf⟩ : ∃ rf, Hid (rf = putF M e f a r) := ⟨_, rfl⟩
  rw [← hRM.out, ← hrf.out]
  have hF0 : putF M e f a r = if askF M e 1 = 0 then (if inB f 0 23 = true then (if (inB a 0 7 && inB r 0 7) = true then (if (M.frs.getD f.toNat default).o = 0 then (if placeOf M.frs e a < 0 then logF M (e - 1).toNat (putS a r) else 6) else 6) else 2) else 2) else askF M e 1 := rfl
  by_cases hz : askF M e 1 = 0
  · rw [if_pos hz] at hF0
    rw [hz] at h1
    cases hf : inB f 0 23 with
    | false =>
      rw [hf, if_neg (by decide)] at hF0
      have e1 : rf = 2 := by rw [hrf.out, hF0]
      have RN : RM = noM := by rw [hRM.out]; exact putM_bad (by rw [hF0]; decide)
      subst RN e1
      clear hRM hrf hF0 hM hF hz h3 h4 ht
      unfold Mv.val at h1 ⊢
      obtain ⟨fa, frs, fcap, ea, ens, ecap, qa, qus, qcap⟩ := M
      dsimp only at *
      have B2 : ∀ o1 o2, Hid (Below w.heap.size w ((w.alloc o1).alloc o2)) := fun o1 o2 => a2B _ _ _
      have HX : ∀ o1 o2 w1, Hid (Below ((w.alloc o1).alloc o2).heap.size ((w.alloc o1).alloc o2) w1 → Below w.heap.size w w1) := fun o1 o2 w1 h => (B2 o1 o2).out.trans (h.mono (by simp; omega))
      have CF : Hid (_) := boxes_blk w (.slice fa frs.length fcap) (.slice ea ens.length ecap) (.slice qa qus.length qcap)
      go_enter Tryd.func28, Tryd.ntmps28
      go_wp2_with (first
        | (go_at_call 51; refine (h1 _ (B2 _ _).out).mono ?_; rintro x w1 ⟨rfl, hb1⟩; obtain ⟨AB, RB⟩ := CF.out w1 hb1; have HAB1 : Hid (_) := AB; have HRB1 : Hid (_) := RB; have HB1 : Hid (Below w.heap.size w w1) := (HX _ _ _).out hb1; obtain ⟨m0, m1, m2, _, _, _, ml⟩ := box_cells AB; clear hb1 CF AB RB; obtain ⟨r0, r1, r2, rf0, rf1, rf2, rl⟩ := box_cells HRB1.out)
        | (go_at_call 52; refine (isFrameNumber_any _ _).mono ?_; rintro x w0 ⟨rfl, rfl⟩)
        | fail)
      obtain ⟨k0, k1, k2⟩ := blk3 (v0 := .slice none 0 0) (v1 := .slice none 0 0) (v2 := .slice none 0 0) r0 r1 r2
      (try simp only [Exit.inBlock, Exit.then])
      refine bodyPost_ret (by simp [results, Tryd.results28, go_sem, k0, k1, k2]; try rfl) rfl ?_
      exact ⟨noM, rfl, Mv.Same.refl _, noM_own _ _, blk3_below HB1.out (by omega)⟩
    | true =>
      rw [hf, if_pos rfl] at hF0
      cases ha : (inB a 0 7 && inB r 0 7) with
      | false =>
        rw [ha, if_neg (by decide)] at hF0
        simp only [ha, Bool.false_eq_true, if_false] at h3
        have e1 : rf = 2 := by rw [hrf.out, hF0]
        have RN : RM = noM := by rw [hRM.out]; exact putM_bad (by rw [hF0]; decide)
        subst RN e1
        clear hRM hrf hF0 hM hF hz h4 ht
        unfold Mv.val at h1 ⊢
        obtain ⟨fa, frs, fcap, ea, ens, ecap, qa, qus, qcap⟩ := M
        dsimp only at *
        have B2 : ∀ o1 o2, Hid (Below w.heap.size w ((w.alloc o1).alloc o2)) := fun o1 o2 => a2B _ _ _
        have HX : ∀ o1 o2 w1, Hid (Below ((w.alloc o1).alloc o2).heap.size ((w.alloc o1).alloc o2) w1 → Below w.heap.size w w1) := fun o1 o2 w1 h => (B2 o1 o2).out.trans (h.mono (by simp; omega))
        have CF : Hid (_) := boxes_blk w (.slice fa frs.length fcap) (.slice ea ens.length ecap) (.slice qa qus.length qcap)
        go_enter Tryd.func28, Tryd.ntmps28
        go_wp2_with (first
          | (go_at_call 51; refine (h1 _ (B2 _ _).out).mono ?_; rintro x w1 ⟨rfl, hb1⟩; obtain ⟨AB, RB⟩ := CF.out w1 hb1; have HAB1 : Hid (_) := AB; have HRB1 : Hid (_) := RB; have HB1 : Hid (Below w.heap.size w w1) := (HX _ _ _).out hb1; obtain ⟨m0, m1, m2, _, _, _, ml⟩ := box_cells AB; clear hb1 CF AB RB)
          | (go_at_call 52; refine (isFrameNumber_any _ _).mono ?_; rintro x w0 ⟨rfl, rfl⟩)
          | (go_at_call 13; refine (h3 _ HB1.out).mono ?_; rintro x w2 ⟨rfl, hb2⟩; have HAB2 : Hid (_) := ((hb2.block _ (Array.getElem?_eq_some_iff.1 HAB1.out).1).trans HAB1.out); have HRB2 : Hid (_) := ((hb2.block _ (Array.getElem?_eq_some_iff.1 HRB1.out).1).trans HRB1.out); have HB2 : Hid (Below w.heap.size w w2) := HB1.out.trans (hb2.mono HB1.out.size); clear m0 m1 m2 ml; obtain ⟨m0, m1, m2, _, _, _, ml⟩ := box_cells HAB2.out; clear hb2 HAB1 HRB1; obtain ⟨r0, r1, r2, rf0, rf1, rf2, rl⟩ := box_cells HRB2.out)
          | fail)
        obtain ⟨k0, k1, k2⟩ := blk3 (v0 := .slice none 0 0) (v1 := .slice none 0 0) (v2 := .slice none 0 0) r0 r1 r2
        (try simp only [Exit.inBlock, Exit.then])
        refine bodyPost_ret (by simp [results, Tryd.results28, go_sem, k0, k1, k2]; try rfl) rfl ?_
        exact ⟨noM, rfl, Mv.Same.refl _, noM_own _ _, blk3_below HB2.out (by omega)⟩
      | true =>
        rw [ha, if_pos rfl] at hF0
        simp only [ha, if_true] at h3
        obtain ⟨s, HS⟩ : ∃ s, Hid (putS a r = s) := ⟨_, rfl⟩
        have hss : s.size ≤ 1000000 := by have := putS_size a r wa wr; rw [HS.out] at this; omega
        rw [HS.out] at h3 hF0
        obtain ⟨hz0, m, rfl, hm4, _, _⟩ := askF_zero hz
        have hfi := inB_iff.1 hf
        obtain ⟨j, rfl⟩ : ∃ j : Nat, f = (j : Int) := ⟨f.toNat, by omega⟩
        have hj : j < 24 := by omega
        have hji : (j : Int) < 24 := by omega
        simp only [Int.toNat_natCast, show ((m : Int) + 1 - 1).toNat = m by omega] at hF0
        have HS24 : Hid (M.frs.length = 24) := (machF_sizes hz0).1
        have HS4 : Hid (M.ens.length = 4) := (machF_sizes hz0).2.1
        obtain ⟨fb, fo, hfa, hfr⟩ := fr_at hM (j := j) (by have := HS24.out; omega)
        obtain ⟨ow, HOW⟩ : ∃ ow, Hid ((M.frs.getD j default).o = ow) := ⟨_, rfl⟩
        have hown := fun w1 (h : Below w.heap.size w w1) => (hfr w1 h).1
        rw [HOW.out] at hF0 hown
        clear hfr
        by_cases ho : ow = 0
        · subst ho
          rw [if_pos rfl] at hF0
          obtain ⟨pl, hpl⟩ : ∃ pl, Hid (placeOf M.frs ((m : Int) + 1) a = pl) := ⟨_, rfl⟩
          rw [hpl.out] at hF0 h4
          by_cases hp : pl < 0
          · rw [if_pos hp] at hF0
            have h5 := fun w' (h : Below w.heap.size w w') => logged_any M m s w' (hM.below h) hF hz0 hm4 hss
            have HMM : Hid (M = M) := rfl
            by_cases hl : logF M m s = 0
            · rw [hl] at hF0 h5
              have e1 : rf = 0 := by rw [hrf.out, hF0]
              have RN : Hid (RM = { M with frs := M.frs.set j (putFr M j ((m : Int) + 1) a r), ens := M.ens.set m ((M.ens.getD m default).withLog s) }) := by
                show _ = _
                rw [hRM.out]; unfold putM; rw [hF0, if_pos rfl, HS.out, show ((m : Int) + 1 - 1).toNat = m by omega, Int.toNat_natCast]
              have HL : Hid (logM M m s = { M with ens := M.ens.set m ((M.ens.getD m default).withLog s) }) := by show _ = _; unfold logM; rw [hl, if_pos rfl]
              have wwa := wa
              have wwr := wr
              have wwm : (Lit.int .i64 ((m : Int) + 1)).wf = true := wf_of (by omega)
              have HW : Hid (_) := And.intro wwm (And.intro wwa wwr)
              subst e1
              clear hRM hrf hF0 hM hF hz hz0 hfi hss hl wa wr wwa wwr wwm
              unfold Mv.val at h1 h4 h5 ⊢
              obtain ⟨fa, frs, fcap, ea, ens, ecap, qa, qus, qcap⟩ := M
              dsimp only at *
              have B2 : ∀ o1 o2, Hid (Below w.heap.size w ((w.alloc o1).alloc o2)) := fun o1 o2 => a2B _ _ _
              have HX : ∀ o1 o2 w1, Hid (Below ((w.alloc o1).alloc o2).heap.size ((w.alloc o1).alloc o2) w1 → Below w.heap.size w w1) := fun o1 o2 w1 h => (B2 o1 o2).out.trans (h.mono (by simp; omega))
              have CF : Hid (_) := boxes_blk w (.slice fa frs.length fcap) (.slice ea ens.length ecap) (.slice qa qus.length qcap)
              subst hfa
              rw [HS24.out] at h1 h4 h5 CF ⊢
              go_enter Tryd.func28, Tryd.ntmps28
              go_upto_region 12 with (first
                | (go_at_call 51; refine (h1 _ (B2 _ _).out).mono ?_; rintro x w1 ⟨rfl, hb1⟩; obtain ⟨AB, RB⟩ := CF.out w1 hb1; have HAB1 : Hid (_) := AB; have HRB1 : Hid (_) := RB; have HB1 : Hid (Below w.heap.size w w1) := (HX _ _ _).out hb1; obtain ⟨m0, m1, m2, _, _, _, ml⟩ := box_cells AB; clear hb1 CF AB RB)
                | (go_at_call 52; refine (isFrameNumber_any _ _).mono ?_; rintro x w0 ⟨rfl, rfl⟩)
                | (go_at_call 13; refine (h3 _ HB1.out).mono ?_; rintro x w2 ⟨rfl, hb2⟩; have HAB2 : Hid (_) := ((hb2.block _ (Array.getElem?_eq_some_iff.1 HAB1.out).1).trans HAB1.out); have HRB2 : Hid (_) := ((hb2.block _ (Array.getElem?_eq_some_iff.1 HRB1.out).1).trans HRB1.out); have HB2 : Hid (Below w.heap.size w w2) := HB1.out.trans (hb2.mono HB1.out.size); clear m0 m1 m2 ml; obtain ⟨m0, m1, m2, _, _, _, ml⟩ := box_cells HAB2.out; clear hb2 HAB1 HRB1; have t0 := hown _ HB2.out)
                | (go_at_call 53; refine (h4 _ HB2.out).mono ?_; rintro x w3 ⟨rfl, hb3⟩; have HAB3 : Hid (_) := ((hb3.block _ (Array.getElem?_eq_some_iff.1 HAB2.out).1).trans HAB2.out); have HRB3 : Hid (_) := ((hb3.block _ (Array.getElem?_eq_some_iff.1 HRB2.out).1).trans HRB2.out); have HB3 : Hid (Below w.heap.size w w3) := HB2.out.trans (hb3.mono HB2.out.size); clear m0 m1 m2 ml; obtain ⟨m0, m1, m2, _, _, _, ml⟩ := box_cells HAB3.out; clear hb3 HAB2 HRB2)
                | (go_at_call 54; refine (h5 _ HB3.out).mono ?_; rintro x w4 ⟨N, rfl, hS, hO, hb4⟩; obtain ⟨nfa, nfrs, nfcap, nea, nens, necap, nqa, nqus, nqcap⟩ := N; have HSN : Hid (_) := hS; have HON : Hid (_) := hO; have HB34 : Hid (_) := hb4; have HRL : Hid (w.heap.size + 1 < w3.heap.size) := (Array.getElem?_eq_some_iff.1 HRB3.out).1; have HRB4 : Hid (_) := ((hb4.block _ HRL.out).trans HRB3.out); have HB4 : Hid (Below w.heap.size w w4) := HB3.out.trans (hb4.mono HB3.out.size); clear hS hO hb4 m0 m1 m2 ml HAB3 HRB3; have H24 : Hid (nfrs.length = 24) := (by have := HSN.out.len; rw [HL.out] at this; exact this.trans HS24.out); rw [H24.out]; dsimp only)
                | fail)
              obtain ⟨nb, no, hnfa, _, _, _, _⟩ := HON.out.at_.frame (j := j) (by dsimp only; have := H24.out; omega)
              dsimp only at hnfa
              subst hnfa
              obtain ⟨W5, hW5⟩ : ∃ W5, Hid (W5 = w4.alloc (.cells #[.slice (some ⟨nb, no, none⟩) 24 nfcap, .slice nea nens.length necap, .slice nqa nqus.length nqcap] 51)) := ⟨_, rfl⟩
              rw [← hW5.out]
              have HO5 : Hid (Owned w3.heap.size W5 _) := HON.out.below (w' := W5) (by rw [hW5.out]; exact (Below.refl _ _).alloc (Nat.le_refl _) _)
              have HB5 : Hid (Below w.heap.size w W5) := by show Below _ _ _; rw [hW5.out]; exact HB4.out.alloc HB4.out.size _
              have HBX5 : Hid (W5.heap[w4.heap.size]? = some (.cells #[.slice (some ⟨nb, no, none⟩) 24 nfcap, .slice nea nens.length necap, .slice nqa nqus.length nqcap] 51 (0, 0))) := by show _ = _; rw [hW5.out]; exact a11 _ _
              have HR5 : Hid (W5.heap[w.heap.size + 1]? = some (.cells #[.slice none 0 0, .slice none 0 0, .slice none 0 0] 51 (0, 0))) := by show _ = _; rw [hW5.out, Below.heap_alloc _ _ _ (by have := HRL.out; have := HB34.out.size; omega)]; exact HRB4.out
              have nn := HON.out.nf nb no none rfl
              have nn5 := HO5.out.nf nb no none rfl
              obtain ⟨_, _, hx, t0', t1', t2', _⟩ := HO5.out.at_.frame (j := j) (by dsimp only; have := H24.out; omega)
              dsimp only at hx
              simp only [Option.some.injEq, Addr.mk.injEq, and_true] at hx
              obtain ⟨rfl, rfl⟩ := hx
              have f0 : W5.frozen? ⟨nb, no + j * 4, none⟩ = false := nn5.2.2 _
              have f1 : W5.frozen? ⟨nb, no + j * 4 + 1, none⟩ = false := nn5.2.2 _
              have f2 : W5.frozen? ⟨nb, no + j * 4 + 2, none⟩ = false := nn5.2.2 _
              have fl : nb < W5.heap.size := nn5.2.1
              have HNB : Hid (w3.heap.size ≤ nb ∧ nb < w4.heap.size) := ⟨nn.1, nn.2.1⟩
              obtain ⟨y0, y1, y2, _, _, _, yl⟩ := box_cells HBX5.out
              dsimp only at t0' t1' t2'
              generalize (nfrs.getD j default).o = u0 at t0'
              generalize (nfrs.getD j default).at_ = u1 at t1'
              generalize (nfrs.getD j default).r = u2 at t2'
              clear hW5 HRB4 HON nn nn5 h1 h3 h4 h5 hown t0 HX B2
              go_upto_region 16 with fail
              have HO6 := HO5.out.put3 (k := j) rfl (by dsimp only; have := H24.out; omega) HW.out.1 HW.out.2.1 HW.out.2.2
              dsimp only at HO6
              have HB6 := put3_below (v0 := .int .i64 ((m : Int) + 1)) (v1 := .int .i64 a) (v2 := .int .i64 r) (a := no + j * 4) HB5.out (show w.heap.size ≤ nb by have := HNB.out; have := HRL.out; omega)
              have k6 := fun b (hb : b ≠ nb) => put3_heap (w := W5) (fb := nb) (v0 := .int .i64 ((m : Int) + 1)) (v1 := .int .i64 a) (v2 := .int .i64 r) (a := no + j * 4) hb
              obtain ⟨W6, hW6⟩ : ∃ W6, Hid (W6 = ((W5.setCell ⟨nb, no + j * 4, none⟩ (.int .i64 ((m : Int) + 1))).setCell ⟨nb, no + j * 4 + 1, none⟩ (.int .i64 a)).setCell ⟨nb, no + j * 4 + 2, none⟩ (.int .i64 r)) := ⟨_, rfl⟩
              rw [← hW6.out] at HO6 HB6 k6 ⊢
              have HBX6 := (k6 w4.heap.size (by have := HNB.out; omega)).trans HBX5.out
              have HR6 := (k6 (w.heap.size + 1) (by have := HNB.out; have := HRL.out; omega)).trans HR5.out
              have HO6' : Hid (_) := HO6
              have HB6' : Hid (_) := HB6
              clear y0 y1 y2 yl t0' t1' t2' f0 f1 f2 fl
              obtain ⟨y0, y1, y2, _, _, _, yl⟩ := box_cells HBX6
              obtain ⟨r0, r1, r2, rf0, rf1, rf2, rl⟩ := box_cells HR6
              clear hW6 k6 HBX6 HR6 HO6 HB6 HBX5 HR5 HO5
              go_wp2
              obtain ⟨k0, k1, k2⟩ := blk3 (v0 := .slice (some ⟨nb, no, none⟩) 24 nfcap) (v1 := .slice nea nens.length necap) (v2 := .slice nqa nqus.length nqcap) r0 r1 r2
              (try simp only [Exit.inBlock, Exit.then])
              refine bodyPost_ret (by simp [results, Tryd.results28, go_sem, k0, k1, k2]; try rfl) rfl ?_
              refine ⟨⟨some ⟨nb, no, none⟩, nfrs.set j { nfrs.getD j default with o := (m : Int) + 1, at_ := a, r := r }, nfcap, nea, nens, necap, nqa, nqus, nqcap⟩, by simp [H24.out], ?_, (HO6'.out.keep (fun b hb _ => blk3_heap b (by have := HRL.out; omega)) (by rw [blk3_size]; exact Nat.le_refl _)).mono HB3.out.size, blk3_below HB6'.out (by omega)⟩
              have hs := HSN.out
              rw [HL.out] at hs
              have := set_same hs j { nfrs.getD j default with o := (m : Int) + 1, at_ := a, r := r } (putFr ⟨some ⟨fb, fo, none⟩, frs, fcap, ea, ens, ecap, qa, qus, qcap⟩ j ((m : Int) + 1) a r) (fun _ => ⟨rfl, rfl, rfl, ws_same hs j⟩)
              rw [RN.out]
              exact this
            · have e1 : rf = logF M m s := by rw [hrf.out, hF0]
              have RN : RM = noM := by rw [hRM.out]; exact putM_bad (by rw [hF0]; exact hl)
              have hl' : (logF M m s != 0) = true := by simpa using hl
              subst RN e1
              clear hRM hrf hF0 hM hF hz hz0 hfi hss hl
              generalize logF M m s = z at h5 hl' ⊢
              unfold Mv.val at h1 h4 h5 ⊢
              obtain ⟨fa, frs, fcap, ea, ens, ecap, qa, qus, qcap⟩ := M
              dsimp only at *
              have B2 : ∀ o1 o2, Hid (Below w.heap.size w ((w.alloc o1).alloc o2)) := fun o1 o2 => a2B _ _ _
              have HX : ∀ o1 o2 w1, Hid (Below ((w.alloc o1).alloc o2).heap.size ((w.alloc o1).alloc o2) w1 → Below w.heap.size w w1) := fun o1 o2 w1 h => (B2 o1 o2).out.trans (h.mono (by simp; omega))
              have CF : Hid (_) := boxes_blk w (.slice fa frs.length fcap) (.slice ea ens.length ecap) (.slice qa qus.length qcap)
              subst hfa
              rw [HS24.out] at h1 h4 h5 CF ⊢
              go_enter Tryd.func28, Tryd.ntmps28
              go_upto_region 12 with (first
                | (go_at_call 51; refine (h1 _ (B2 _ _).out).mono ?_; rintro x w1 ⟨rfl, hb1⟩; obtain ⟨AB, RB⟩ := CF.out w1 hb1; have HAB1 : Hid (_) := AB; have HRB1 : Hid (_) := RB; have HB1 : Hid (Below w.heap.size w w1) := (HX _ _ _).out hb1; obtain ⟨m0, m1, m2, _, _, _, ml⟩ := box_cells AB; clear hb1 CF AB RB)
                | (go_at_call 52; refine (isFrameNumber_any _ _).mono ?_; rintro x w0 ⟨rfl, rfl⟩)
                | (go_at_call 13; refine (h3 _ HB1.out).mono ?_; rintro x w2 ⟨rfl, hb2⟩; have HAB2 : Hid (_) := ((hb2.block _ (Array.getElem?_eq_some_iff.1 HAB1.out).1).trans HAB1.out); have HRB2 : Hid (_) := ((hb2.block _ (Array.getElem?_eq_some_iff.1 HRB1.out).1).trans HRB1.out); have HB2 : Hid (Below w.heap.size w w2) := HB1.out.trans (hb2.mono HB1.out.size); clear m0 m1 m2 ml; obtain ⟨m0, m1, m2, _, _, _, ml⟩ := box_cells HAB2.out; clear hb2 HAB1 HRB1; have t0 := hown _ HB2.out)
                | (go_at_call 53; refine (h4 _ HB2.out).mono ?_; rintro x w3 ⟨rfl, hb3⟩; have HAB3 : Hid (_) := ((hb3.block _ (Array.getElem?_eq_some_iff.1 HAB2.out).1).trans HAB2.out); have HRB3 : Hid (_) := ((hb3.block _ (Array.getElem?_eq_some_iff.1 HRB2.out).1).trans HRB2.out); have HB3 : Hid (Below w.heap.size w w3) := HB2.out.trans (hb3.mono HB2.out.size); clear m0 m1 m2 ml; obtain ⟨m0, m1, m2, _, _, _, ml⟩ := box_cells HAB3.out; clear hb3 HAB2 HRB2)
                | (go_at_call 54; refine (h5 _ HB3.out).mono ?_; rintro x w4 ⟨N, rfl, hS, hO, hb4⟩; obtain ⟨nfa, nfrs, nfcap, nea, nens, necap, nqa, nqus, nqcap⟩ := N; have HSN : Hid (_) := hS; have HON : Hid (_) := hO; have HB34 : Hid (_) := hb4; have HRL : Hid (w.heap.size + 1 < w3.heap.size) := (Array.getElem?_eq_some_iff.1 HRB3.out).1; have HRB4 : Hid (_) := ((hb4.block _ HRL.out).trans HRB3.out); have HB4 : Hid (Below w.heap.size w w4) := HB3.out.trans (hb4.mono HB3.out.size); clear hS hO hb4 m0 m1 m2 ml HAB3 HRB3; dsimp only)
                | fail)
              obtain ⟨W5, hW5⟩ : ∃ W5, Hid (W5 = w4.alloc (.cells #[.slice nfa nfrs.length nfcap, .slice nea nens.length necap, .slice nqa nqus.length nqcap] 51)) := ⟨_, rfl⟩
              rw [← hW5.out]
              have HB5 : Hid (Below w.heap.size w W5) := by show Below _ _ _; rw [hW5.out]; exact HB4.out.alloc HB4.out.size _
              have HR5 : W5.heap[w.heap.size + 1]? = some (.cells #[.slice none 0 0, .slice none 0 0, .slice none 0 0] 51 (0, 0)) := by rw [hW5.out, Below.heap_alloc _ _ _ (by have := HRL.out; have := HB34.out.size; omega)]; exact HRB4.out
              obtain ⟨r0, r1, r2, rf0, rf1, rf2, rl⟩ := box_cells HR5
              clear hW5 HR5 HRB4 HON h1 h3 h4 h5 hown t0 HX B2
              go_wp2
              obtain ⟨k0, k1, k2⟩ := blk3 (v0 := .slice none 0 0) (v1 := .slice none 0 0) (v2 := .slice none 0 0) r0 r1 r2
              (try simp only [Exit.inBlock, Exit.then])
              refine bodyPost_ret (by simp [results, Tryd.results28, go_sem, k0, k1, k2]; try rfl) rfl ?_
              exact ⟨noM, rfl, Mv.Same.refl _, noM_own _ _, blk3_below HB5.out (by omega)⟩
          · rw [if_neg hp] at hF0
            have hp' : 0 ≤ pl := by omega
            have e1 : rf = 6 := by rw [hrf.out, hF0]
            have RN : RM = noM := by rw [hRM.out]; exact putM_bad (by rw [hF0]; decide)
            subst RN e1
            clear hRM hrf hF0 hM hF hz hz0 hp hfi hss ht
            unfold Mv.val at h1 h4 ⊢
            obtain ⟨fa, frs, fcap, ea, ens, ecap, qa, qus, qcap⟩ := M
            dsimp only at *
            have B2 : ∀ o1 o2, Hid (Below w.heap.size w ((w.alloc o1).alloc o2)) := fun o1 o2 => a2B _ _ _
            have HX : ∀ o1 o2 w1, Hid (Below ((w.alloc o1).alloc o2).heap.size ((w.alloc o1).alloc o2) w1 → Below w.heap.size w w1) := fun o1 o2 w1 h => (B2 o1 o2).out.trans (h.mono (by simp; omega))
            have CF : Hid (_) := boxes_blk w (.slice fa frs.length fcap) (.slice ea ens.length ecap) (.slice qa qus.length qcap)
            subst hfa
            rw [HS24.out] at h1 h4 CF ⊢
            go_enter Tryd.func28, Tryd.ntmps28
            go_wp2_with (first
              | (go_at_call 51; refine (h1 _ (B2 _ _).out).mono ?_; rintro x w1 ⟨rfl, hb1⟩; obtain ⟨AB, RB⟩ := CF.out w1 hb1; have HAB1 : Hid (_) := AB; have HRB1 : Hid (_) := RB; have HB1 : Hid (Below w.heap.size w w1) := (HX _ _ _).out hb1; obtain ⟨m0, m1, m2, _, _, _, ml⟩ := box_cells AB; clear hb1 CF AB RB)
              | (go_at_call 52; refine (isFrameNumber_any _ _).mono ?_; rintro x w0 ⟨rfl, rfl⟩)
              | (go_at_call 13; refine (h3 _ HB1.out).mono ?_; rintro x w2 ⟨rfl, hb2⟩; have HAB2 : Hid (_) := ((hb2.block _ (Array.getElem?_eq_some_iff.1 HAB1.out).1).trans HAB1.out); have HRB2 : Hid (_) := ((hb2.block _ (Array.getElem?_eq_some_iff.1 HRB1.out).1).trans HRB1.out); have HB2 : Hid (Below w.heap.size w w2) := HB1.out.trans (hb2.mono HB1.out.size); clear m0 m1 m2 ml; obtain ⟨m0, m1, m2, _, _, _, ml⟩ := box_cells HAB2.out; clear hb2 HAB1 HRB1; have t0 := hown _ HB2.out)
              | (go_at_call 53; refine (h4 _ HB2.out).mono ?_; rintro x w3 ⟨rfl, hb3⟩; have HAB3 : Hid (_) := ((hb3.block _ (Array.getElem?_eq_some_iff.1 HAB2.out).1).trans HAB2.out); have HRB3 : Hid (_) := ((hb3.block _ (Array.getElem?_eq_some_iff.1 HRB2.out).1).trans HRB2.out); have HB3 : Hid (Below w.heap.size w w3) := HB2.out.trans (hb3.mono HB2.out.size); clear m0 m1 m2 ml; obtain ⟨m0, m1, m2, _, _, _, ml⟩ := box_cells HAB3.out; clear hb3 HAB2 HRB2; obtain ⟨r0, r1, r2, rf0, rf1, rf2, rl⟩ := box_cells HRB3.out)
              | fail)
            obtain ⟨k0, k1, k2⟩ := blk3 (v0 := .slice none 0 0) (v1 := .slice none 0 0) (v2 := .slice none 0 0) r0 r1 r2
            (try simp only [Exit.inBlock, Exit.then])
            refine bodyPost_ret (by simp [results, Tryd.results28, go_sem, k0, k1, k2]; try rfl) rfl ?_
            exact ⟨noM, rfl, Mv.Same.refl _, noM_own _ _, blk3_below HB3.out (by omega)⟩
        · rw [if_neg ho] at hF0
          have ho' : (ow != 0) = true := by simpa using ho
          have e1 : rf = 6 := by rw [hrf.out, hF0]
          have RN : RM = noM := by rw [hRM.out]; exact putM_bad (by rw [hF0]; decide)
          subst RN e1
          clear hRM hrf hF0 hM hF hz hz0 h4 hfi hss ho ht
          unfold Mv.val at h1 ⊢
          obtain ⟨fa, frs, fcap, ea, ens, ecap, qa, qus, qcap⟩ := M
          dsimp only at *
          have B2 : ∀ o1 o2, Hid (Below w.heap.size w ((w.alloc o1).alloc o2)) := fun o1 o2 => a2B _ _ _
          have HX : ∀ o1 o2 w1, Hid (Below ((w.alloc o1).alloc o2).heap.size ((w.alloc o1).alloc o2) w1 → Below w.heap.size w w1) := fun o1 o2 w1 h => (B2 o1 o2).out.trans (h.mono (by simp; omega))
          have CF : Hid (_) := boxes_blk w (.slice fa frs.length fcap) (.slice ea ens.length ecap) (.slice qa qus.length qcap)
          subst hfa
          rw [HS24.out] at h1 CF ⊢
          go_enter Tryd.func28, Tryd.ntmps28
          go_wp2_with (first
            | (go_at_call 51; refine (h1 _ (B2 _ _).out).mono ?_; rintro x w1 ⟨rfl, hb1⟩; obtain ⟨AB, RB⟩ := CF.out w1 hb1; have HAB1 : Hid (_) := AB; have HRB1 : Hid (_) := RB; have HB1 : Hid (Below w.heap.size w w1) := (HX _ _ _).out hb1; obtain ⟨m0, m1, m2, _, _, _, ml⟩ := box_cells AB; clear hb1 CF AB RB)
            | (go_at_call 52; refine (isFrameNumber_any _ _).mono ?_; rintro x w0 ⟨rfl, rfl⟩)
            | (go_at_call 13; refine (h3 _ HB1.out).mono ?_; rintro x w2 ⟨rfl, hb2⟩; have HAB2 : Hid (_) := ((hb2.block _ (Array.getElem?_eq_some_iff.1 HAB1.out).1).trans HAB1.out); have HRB2 : Hid (_) := ((hb2.block _ (Array.getElem?_eq_some_iff.1 HRB1.out).1).trans HRB1.out); have HB2 : Hid (Below w.heap.size w w2) := HB1.out.trans (hb2.mono HB1.out.size); clear m0 m1 m2 ml; obtain ⟨m0, m1, m2, _, _, _, ml⟩ := box_cells HAB2.out; clear hb2 HAB1 HRB1; obtain ⟨r0, r1, r2, rf0, rf1, rf2, rl⟩ := box_cells HRB2.out; have t0 := hown _ HB2.out)
            | fail)
          obtain ⟨k0, k1, k2⟩ := blk3 (v0 := .slice none 0 0) (v1 := .slice none 0 0) (v2 := .slice none 0 0) r0 r1 r2
          (try simp only [Exit.inBlock, Exit.then])
          refine bodyPost_ret (by simp [results, Tryd.results28, go_sem, k0, k1, k2]; try rfl) rfl ?_
          exact ⟨noM, rfl, Mv.Same.refl _, noM_own _ _, blk3_below HB2.out (by omega)⟩
  · have hz1 : (askF M e 1 != 0) = true := by simpa using hz
    have hz2 : (askF M e 1 == 0) = false := by simpa using hz
    have e1 : rf = askF M e 1 := by rw [hrf.out, hF0, if_neg hz]
    have RN : RM = noM := by rw [hRM.out]; exact putM_bad (by rw [hF0, if_neg hz]; exact hz)
    subst RN e1
    clear hRM hrf hF0 hM hF h3 h4 hz ht
    generalize askF M e 1 = z at h1 hz1 hz2 ⊢
    unfold Mv.val at h1 ⊢
    obtain ⟨fa, frs, fcap, ea, ens, ecap, qa, qus, qcap⟩ := M
    dsimp only at *
    have B2 : ∀ o1 o2, Hid (Below w.heap.size w ((w.alloc o1).alloc o2)) := fun o1 o2 => a2B _ _ _
    have HX : ∀ o1 o2 w1, Hid (Below ((w.alloc o1).alloc o2).heap.size ((w.alloc o1).alloc o2) w1 → Below w.heap.size w w1) := fun o1 o2 w1 h => (B2 o1 o2).out.trans (h.mono (by simp; omega))
    have CF : Hid (_) := boxes_blk w (.slice fa frs.length fcap) (.slice ea ens.length ecap) (.slice qa qus.length qcap)
    go_enter Tryd.func28, Tryd.ntmps28
    go_wp2_with (first
      | (go_at_call 51; refine (h1 _ (B2 _ _).out).mono ?_; rintro x w1 ⟨rfl, hb1⟩; obtain ⟨AB, RB⟩ := CF.out w1 hb1; have HAB1 : Hid (_) := AB; have HRB1 : Hid (_) := RB; have HB1 : Hid (Below w.heap.size w w1) := (HX _ _ _).out hb1; obtain ⟨m0, m1, m2, _, _, _, ml⟩ := box_cells AB; clear hb1 CF AB RB; obtain ⟨r0, r1, r2, rf0, rf1, rf2, rl⟩ := box_cells HRB1.out)
      | fail)
    obtain ⟨k0, k1, k2⟩ := blk3 (v0 := .slice none 0 0) (v1 := .slice none 0 0) (v2 := .slice none 0 0) r0 r1 r2
    (try simp only [Exit.inBlock, Exit.then])
    refine bodyPost_ret (by simp [results, Tryd.results28, go_sem, k0, k1, k2]; try rfl) rfl ?_
    exact ⟨noM, rfl, Mv.Same.refl _, noM_own _ _, blk3_below HB1.out (by omega)⟩

end Go.Proofs.YtdbbiibnhgcndaaDoor
