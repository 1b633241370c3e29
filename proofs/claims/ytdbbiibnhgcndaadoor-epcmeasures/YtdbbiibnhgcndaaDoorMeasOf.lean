/-
  What the call MeasuredOf (riddleref) answers for every machine, enclave and place: what the document asks, in memory of its own; it turns nothing that was in memory. The conditions: the lists are within the reach of the form.
-/
import Derived.Test.YtdbbiibnhgcndaaDoorMeasMath
namespace Go.Proofs.YtdbbiibnhgcndaaDoor
open Go.RowKit

set_option maxRecDepth 100000 in
set_option maxHeartbeats 4000000 in
theorem measOf_any (M : Mv) (e a : Int) (w : World) (hM : MachAt w M) (hF : M.Fits) (wa : (Lit.int .i64 a).wf = true) :
    Calls Tryd.prog 31 #[M.val, .int .i64 e, .int .i64 a] w fun x w' => ∃ N : Mv, x = .returned (.tuple #[N.val, .int .i64 (meaF M e a)]) ∧ N.Same (meaM M e a) ∧ Owned w.heap.size w' N ∧ Below w.heap.size w w' := by
  have h1 := fun w' (h : Below w.heap.size w w') => asked_any M e 1 w' (hM.below h)
  have h4 := fun w' (h : Below w.heap.size w w') => placeOf_any M e a w' (hM.below h)
  have h2 := fun w' (h : Below w.heap.size w w') => mcopy_any M w' (hM.below h) hF
  obtain ⟨RM, hRM⟩ : ∃ RM, Hid (RM = meaM M e a) := ⟨_, rfl⟩
  obtain ⟨rf, hrf⟩ : ∃ rf, Hid (rf = meaF M e a) := ⟨_, rfl⟩
  rw [← hRM.out, ← hrf.out]
  have hF0 : meaF M e a = if askF M e 1 = 0 then (if placeOf M.frs e a < 0 then 5 else logF M (e - 1).toNat (meaS M e a)) else askF M e 1 := rfl
  by_cases hz : askF M e 1 = 0
  · rw [if_pos hz] at hF0
    rw [hz] at h1
    rcases place_cases M.frs e a with hp | ⟨k, hp, hk, hpl⟩
    · rw [hp, if_pos (by decide)] at hF0
      rw [hp] at h4
      have e1 : rf = 5 := by rw [hrf.out, hF0]
      have RN : RM = noM := by rw [hRM.out]; exact meaM_bad (by rw [hF0]; decide)
      subst RN e1
      clear hRM hrf hF0 hM hF hz hp h2
      unfold Mv.val at h1 h4 ⊢
      obtain ⟨fa, frs, fcap, ea, ens, ecap, qa, qus, qcap⟩ := M
      dsimp only at *
      have B2 : ∀ o1 o2, Hid (Below w.heap.size w ((w.alloc o1).alloc o2)) := fun o1 o2 => a2B _ _ _
      have HX : ∀ o1 o2 w1, Hid (Below ((w.alloc o1).alloc o2).heap.size ((w.alloc o1).alloc o2) w1 → Below w.heap.size w w1) := fun o1 o2 w1 h => (B2 o1 o2).out.trans (h.mono (by simp; omega))
      have CF : Hid (_) := boxes_blk w (.slice fa frs.length fcap) (.slice ea ens.length ecap) (.slice qa qus.length qcap)
      go_enter Tryd.func31, Tryd.ntmps31
      go_wp2_with (first
        | (go_at_call 55; refine (h1 _ (B2 _ _).out).mono ?_; rintro x w1 ⟨rfl, hb1⟩; obtain ⟨AB, RB⟩ := CF.out w1 hb1; have HAB1 : Hid (_) := AB; have HRB1 : Hid (_) := RB; have HB1 : Hid (Below w.heap.size w w1) := (HX _ _ _).out hb1; obtain ⟨m0, m1, m2, _, _, _, ml⟩ := box_cells AB; clear hb1 CF AB RB)
        | (go_at_call 56; refine (h4 _ HB1.out).mono ?_; rintro x w2 ⟨rfl, hb2⟩; have HAB2 : Hid (_) := ((hb2.block _ (Array.getElem?_eq_some_iff.1 HAB1.out).1).trans HAB1.out); have HRB2 : Hid (_) := ((hb2.block _ (Array.getElem?_eq_some_iff.1 HRB1.out).1).trans HRB1.out); have HB2 : Hid (Below w.heap.size w w2) := HB1.out.trans (hb2.mono HB1.out.size); clear m0 m1 m2 ml; obtain ⟨m0, m1, m2, _, _, _, ml⟩ := box_cells HAB2.out; clear hb2 HAB1 HRB1; obtain ⟨r0, r1, r2, rf0, rf1, rf2, rl⟩ := box_cells HRB2.out)
        | fail)
      obtain ⟨k0, k1, k2⟩ := blk3 (v0 := .slice none 0 0) (v1 := .slice none 0 0) (v2 := .slice none 0 0) r0 r1 r2
      (try simp only [Exit.inBlock, Exit.then])
      refine bodyPost_ret (by simp [results, Tryd.results31, go_sem, k0, k1, k2]; try rfl) rfl ?_
      exact ⟨noM, rfl, Mv.Same.refl _, noM_own _ _, blk3_below HB2.out (by omega)⟩
    · obtain ⟨eF, eM⟩ := meaM_log hz (by rw [hp]; omega)
      have hms : meaS M e a = heldS a (M.frs.getD k default).ws := by unfold meaS; rw [hp, Int.toNat_natCast]
      rw [hms] at eF eM
      obtain ⟨hz0, m, rfl, hm4, _, _⟩ := askF_zero hz
      rw [show ((m : Int) + 1 - 1).toNat = m by omega] at eF eM
      have HS24 : Hid (M.frs.length = 24) := (machF_sizes hz0).1
      have HS4 : Hid (M.ens.length = 4) := (machF_sizes hz0).2.1
      have hk24 : k < 24 := by have := HS24.out; omega
      have hki : (k : Int) < 24 := by omega
      obtain ⟨ia, iw⟩ := place_page hz0 hk24 hpl
      have hok := hM.frok k hk
      have hge : ¬ ((k : Int) < 0) := by omega
      obtain ⟨fb, fo, hfa, hfr⟩ := fr_at hM (j := k) hk
      have hown := fun w1 (h : Below w.heap.size w w1) => (hfr w1 h).2
      rw [hp] at h4
      have h8 : (M.frs.getD k default).ws.length = 8 := (machF_words hz0 hk24).1
      have hss := heldS_size a _ wa hok.wws h8
      have h5 := fun w' (h : Below w.heap.size w w') => heldText_any a (M.frs.getD k default).a (M.frs.getD k default).ws (M.frs.getD k default).cap w' hok.len (hok.ints.below h)
      have hV : heldV a (M.frs.getD k default).ws = .tuple #[.string (heldS a (M.frs.getD k default).ws), .int .i64 0] := by unfold heldV; rw [if_pos ia, if_pos iw]
      rw [hV] at h5
      obtain ⟨s, HSS⟩ : ∃ s, Hid (heldS a (M.frs.getD k default).ws = s) := ⟨_, rfl⟩
      rw [HSS.out] at eF eM h5 hss
      have hs6 : s.size ≤ 1000000 := by omega
      clear hV hms hfr ia iw hF0
      generalize (M.frs.getD k default).ws.length = wl at h5 hown
      generalize (M.frs.getD k default).a = wad at h5 hown
      generalize (M.frs.getD k default).cap = wcap at h5 hown
      obtain ⟨eb, eo, hea, hl1, hlg⟩ := lg_at hM hz0 hm4
      have hwm : IntKind.i64.wrap ((m : Int) + 1 - 1) = (m : Int) := by rw [IntKind.wrap_i64]; omega
      have hm4i : (m : Int) < 4 := by omega
      have hE : logF M m s = if (M.ens.getD m default).log.size + s.size > 1000 then 7 else 0 := rfl
      have hL : logM M m s = if logF M m s = 0 then { M with ens := M.ens.set m ((M.ens.getD m default).withLog s) } else noM := rfl
      obtain ⟨E, hEE⟩ : ∃ E, Hid (M.ens.getD m default = E) := ⟨_, rfl⟩
      rw [hEE.out] at hl1 hlg hE hL
      obtain ⟨lg, HLG⟩ : ∃ lg, Hid (E.log = lg) := ⟨_, rfl⟩
      rw [HLG.out] at hl1 hlg hE
      have hw : IntKind.i64.wrap ((lg.size : Int) + (s.size : Int)) = (lg.size : Int) + (s.size : Int) := by rw [IntKind.wrap_i64]; omega
      by_cases hc : lg.size + s.size > 1000
      · rw [if_pos hc] at hE
        rw [hE, if_neg (by decide)] at hL
        rw [hE] at eF
        have hc' : (1000 : Int) < (lg.size : Int) + (s.size : Int) := by omega
        have e1 : rf = 7 := by rw [hrf.out, eF]
        have RN : RM = noM := by rw [hRM.out, eM, hL]
        subst RN e1
        clear hRM hrf hM hF hz hz0 hE hL hl1 h2 hc hp hpl hk hok hss hs6 eF eM h8 wa
        unfold Mv.val at h1 h4 ⊢
        obtain ⟨fa, frs, fcap, ea, ens, ecap, qa, qus, qcap⟩ := M
        dsimp only at *
        have B2 : ∀ o1 o2, Hid (Below w.heap.size w ((w.alloc o1).alloc o2)) := fun o1 o2 => a2B _ _ _
        have HX : ∀ o1 o2 w1, Hid (Below ((w.alloc o1).alloc o2).heap.size ((w.alloc o1).alloc o2) w1 → Below w.heap.size w w1) := fun o1 o2 w1 h => (B2 o1 o2).out.trans (h.mono (by simp; omega))
        have CF : Hid (_) := boxes_blk w (.slice fa frs.length fcap) (.slice ea ens.length ecap) (.slice qa qus.length qcap)
        subst hfa
        cases hea
        rw [HS24.out, HS4.out] at h1 h4 CF ⊢
        go_enter Tryd.func31, Tryd.ntmps31
        go_wp2_with (first
          | (go_at_call 55; refine (h1 _ (B2 _ _).out).mono ?_; rintro x w1 ⟨rfl, hb1⟩; obtain ⟨AB, RB⟩ := CF.out w1 hb1; have HAB1 : Hid (_) := AB; have HRB1 : Hid (_) := RB; have HB1 : Hid (Below w.heap.size w w1) := (HX _ _ _).out hb1; obtain ⟨m0, m1, m2, _, _, _, ml⟩ := box_cells AB; clear hb1 CF AB RB)
          | (go_at_call 56; refine (h4 _ HB1.out).mono ?_; rintro x w2 ⟨rfl, hb2⟩; have HAB2 : Hid (_) := ((hb2.block _ (Array.getElem?_eq_some_iff.1 HAB1.out).1).trans HAB1.out); have HRB2 : Hid (_) := ((hb2.block _ (Array.getElem?_eq_some_iff.1 HRB1.out).1).trans HRB1.out); have HB2 : Hid (Below w.heap.size w w2) := HB1.out.trans (hb2.mono HB1.out.size); clear m0 m1 m2 ml; obtain ⟨m0, m1, m2, _, _, _, ml⟩ := box_cells HAB2.out; clear hb2 HAB1 HRB1; have t0 := hown _ HB2.out)
          | (go_at_call 16; refine (h5 _ HB2.out).mono ?_; rintro x w3 ⟨rfl, hb3⟩; have HAB3 : Hid (_) := ((hb3.block _ (Array.getElem?_eq_some_iff.1 HAB2.out).1).trans HAB2.out); have HRB3 : Hid (_) := ((hb3.block _ (Array.getElem?_eq_some_iff.1 HRB2.out).1).trans HRB2.out); have HB3 : Hid (Below w.heap.size w w3) := HB2.out.trans (hb3.mono HB2.out.size); clear m0 m1 m2 ml; obtain ⟨m0, m1, m2, _, _, _, ml⟩ := box_cells HAB3.out; clear hb3 HAB2 HRB2; obtain ⟨r0, r1, r2, rf0, rf1, rf2, rl⟩ := box_cells HRB3.out; have l0 := hlg _ HB3.out)
          | fail)
        obtain ⟨k0, k1, k2⟩ := blk3 (v0 := .slice none 0 0) (v1 := .slice none 0 0) (v2 := .slice none 0 0) r0 r1 r2
        (try simp only [Exit.inBlock, Exit.then])
        refine bodyPost_ret (by simp [results, Tryd.results31, go_sem, k0, k1, k2]; try rfl) rfl ?_
        exact ⟨noM, rfl, Mv.Same.refl _, noM_own _ _, blk3_below HB3.out (by omega)⟩
      · rw [if_neg hc] at hE
        rw [hE, if_pos rfl] at hL
        rw [hE] at eF
        have hc' : ¬ ((1000 : Int) < (lg.size : Int) + (s.size : Int)) := by omega
        have e1 : rf = 0 := by rw [hrf.out, eF]
        have RN : Hid (RM = _) := hRM.out.trans (eM.trans hL)
        have HSZ : Hid (_) := And.intro hs6 hl1
        subst e1
        clear hRM hrf hM hF hz hz0 hE hL hl1 hc hp hpl hk hok hss hs6 eF eM h8 wa
        unfold Mv.val at h1 h4 h2 ⊢
        obtain ⟨fa, frs, fcap, ea, ens, ecap, qa, qus, qcap⟩ := M
        dsimp only at *
        have B2 : ∀ o1 o2, Hid (Below w.heap.size w ((w.alloc o1).alloc o2)) := fun o1 o2 => a2B _ _ _
        have HX : ∀ o1 o2 w1, Hid (Below ((w.alloc o1).alloc o2).heap.size ((w.alloc o1).alloc o2) w1 → Below w.heap.size w w1) := fun o1 o2 w1 h => (B2 o1 o2).out.trans (h.mono (by simp; omega))
        have CF : Hid (_) := boxes_blk w (.slice fa frs.length fcap) (.slice ea ens.length ecap) (.slice qa qus.length qcap)
        subst hfa
        cases hea
        rw [HS24.out, HS4.out] at h1 h4 h2 CF ⊢
        go_enter Tryd.func31, Tryd.ntmps31
        go_upto_region 13 with (first
          | (go_at_call 55; refine (h1 _ (B2 _ _).out).mono ?_; rintro x w1 ⟨rfl, hb1⟩; obtain ⟨AB, RB⟩ := CF.out w1 hb1; have HAB1 : Hid (_) := AB; have HRB1 : Hid (_) := RB; have HB1 : Hid (Below w.heap.size w w1) := (HX _ _ _).out hb1; obtain ⟨m0, m1, m2, _, _, _, ml⟩ := box_cells AB; clear hb1 CF AB RB)
          | (go_at_call 56; refine (h4 _ HB1.out).mono ?_; rintro x w2 ⟨rfl, hb2⟩; have HAB2 : Hid (_) := ((hb2.block _ (Array.getElem?_eq_some_iff.1 HAB1.out).1).trans HAB1.out); have HRB2 : Hid (_) := ((hb2.block _ (Array.getElem?_eq_some_iff.1 HRB1.out).1).trans HRB1.out); have HB2 : Hid (Below w.heap.size w w2) := HB1.out.trans (hb2.mono HB1.out.size); clear m0 m1 m2 ml; obtain ⟨m0, m1, m2, _, _, _, ml⟩ := box_cells HAB2.out; clear hb2 HAB1 HRB1; have t0 := hown _ HB2.out)
          | (go_at_call 16; refine (h5 _ HB2.out).mono ?_; rintro x w3 ⟨rfl, hb3⟩; have HAB3 : Hid (_) := ((hb3.block _ (Array.getElem?_eq_some_iff.1 HAB2.out).1).trans HAB2.out); have HRB3 : Hid (_) := ((hb3.block _ (Array.getElem?_eq_some_iff.1 HRB2.out).1).trans HRB2.out); have HB3 : Hid (Below w.heap.size w w3) := HB2.out.trans (hb3.mono HB2.out.size); clear m0 m1 m2 ml; obtain ⟨m0, m1, m2, _, _, _, ml⟩ := box_cells HAB3.out; clear hb3 HAB2 HRB2; have l0 := hlg _ HB3.out)
          | (go_at_call 24; refine (h2 _ HB3.out).mono ?_; rintro x w4 ⟨N, rfl, hS, hO, hb4⟩; obtain ⟨nfa, nfrs, nfcap, nea, nens, necap, nqa, nqus, nqcap⟩ := N; have HSN : Hid (_) := hS; have HON : Hid (_) := hO; have HB34 : Hid (_) := hb4; have HRL : Hid (w.heap.size + 1 < w3.heap.size) := (Array.getElem?_eq_some_iff.1 HRB3.out).1; have HRB4 : Hid (_) := ((hb4.block _ HRL.out).trans HRB3.out); have HB4 : Hid (Below w.heap.size w w4) := HB3.out.trans (hb4.mono HB3.out.size); have eN := hS.en; dsimp only at eN; subst eN; rw [HS4.out]; clear hS hO hb4 m0 m1 m2 ml HAB3 HRB3 l0 t0; dsimp only)
          | fail)
        obtain ⟨W6, hW6⟩ : ∃ W6, Hid (W6 = w4.alloc (.cells #[.slice nfa nfrs.length nfcap, .slice nea 4 necap, .slice nqa nqus.length nqcap] 51)) := ⟨_, rfl⟩
        rw [← hW6.out]
        have HBX6 : Hid (W6.heap[w4.heap.size]? = some (.cells #[.slice nfa nfrs.length nfcap, .slice nea 4 necap, .slice nqa nqus.length nqcap] 51 (0, 0))) := by show _ = _; rw [hW6.out]; exact a11 _ _
        have HR6 : Hid (W6.heap[w.heap.size + 1]? = some (.cells #[.slice none 0 0, .slice none 0 0, .slice none 0 0] 51 (0, 0))) := by show _ = _; rw [hW6.out, Below.heap_alloc _ _ _ (by have := HRL.out; have := HB34.out.size; omega)]; exact HRB4.out
        have HB6 : Hid (Below w.heap.size w W6) := by show Below _ _ _; rw [hW6.out]; exact HB4.out.alloc HB4.out.size _
        have HO6 : Hid (Owned w3.heap.size W6 _) := HON.out.below (w' := W6) (by rw [hW6.out]; exact (Below.refl _ _).alloc (Nat.le_refl _) _)
        obtain ⟨y0, y1, y2, _, _, _, yl⟩ := box_cells HBX6.out
        obtain ⟨xb, xo, hxa, _, t1, _⟩ := HO6.out.at_.enclave (j := m) (by dsimp only; have := HS4.out; omega)
        dsimp only at hxa t1
        subst hxa
        rw [hEE.out, HLG.out] at t1
        have nn := HO6.out.ne xb xo none rfl
        have ef1 : W6.frozen? ⟨xb, xo + m * 7 + 1, none⟩ = false := nn.2.2 _
        have el : xb < W6.heap.size := nn.2.1
        have HXB : Hid (w3.heap.size ≤ xb ∧ xb < w4.heap.size) := ⟨nn.1, (HON.out.ne xb xo none rfl).2.1⟩
        have hok := HO6.out.at_.enok m (by dsimp only; have := HS4.out; omega)
        dsimp only at hok
        rw [hEE.out] at hok
        have HOK : Hid (_) := hok
        clear nn hok hW6 HRB4 HON h1 h2 h4 h5 hown hlg HX B2
        go_big_region
        have HO7 := HO6.out.setEn (k := m) (i0 := 1) (e' := E.withLog s) (v := .string (lg ++ s)) rfl (by dsimp only; have := HS4.out; omega) (by omega) ⟨HOK.out.wst, by show (E.log ++ s).size ≤ maxLen; rw [HLG.out, ByteArray.size_append]; unfold maxLen; have := HSZ.out; omega, HOK.out.wpc, HOK.out.w0, HOK.out.w1, HOK.out.w2, HOK.out.w3⟩ (fun i hi => by
          dsimp only
          rw [hEE.out, ← HLG.out]
          match i, hi with
          | 0, _ => rfl
          | 1, _ => rfl
          | 2, _ => rfl
          | 3, _ => rfl
          | 4, _ => rfl
          | 5, _ => rfl
          | 6, _ => rfl)
        dsimp only at HO7
        have HB7 : Below w.heap.size w (W6.setCell ⟨xb, xo + m * 7 + 1, none⟩ (.string (lg ++ s))) := HB6.out.setCell (by have := HXB.out; have := HRL.out; dsimp only; omega) _
        have k7 := fun b (hb : b ≠ xb) => Below.heap_setCell W6 ⟨xb, xo + m * 7 + 1, none⟩ (.string (lg ++ s)) b hb
        obtain ⟨W7, hW7⟩ : ∃ W7, Hid (W7 = (W6.setCell ⟨xb, xo + m * 7 + 1, none⟩ (.string (lg ++ s))).drew) := ⟨_, rfl⟩
        rw [← hW7.out]
        have HO8 : Hid (Owned w3.heap.size W7 _) := HO7.keep (w' := W7) (fun b _ _ => by rw [hW7.out]; rfl) (by rw [hW7.out]; exact Nat.le_refl _)
        have HB8 : Hid (Below w.heap.size w W7) := by show Below _ _ _; rw [hW7.out]; exact HB7.drew
        have HBX8 : W7.heap[w4.heap.size]? = some (.cells #[.slice nfa nfrs.length nfcap, .slice (some ⟨xb, xo, none⟩) 4 necap, .slice nqa nqus.length nqcap] 51 (0, 0)) := by rw [hW7.out]; exact (k7 w4.heap.size (by have := HXB.out; omega)).trans HBX6.out
        have HR8 : W7.heap[w.heap.size + 1]? = some (.cells #[.slice none 0 0, .slice none 0 0, .slice none 0 0] 51 (0, 0)) := by rw [hW7.out]; exact (k7 (w.heap.size + 1) (by have := HXB.out; have := HRL.out; omega)).trans HR6.out
        clear y0 y1 y2 yl t1 ef1 el
        obtain ⟨y0, y1, y2, _, _, _, yl⟩ := box_cells HBX8
        obtain ⟨r0, r1, r2, rf0, rf1, rf2, rl⟩ := box_cells HR8
        clear hW7 k7 HBX8 HR8 HO7 HB7 HBX6 HR6 HO6
        go_wp2
        obtain ⟨k0, k1, k2⟩ := blk3 (v0 := .slice nfa nfrs.length nfcap) (v1 := .slice (some ⟨xb, xo, none⟩) 4 necap) (v2 := .slice nqa nqus.length nqcap) r0 r1 r2
        (try simp only [Exit.inBlock, Exit.then])
        refine bodyPost_ret (by simp [results, Tryd.results31, go_sem, k0, k1, k2]; try rfl) rfl ?_
        exact ⟨⟨nfa, nfrs, nfcap, some ⟨xb, xo, none⟩, nens.set m (E.withLog s), necap, nqa, nqus, nqcap⟩, by simp [HS4.out], by rw [RN.out]; exact ⟨HSN.out.len, HSN.out.fr, rfl, HSN.out.qu⟩, (HO8.out.keep (fun b hb _ => blk3_heap b (by have := HRL.out; omega)) (by rw [blk3_size]; exact Nat.le_refl _)).mono HB3.out.size, blk3_below HB8.out (by omega)⟩
  · have hz1 : (askF M e 1 != 0) = true := by simpa using hz
    have hz2 : (askF M e 1 == 0) = false := by simpa using hz
    have e1 : rf = askF M e 1 := by rw [hrf.out, hF0, if_neg hz]
    have RN : RM = noM := by rw [hRM.out]; exact meaM_bad (by rw [hF0, if_neg hz]; exact hz)
    subst RN e1
    clear hRM hrf hF0 hM hF hz h2
    generalize askF M e 1 = z at h1 hz1 hz2 ⊢
    generalize placeOf M.frs e a = pl at h4
    unfold Mv.val at h1 h4 ⊢
    obtain ⟨fa, frs, fcap, ea, ens, ecap, qa, qus, qcap⟩ := M
    dsimp only at *
    have B2 : ∀ o1 o2, Hid (Below w.heap.size w ((w.alloc o1).alloc o2)) := fun o1 o2 => a2B _ _ _
    have HX : ∀ o1 o2 w1, Hid (Below ((w.alloc o1).alloc o2).heap.size ((w.alloc o1).alloc o2) w1 → Below w.heap.size w w1) := fun o1 o2 w1 h => (B2 o1 o2).out.trans (h.mono (by simp; omega))
    have CF : Hid (_) := boxes_blk w (.slice fa frs.length fcap) (.slice ea ens.length ecap) (.slice qa qus.length qcap)
    go_enter Tryd.func31, Tryd.ntmps31
    go_wp2_with (first
      | (go_at_call 55; refine (h1 _ (B2 _ _).out).mono ?_; rintro x w1 ⟨rfl, hb1⟩; obtain ⟨AB, RB⟩ := CF.out w1 hb1; have HAB1 : Hid (_) := AB; have HRB1 : Hid (_) := RB; have HB1 : Hid (Below w.heap.size w w1) := (HX _ _ _).out hb1; obtain ⟨m0, m1, m2, _, _, _, ml⟩ := box_cells AB; clear hb1 CF AB RB)
      | (go_at_call 56; refine (h4 _ HB1.out).mono ?_; rintro x w2 ⟨rfl, hb2⟩; have HAB2 : Hid (_) := ((hb2.block _ (Array.getElem?_eq_some_iff.1 HAB1.out).1).trans HAB1.out); have HRB2 : Hid (_) := ((hb2.block _ (Array.getElem?_eq_some_iff.1 HRB1.out).1).trans HRB1.out); have HB2 : Hid (Below w.heap.size w w2) := HB1.out.trans (hb2.mono HB1.out.size); clear m0 m1 m2 ml; obtain ⟨m0, m1, m2, _, _, _, ml⟩ := box_cells HAB2.out; clear hb2 HAB1 HRB1; obtain ⟨r0, r1, r2, rf0, rf1, rf2, rl⟩ := box_cells HRB2.out)
      | fail)
    obtain ⟨k0, k1, k2⟩ := blk3 (v0 := .slice none 0 0) (v1 := .slice none 0 0) (v2 := .slice none 0 0) r0 r1 r2
    (try simp only [Exit.inBlock, Exit.then])
    refine bodyPost_ret (by simp [results, Tryd.results31, go_sem, k0, k1, k2]; try rfl) rfl ?_
    exact ⟨noM, rfl, Mv.Same.refl _, noM_own _ _, blk3_below HB2.out (by omega)⟩

end Go.Proofs.YtdbbiibnhgcndaaDoor
