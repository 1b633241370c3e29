/-
  What the call Measure (epc) answers for every machine, enclave and place: what the document asks, in memory of its own; it turns nothing that was in memory. The conditions: the lists are within the reach of the form; the library's tables are laid.
-/
import Derived.Test.YtdbbiibnhgcndaaDoorMeasMath
namespace Go.Proofs.YtdbbiibnhgcndaaDoor
open Go.RowKit

set_option maxRecDepth 100000 in
set_option maxHeartbeats 4000000 in
theorem measure_any (M : Mv) (e a : Int) (w : World) (hM : MachAt w M) (hF : M.Fits) (wa : (Lit.int .i64 a).wf = true) (ht : Tab w) :
    Calls Tryd.prog 30 #[M.val, .int .i64 e, .int .i64 a] w fun x w' => ∃ N : Mv, x = .returned (.tuple #[N.val, .int .i64 (meaF M e a)]) ∧ N.Same (meaM M e a) ∧ Owned w.heap.size w' N ∧ Below w.heap.size w w' := by
  have h1 := fun w' (h : Below w.heap.size w w') => checkOpened_any M e w' (hM.below h)
  have h4 := fun w' (h : Below w.heap.size w w') => place_any M e a w' (hM.below h)
  obtain ⟨RM, hRM⟩ : ∃ RM, Hid (RM = meaM M e a) := ⟨_, rfl⟩
  obtain ⟨rf, hrf⟩ : ∃ rf, Hid (rf = meaF M e a) := ⟨_, rfl⟩
  rw [← hRM.out, ← hrf.out]
  have hF0 : meaF M e a = if askF M e 1 = 0 then (if placeOf M.frs e a < 0 then 5 else logF M (e - 1).toNat (meaS M e a)) else askF M e 1 := rfl
  by_cases hz : askF M e 1 = 0
  · rw [if_pos hz] at hF0
    rw [hz] at h1
    rcases place_cases M.frs e a with hp | ⟨k, hp, hk, hpl⟩
    · rw [hp, if_pos (by decide)] at hF0
      rw [hp] at h4
      have e1 : rf = 5 := by rw [hrf.out, hF0]
      have RN : RM = noM := by rw [hRM.out]; exact meaM_bad (by rw [hF0]; decide)
      subst RN e1
      clear hRM hrf hF0 hM hF hz hp ht
      unfold Mv.val at h1 h4 ⊢
      obtain ⟨fa, frs, fcap, ea, ens, ecap, qa, qus, qcap⟩ := M
      dsimp only at *
      have B2 : ∀ o1 o2, Hid (Below w.heap.size w ((w.alloc o1).alloc o2)) := fun o1 o2 => a2B _ _ _
      have HX : ∀ o1 o2 w1, Hid (Below ((w.alloc o1).alloc o2).heap.size ((w.alloc o1).alloc o2) w1 → Below w.heap.size w w1) := fun o1 o2 w1 h => (B2 o1 o2).out.trans (h.mono (by simp; omega))
      have CF : Hid (_) := boxes_blk w (.slice fa frs.length fcap) (.slice ea ens.length ecap) (.slice qa qus.length qcap)
      go_enter Tryd.func30, Tryd.ntmps30
      go_wp2_with (first
        | (go_at_call 51; refine (h1 _ (B2 _ _).out).mono ?_; rintro x w1 ⟨rfl, hb1⟩; obtain ⟨AB, RB⟩ := CF.out w1 hb1; have HAB1 : Hid (_) := AB; have HRB1 : Hid (_) := RB; have HB1 : Hid (Below w.heap.size w w1) := (HX _ _ _).out hb1; obtain ⟨m0, m1, m2, _, _, _, ml⟩ := box_cells AB; clear hb1 CF AB RB)
        | (go_at_call 53; refine (h4 _ HB1.out).mono ?_; rintro x w2 ⟨rfl, hb2⟩; have HAB2 : Hid (_) := ((hb2.block _ (Array.getElem?_eq_some_iff.1 HAB1.out).1).trans HAB1.out); have HRB2 : Hid (_) := ((hb2.block _ (Array.getElem?_eq_some_iff.1 HRB1.out).1).trans HRB1.out); have HB2 : Hid (Below w.heap.size w w2) := HB1.out.trans (hb2.mono HB1.out.size); clear m0 m1 m2 ml; obtain ⟨m0, m1, m2, _, _, _, ml⟩ := box_cells HAB2.out; clear hb2 HAB1 HRB1; obtain ⟨r0, r1, r2, rf0, rf1, rf2, rl⟩ := box_cells HRB2.out)
        | fail)
      obtain ⟨k0, k1, k2⟩ := blk3 (v0 := .slice none 0 0) (v1 := .slice none 0 0) (v2 := .slice none 0 0) r0 r1 r2
      (try simp only [Exit.inBlock, Exit.then])
      refine bodyPost_ret (by simp [results, Tryd.results30, go_sem, k0, k1, k2]; try rfl) rfl ?_
      exact ⟨noM, rfl, Mv.Same.refl _, noM_own _ _, blk3_below HB2.out (by omega)⟩
    · obtain ⟨eF, eM⟩ := meaM_log hz (by rw [hp]; omega)
      have hms : meaS M e a = heldS a (M.frs.getD k default).ws := by unfold meaS; rw [hp, Int.toNat_natCast]
      rw [hms] at eF eM
      obtain ⟨hz0, m, rfl, hm4, _, _⟩ := askF_zero hz
      rw [show ((m : Int) + 1 - 1).toNat = m by omega] at eF eM
      have HS24 : Hid (M.frs.length = 24) := (machF_sizes hz0).1
      have HS4 : Hid (M.ens.length = 4) := (machF_sizes hz0).2.1
      have hk24 : k < 24 := by have := HS24.out; omega
      have hki : (k : Int) < 24 := by omega
      obtain ⟨ia, iw⟩ := place_page hz0 hk24 hpl
      have hok := hM.frok k hk
      have hge : ¬ ((k : Int) < 0) := by omega
      obtain ⟨fb, fo, hfa, hfr⟩ := fr_at hM (j := k) hk
      have hown := fun w1 (h : Below w.heap.size w w1) => (hfr w1 h).2
      rw [hp] at h4
      have h8 : (M.frs.getD k default).ws.length = 8 := (machF_words hz0 hk24).1
      have hss := heldS_size a _ wa hok.wws h8
      have h5 := fun w' (h : Below w.heap.size w w') => held_any a (M.frs.getD k default).a (M.frs.getD k default).ws (M.frs.getD k default).cap w' wa hok.len (hok.ints.below h) (ht.below h)
      have hV : heldV a (M.frs.getD k default).ws = .tuple #[.string (heldS a (M.frs.getD k default).ws), .int .i64 0] := by unfold heldV; rw [if_pos ia, if_pos iw]
      rw [hV] at h5
      obtain ⟨s, HSS⟩ : ∃ s, Hid (heldS a (M.frs.getD k default).ws = s) := ⟨_, rfl⟩
      rw [HSS.out] at eF eM h5 hss
      have hs6 : s.size ≤ 1000000 := by omega
      clear hV hms hfr ia iw hF0
      generalize (M.frs.getD k default).ws.length = wl at h5 hown
      generalize (M.frs.getD k default).a = wad at h5 hown
      generalize (M.frs.getD k default).cap = wcap at h5 hown
      have h6 := fun w' (h : Below w.heap.size w w') => logged_any M m s w' (hM.below h) hF hz0 hm4 hs6
      have e1 : rf = logF M m s := by rw [hrf.out, eF]
      have RN : Hid (RM = logM M m s) := by show _ = _; rw [hRM.out, eM]
      rw [← RN.out] at h6
      subst e1
      clear hRM hrf hM hF hz hz0 hp hpl hk hok hss hs6 eF eM h8 ht wa
      generalize logF M m s = z at h6 ⊢
      unfold Mv.val at h1 h4 h6 ⊢
      obtain ⟨fa, frs, fcap, ea, ens, ecap, qa, qus, qcap⟩ := M
      dsimp only at *
      have B2 : ∀ o1 o2, Hid (Below w.heap.size w ((w.alloc o1).alloc o2)) := fun o1 o2 => a2B _ _ _
      have HX : ∀ o1 o2 w1, Hid (Below ((w.alloc o1).alloc o2).heap.size ((w.alloc o1).alloc o2) w1 → Below w.heap.size w w1) := fun o1 o2 w1 h => (B2 o1 o2).out.trans (h.mono (by simp; omega))
      have CF : Hid (_) := boxes_blk w (.slice fa frs.length fcap) (.slice ea ens.length ecap) (.slice qa qus.length qcap)
      subst hfa
      rw [HS24.out] at h1 h4 h6 CF ⊢
      go_enter Tryd.func30, Tryd.ntmps30
      go_wp2_with (first
        | (go_at_call 51; refine (h1 _ (B2 _ _).out).mono ?_; rintro x w1 ⟨rfl, hb1⟩; obtain ⟨AB, RB⟩ := CF.out w1 hb1; have HAB1 : Hid (_) := AB; have HRB1 : Hid (_) := RB; have HB1 : Hid (Below w.heap.size w w1) := (HX _ _ _).out hb1; obtain ⟨m0, m1, m2, _, _, _, ml⟩ := box_cells AB; clear hb1 CF AB RB)
        | (go_at_call 53; refine (h4 _ HB1.out).mono ?_; rintro x w2 ⟨rfl, hb2⟩; have HAB2 : Hid (_) := ((hb2.block _ (Array.getElem?_eq_some_iff.1 HAB1.out).1).trans HAB1.out); have HRB2 : Hid (_) := ((hb2.block _ (Array.getElem?_eq_some_iff.1 HRB1.out).1).trans HRB1.out); have HB2 : Hid (Below w.heap.size w w2) := HB1.out.trans (hb2.mono HB1.out.size); clear m0 m1 m2 ml; obtain ⟨m0, m1, m2, _, _, _, ml⟩ := box_cells HAB2.out; clear hb2 HAB1 HRB1; have t0 := hown _ HB2.out)
        | (go_at_call 15; refine (h5 _ HB2.out).mono ?_; rintro x w3 ⟨rfl, hb3⟩; have HAB3 : Hid (_) := ((hb3.block _ (Array.getElem?_eq_some_iff.1 HAB2.out).1).trans HAB2.out); have HRB3 : Hid (_) := ((hb3.block _ (Array.getElem?_eq_some_iff.1 HRB2.out).1).trans HRB2.out); have HB3 : Hid (Below w.heap.size w w3) := HB2.out.trans (hb3.mono HB2.out.size); clear m0 m1 m2 ml; obtain ⟨m0, m1, m2, _, _, _, ml⟩ := box_cells HAB3.out; clear hb3 HAB2 HRB2)
        | (go_at_call 54; refine (h6 _ HB3.out).mono ?_; rintro x w4 ⟨N, rfl, hS, hO, hb4⟩; obtain ⟨nfa, nfrs, nfcap, nea, nens, necap, nqa, nqus, nqcap⟩ := N; have HSN : Hid (_) := hS; have HON : Hid (_) := hO; have HB34 : Hid (_) := hb4; have HRL : Hid (w.heap.size + 1 < w3.heap.size) := (Array.getElem?_eq_some_iff.1 HRB3.out).1; have HB4 : Hid (Below w.heap.size w w4) := HB3.out.trans (hb4.mono HB3.out.size); obtain ⟨r0, r1, r2, rf0, rf1, rf2, rl⟩ := box_cells ((hb4.block _ HRL.out).trans HRB3.out); clear hS hO hb4 m0 m1 m2 ml HAB3 HRB3; dsimp only)
        | fail)
      obtain ⟨k0, k1, k2⟩ := blk3 (v0 := .slice nfa nfrs.length nfcap) (v1 := .slice nea nens.length necap) (v2 := .slice nqa nqus.length nqcap) r0 r1 r2
      (try simp only [Exit.inBlock, Exit.then])
      refine bodyPost_ret (by simp [results, Tryd.results30, go_sem, k0, k1, k2]; try rfl) rfl ?_
      exact ⟨⟨nfa, nfrs, nfcap, nea, nens, necap, nqa, nqus, nqcap⟩, rfl, HSN.out, (HON.out.keep (fun b hb _ => blk3_heap b (by have := HRL.out; omega)) (by rw [blk3_size]; exact Nat.le_refl _)).mono HB3.out.size, blk3_below HB4.out (by omega)⟩
  · have hz1 : (askF M e 1 != 0) = true := by simpa using hz
    have hz2 : (askF M e 1 == 0) = false := by simpa using hz
    have e1 : rf = askF M e 1 := by rw [hrf.out, hF0, if_neg hz]
    have RN : RM = noM := by rw [hRM.out]; exact meaM_bad (by rw [hF0, if_neg hz]; exact hz)
    subst RN e1
    clear hRM hrf hF0 hM hF hz ht h4
    generalize askF M e 1 = z at h1 hz1 hz2 ⊢
    unfold Mv.val at h1 ⊢
    obtain ⟨fa, frs, fcap, ea, ens, ecap, qa, qus, qcap⟩ := M
    dsimp only at *
    have B2 : ∀ o1 o2, Hid (Below w.heap.size w ((w.alloc o1).alloc o2)) := fun o1 o2 => a2B _ _ _
    have HX : ∀ o1 o2 w1, Hid (Below ((w.alloc o1).alloc o2).heap.size ((w.alloc o1).alloc o2) w1 → Below w.heap.size w w1) := fun o1 o2 w1 h => (B2 o1 o2).out.trans (h.mono (by simp; omega))
    have CF : Hid (_) := boxes_blk w (.slice fa frs.length fcap) (.slice ea ens.length ecap) (.slice qa qus.length qcap)
    go_enter Tryd.func30, Tryd.ntmps30
    go_wp2_with (first
      | (go_at_call 51; refine (h1 _ (B2 _ _).out).mono ?_; rintro x w1 ⟨rfl, hb1⟩; obtain ⟨AB, RB⟩ := CF.out w1 hb1; have HAB1 : Hid (_) := AB; have HRB1 : Hid (_) := RB; have HB1 : Hid (Below w.heap.size w w1) := (HX _ _ _).out hb1; obtain ⟨m0, m1, m2, _, _, _, ml⟩ := box_cells AB; clear hb1 CF AB RB; obtain ⟨r0, r1, r2, rf0, rf1, rf2, rl⟩ := box_cells HRB1.out)
      | fail)
    obtain ⟨k0, k1, k2⟩ := blk3 (v0 := .slice none 0 0) (v1 := .slice none 0 0) (v2 := .slice none 0 0) r0 r1 r2
    (try simp only [Exit.inBlock, Exit.then])
    refine bodyPost_ret (by simp [results, Tryd.results30, go_sem, k0, k1, k2]; try rfl) rfl ?_
    exact ⟨noM, rfl, Mv.Same.refl _, noM_own _ _, blk3_below HB1.out (by omega)⟩

end Go.Proofs.YtdbbiibnhgcndaaDoor
