/-
  What the call logged (epc) answers for a machine that may be, an enclave of it, and a text: the machine with the text behind the enclave's Log, in memory of its own, or that there is no room. The conditions: the lists are within the reach of the form; the text is short.
-/
import Derived.Test.YtdbbiibnhgcndaaDoorBoxes
namespace Go.Proofs.YtdbbiibnhgcndaaDoor
open Go.RowKit

/-- is there room for a text behind a Log? -/
def logF (M : Mv) (m : Nat) (s : ByteArray) : Int := if (M.ens.getD m default).log.size + s.size > 1000 then 7 else 0
def logM (M : Mv) (m : Nat) (s : ByteArray) : Mv := if logF M m s = 0 then { M with ens := M.ens.set m ((M.ens.getD m default).withLog s) } else noM
theorem lg_at {M : Mv} {w : World} (hM : MachAt w M) (hz : machF M = 0) {m : Nat} (hm : m < 4) :
    ∃ eb eo, M.ea = some ⟨eb, eo, none⟩ ∧ (M.ens.getD m default).log.size ≤ 1000 ∧ ∀ w1, Below w.heap.size w w1 → w1.cell? ⟨eb, eo + m * 7 + 1, none⟩ = some (.string (M.ens.getD m default).log) := by
  have hs := (machF_sizes hz).2.1
  obtain ⟨eb, eo, e, _, c1, _⟩ := hM.enclave (j := m) (by omega)
  have hg := List.all_eq_true.1 (machF_all hz).1 (M.ens.getD m default) (by have : m < M.ens.length := by omega
                                                                            simp [List.getD_eq_getElem?_getD, this])
  refine ⟨eb, eo, e, ?_, fun w1 hb => (hb.cell (p := ⟨eb, _, none⟩) (lt_of_cell c1)).trans c1⟩
  simp only [En.good, Bool.and_eq_true, decide_eq_true_eq] at hg
  exact hg.1.1.2

set_option maxRecDepth 100000 in
set_option maxHeartbeats 4000000 in
theorem logged_any (M : Mv) (m : Nat) (s : ByteArray) (w : World) (hM : MachAt w M) (hF : M.Fits) (hz : machF M = 0) (hm4 : m < 4) (hs : s.size ≤ 1000000) :
    Calls Tryd.prog 54 #[M.val, .int .i64 ((m : Int) + 1), .string s] w fun x w' => ∃ N : Mv, x = .returned (.tuple #[N.val, .int .i64 (logF M m s)]) ∧ N.Same (logM M m s) ∧ Owned w.heap.size w' N ∧ Below w.heap.size w w' := by
  have h2 := fun w' (h : Below w.heap.size w w') => copyM_any M w' (hM.below h) hF
  obtain ⟨eb, eo, hea, hl1, hlg⟩ := lg_at hM hz hm4
  have HS4 : Hid (M.ens.length = 4) := (machF_sizes hz).2.1
  have hwm : IntKind.i64.wrap ((m : Int) + 1 - 1) = (m : Int) := by rw [IntKind.wrap_i64]; omega
  have hm4i : (m : Int) < 4 := by omega
  have hL : logM M m s = if logF M m s = 0 then { M with ens := M.ens.set m ((M.ens.getD m default).withLog s) } else noM := rfl
  have hE : logF M m s = if (M.ens.getD m default).log.size + s.size > 1000 then 7 else 0 := rfl
  obtain ⟨E, hEE⟩ : ∃ E, Hid (M.ens.getD m default = E) := ⟨_, rfl⟩
  rw [hEE.out] at hl1 hlg hE hL
  obtain ⟨lg, HLG⟩ : ∃ lg, Hid (E.log = lg) := ⟨_, rfl⟩
  rw [HLG.out] at hl1 hlg hE
  have hw : IntKind.i64.wrap ((lg.size : Int) + (s.size : Int)) = (lg.size : Int) + (s.size : Int) := by rw [IntKind.wrap_i64]; omega
  by_cases hc : lg.size + s.size > 1000
  · rw [if_pos hc] at hE
    rw [hE] at hL
    rw [hL, hE, if_neg (by decide)]
    have hc' : (1000 : Int) < (lg.size : Int) + (s.size : Int) := by omega
    clear hL hE hc HLG hEE
    unfold Mv.val at h2 ⊢
    obtain ⟨fa, frs, fcap, ea, ens, ecap, qa, qus, qcap⟩ := M
    dsimp only at *
    have B2 : ∀ o1 o2, Hid (Below w.heap.size w ((w.alloc o1).alloc o2)) := fun o1 o2 => a2B _ _ _
    have HX : ∀ o1 o2 w1, Hid (Below ((w.alloc o1).alloc o2).heap.size ((w.alloc o1).alloc o2) w1 → Below w.heap.size w w1) := fun o1 o2 w1 h => (B2 o1 o2).out.trans (h.mono (by simp; omega))
    have CF : Hid (_) := boxes_blk w (.slice fa frs.length fcap) (.slice ea ens.length ecap) (.slice qa qus.length qcap)
    subst hea
    rw [HS4.out] at h2 CF ⊢
    clear hM hF hz
    obtain ⟨W2, hW2⟩ : ∃ W2, Hid (W2 = (w.alloc (.cells #[.slice fa frs.length fcap, .slice (some ⟨eb, eo, none⟩) 4 ecap, .slice qa qus.length qcap] 51)).alloc (.cells #[.slice none 0 0, .slice none 0 0, .slice none 0 0] 51)) := ⟨_, rfl⟩
    have l0 := hlg W2 (by rw [hW2.out]; exact (B2 _ _).out)
    rw [← hW2.out] at CF
    obtain ⟨AB, RB⟩ := CF.out W2 (Below.refl _ _)
    have HB1 : Hid (Below w.heap.size w W2) := by show Below _ _ _; rw [hW2.out]; exact (B2 _ _).out
    obtain ⟨m0, m1, m2, _, _, _, ml⟩ := box_cells AB
    obtain ⟨r0, r1, r2, rf0, rf1, rf2, rl⟩ := box_cells RB
    clear AB RB CF HX B2 hlg h2
    go_enter Tryd.func54, Tryd.ntmps54
    go_upto_region 1 with fail
    rw [← hW2.out]
    clear hW2
    go_wp2
    obtain ⟨k0, k1, k2⟩ := blk3 (v0 := .slice none 0 0) (v1 := .slice none 0 0) (v2 := .slice none 0 0) r0 r1 r2
    (try simp only [Exit.inBlock, Exit.then])
    refine bodyPost_ret (by simp [results, Tryd.results54, go_sem, k0, k1, k2]; try rfl) rfl ?_
    exact ⟨noM, rfl, Mv.Same.refl _, noM_own _ _, blk3_below HB1.out (by omega)⟩
  · rw [if_neg hc] at hE
    rw [hE, if_pos rfl] at hL
    rw [hL, hE]
    have hc' : ¬ ((1000 : Int) < (lg.size : Int) + (s.size : Int)) := by omega
    clear hL hE
    unfold Mv.val at h2 ⊢
    obtain ⟨fa, frs, fcap, ea, ens, ecap, qa, qus, qcap⟩ := M
    dsimp only at *
    have B2 : ∀ o1 o2, Hid (Below w.heap.size w ((w.alloc o1).alloc o2)) := fun o1 o2 => a2B _ _ _
    have HX : ∀ o1 o2 w1, Hid (Below ((w.alloc o1).alloc o2).heap.size ((w.alloc o1).alloc o2) w1 → Below w.heap.size w w1) := fun o1 o2 w1 h => (B2 o1 o2).out.trans (h.mono (by simp; omega))
    have CF : Hid (_) := boxes_blk w (.slice fa frs.length fcap) (.slice ea ens.length ecap) (.slice qa qus.length qcap)
    subst hea
    rw [HS4.out] at h2 CF ⊢
    clear hM hF hz
    obtain ⟨W2, hW2⟩ : ∃ W2, Hid (W2 = (w.alloc (.cells #[.slice fa frs.length fcap, .slice (some ⟨eb, eo, none⟩) 4 ecap, .slice qa qus.length qcap] 51)).alloc (.cells #[.slice none 0 0, .slice none 0 0, .slice none 0 0] 51)) := ⟨_, rfl⟩
    have l0 := hlg W2 (by rw [hW2.out]; exact (B2 _ _).out)
    rw [← hW2.out] at CF
    obtain ⟨AB, RB⟩ := CF.out W2 (Below.refl _ _)
    have HB1 : Hid (Below w.heap.size w W2) := by show Below _ _ _; rw [hW2.out]; exact (B2 _ _).out
    obtain ⟨m0, m1, m2, _, _, _, ml⟩ := box_cells AB
    have HRB : Hid (_) := RB
    have HRL : Hid (w.heap.size + 1 < W2.heap.size) := (Array.getElem?_eq_some_iff.1 RB).1
    clear AB RB CF HX B2 hlg
    go_enter Tryd.func54, Tryd.ntmps54
    go_upto_region 1 with fail
    rw [← hW2.out]
    clear hW2
    go_upto_region 5 with (first
      | (go_at_call 48; refine (h2 _ HB1.out).mono ?_; rintro x w3 ⟨N, rfl, hS, hO, hb3⟩; obtain ⟨nfa, nfrs, nfcap, nea, nens, necap, nqa, nqus, nqcap⟩ := N; have HSN : Hid (_) := hS; have HON : Hid (_) := hO; have HB3 : Hid (_) := hb3; have eN := hS.en; dsimp only at eN; subst eN; obtain ⟨xb, xo, hxa, _, t1, _⟩ := hO.at_.enclave (j := m) (by dsimp only; have := HS4.out; omega); dsimp only at hxa t1; subst hxa; rw [hEE.out, HLG.out] at t1; have nn := hO.ne xb xo none rfl; have ef1 : w3.frozen? ⟨xb, xo + m * 7 + 1, none⟩ = false := nn.2.2 _; have el : xb < w3.heap.size := nn.2.1; have HEN : Hid (W2.heap.size ≤ xb) := nn.1; have HRB3 : Hid (_) := ((hb3.block _ HRL.out).trans HRB.out); rw [HS4.out]; clear nn hS hO hb3 m0 m1 m2 HRB; dsimp only)
      | fail)
    have hok := HON.out.at_.enok m (by dsimp only; have := HS4.out; omega)
    dsimp only at hok
    rw [hEE.out] at hok
    have HO7 : Owned W2.heap.size (w3.setCell ⟨xb, xo + m * 7 + 1, none⟩ (.string (lg ++ s))) ⟨nfa, nfrs, nfcap, some ⟨xb, xo, none⟩, nens.set m (E.withLog s), necap, nqa, nqus, nqcap⟩ :=
      HON.out.setEn (k := m) (i0 := 1) (e' := E.withLog s) (v := .string (lg ++ s)) rfl (by dsimp only; have := HS4.out; omega) (by omega) ⟨hok.wst, by show (E.log ++ s).size ≤ maxLen; rw [HLG.out, ByteArray.size_append]; unfold maxLen; omega, hok.wpc, hok.w0, hok.w1, hok.w2, hok.w3⟩ (fun i hi => by
        dsimp only
        rw [hEE.out, ← HLG.out]
        match i, hi with
        | 0, _ => rfl
        | 1, _ => rfl
        | 2, _ => rfl
        | 3, _ => rfl
        | 4, _ => rfl
        | 5, _ => rfl
        | 6, _ => rfl)
    have HB7 : Below w.heap.size w (w3.setCell ⟨xb, xo + m * 7 + 1, none⟩ (.string (lg ++ s))) := (HB1.out.trans (HB3.out.mono HB1.out.size)).setCell (by have := HEN.out; have := HB1.out.size; dsimp only; omega) _
    have k7 : (w3.setCell ⟨xb, xo + m * 7 + 1, none⟩ (.string (lg ++ s))).heap[w.heap.size + 1]? = w3.heap[w.heap.size + 1]? := Below.heap_setCell _ _ _ _ (show w.heap.size + 1 ≠ xb by have := HEN.out; have := HRL.out; omega)
    have s7 : (w3.setCell ⟨xb, xo + m * 7 + 1, none⟩ (.string (lg ++ s))).heap.size = w3.heap.size := by simp [World.setCell]
    obtain ⟨W7, hW7⟩ : ∃ W7, W7 = w3.setCell ⟨xb, xo + m * 7 + 1, none⟩ (.string (lg ++ s)) := ⟨_, rfl⟩
    rw [← hW7] at HO7 HB7 k7 s7
    obtain ⟨W8, hW8⟩ : ∃ W8, W8 = W7.alloc (.cells #[.slice nfa nfrs.length nfcap, .slice (some ⟨xb, xo, none⟩) 4 necap, .slice nqa nqus.length nqcap] 51) := ⟨_, rfl⟩
    have HO8 : Hid (_) := HO7.below (w' := W8) (by rw [hW8]; exact (Below.refl _ _).alloc (Nat.le_refl _) _)
    have HB8 : Hid (Below w.heap.size w W8) := by show Below _ _ _; rw [hW8]; exact HB7.alloc HB7.size _
    have HBX8 : W8.heap[w3.heap.size]? = some (.cells #[.slice nfa nfrs.length nfcap, .slice (some ⟨xb, xo, none⟩) 4 necap, .slice nqa nqus.length nqcap] 51 (0, 0)) := by rw [hW8, ← s7]; exact a11 _ _
    have HR8 : W8.heap[w.heap.size + 1]? = some (.cells #[.slice none 0 0, .slice none 0 0, .slice none 0 0] 51 (0, 0)) := by rw [hW8, Below.heap_alloc _ _ _ (by rw [s7]; have := HRL.out; have := HB3.out.size; omega), k7]; exact HRB3.out
    rw [← hW7, ← hW8]
    obtain ⟨y0, y1, y2, _, _, _, yl⟩ := box_cells HBX8
    obtain ⟨r0, r1, r2, rf0, rf1, rf2, rl⟩ := box_cells HR8
    clear hW7 hW8 HO7 HB7 k7 s7 HBX8 HR8 HRB3 HON HB3 h2 t1 ef1 hok l0
    go_wp2
    obtain ⟨k0, k1, k2⟩ := blk3 (v0 := .slice nfa nfrs.length nfcap) (v1 := .slice (some ⟨xb, xo, none⟩) 4 necap) (v2 := .slice nqa nqus.length nqcap) r0 r1 r2
    (try simp only [Exit.inBlock, Exit.then])
    refine bodyPost_ret (by simp [results, Tryd.results54, go_sem, k0, k1, k2]; try rfl) rfl ?_
    exact ⟨⟨nfa, nfrs, nfcap, some ⟨xb, xo, none⟩, nens.set m (E.withLog s), necap, nqa, nqus, nqcap⟩, by simp [HS4.out], ⟨HSN.out.len, HSN.out.fr, rfl, HSN.out.qu⟩, (HO8.out.keep (fun b hb _ => blk3_heap b (by have := HRL.out; omega)) (by rw [blk3_size]; exact Nat.le_refl _)).mono HB1.out.size, blk3_below HB8.out (by omega)⟩

end Go.Proofs.YtdbbiibnhgcndaaDoor
