/-
  What the calls Poke (epc) and PokedOf (riddleref) answer for every machine and numbers: both what the document asks, in memory of their own; they turn nothing that was in memory. The condition: the lists are within the reach of the form.
-/
import Derived.Test.YtdbbiibnhgcndaaStart
namespace Go.Proofs.Ytdbbiibnhgcndaa
open Go.RowKit

/-- the argument's variable, and the answer's, behind a call that makes new memory alone -/
theorem boxes_at (w : World) (a b c : Value) : ∀ w1, Below ((w.alloc (.cells #[a, b, c] 43)).alloc (.cells #[.slice none 0 0, .slice none 0 0, .slice none 0 0] 43)).heap.size ((w.alloc (.cells #[a, b, c] 43)).alloc (.cells #[.slice none 0 0, .slice none 0 0, .slice none 0 0] 43)) w1 →
      w1.cell? ⟨w.heap.size, 0, none⟩ = some a ∧ w1.cell? ⟨w.heap.size, 1, none⟩ = some b ∧ w1.cell? ⟨w.heap.size, 2, none⟩ = some c ∧
      w1.cell? ⟨w.heap.size + 1, 0, none⟩ = some (.slice none 0 0) ∧ w1.cell? ⟨w.heap.size + 1, 1, none⟩ = some (.slice none 0 0) ∧ w1.cell? ⟨w.heap.size + 1, 2, none⟩ = some (.slice none 0 0) ∧ (∀ o, w1.frozen? ⟨w.heap.size + 1, o, none⟩ = false) ∧ w.heap.size + 1 < w1.heap.size := fun w1 hb => by
  refine ⟨(hb.cell (p := ⟨w.heap.size, 0, none⟩) (by simp; omega)).trans ?_, (hb.cell (p := ⟨w.heap.size, 1, none⟩) (by simp; omega)).trans ?_, (hb.cell (p := ⟨w.heap.size, 2, none⟩) (by simp; omega)).trans ?_, (hb.cell (p := ⟨w.heap.size + 1, 0, none⟩) (by simp)).trans ?_, (hb.cell (p := ⟨w.heap.size + 1, 1, none⟩) (by simp)).trans ?_, (hb.cell (p := ⟨w.heap.size + 1, 2, none⟩) (by simp)).trans ?_, fun o => (hb.frozen (p := ⟨w.heap.size + 1, o, none⟩) (by simp)).trans (World.frozen?_alloc_at _ _ _ _ (by simp)), by have := hb.size; simp at this; omega⟩
  · rw [World.cell?_alloc_past _ _ _ (by simp), World.cell?_alloc_at _ _ _ _ rfl]; rfl
  · rw [World.cell?_alloc_past _ _ _ (by simp), World.cell?_alloc_at _ _ _ _ rfl]; rfl
  · rw [World.cell?_alloc_past _ _ _ (by simp), World.cell?_alloc_at _ _ _ _ rfl]; rfl
  · rw [World.cell?_alloc_at _ _ _ _ (by simp)]; rfl
  · rw [World.cell?_alloc_at _ _ _ _ (by simp)]; rfl
  · rw [World.cell?_alloc_at _ _ _ _ (by simp)]; rfl

/-- what a poke is refused for -/
def pokeF (M : Mv) (f at_ n : Int) : Int := if wordF M f at_ = 0 then (if inB n 0 65535 = true then 0 else 2) else wordF M f at_
def pokeM (M : Mv) (f at_ n : Int) : Mv := if pokeF M f at_ n = 0 then (if (M.frs.getD f.toNat default).o = 0 then { M with frs := M.frs.set f.toNat { M.frs.getD f.toNat default with ws := (M.frs.getD f.toNat default).ws.set at_.toNat n } } else M) else noM
theorem wordF_same {M N : Mv} (h : M.Same N) (f at_ : Int) : wordF M f at_ = wordF N f at_ := by unfold wordF; rw [machF_same h]
theorem pokeF_same {M N : Mv} (h : M.Same N) (f at_ n : Int) : pokeF M f at_ n = pokeF N f at_ n := by unfold pokeF; rw [wordF_same h]
theorem word_same {M N : Mv} (h : N.Same M) {j : Nat} (hj : j < M.frs.length) (m : Nat) (n : Int) (f g : Fr) (hf : f = { N.frs.getD j default with ws := (N.frs.getD j default).ws.set m n }) (hg : g = { M.frs.getD j default with ws := (M.frs.getD j default).ws.set m n }) : Mv.Same { N with frs := N.frs.set j f } { M with frs := M.frs.set j g } := by
  have hj' : j < N.frs.length := by rw [h.len]; exact hj
  refine ⟨by simpa using h.len, fun i hi => ?_, h.en, h.qu⟩
  have hi' : i < N.frs.length := by simpa using hi
  show ((N.frs.set j f).getD i default).Same ((M.frs.set j g).getD i default)
  rw [getD_set _ _ _ _ hj', getD_set _ _ _ _ hj]
  by_cases e : i = j
  · subst e
    rw [if_pos rfl, if_pos rfl, hf, hg]
    obtain ⟨a, b, c, d⟩ := h.fr i hi'
    exact ⟨a, b, c, by show List.set _ _ _ = List.set _ _ _; rw [d]⟩
  · rw [if_neg e, if_neg e]
    exact h.fr i hi'
theorem pokeF_zero {M : Mv} {f at_ n : Int} (h : pokeF M f at_ n = 0) : wordF M f at_ = 0 ∧ inB n 0 65535 = true := by
  unfold pokeF at h
  split at h
  · rename_i h1
    split at h
    · rename_i h2; exact ⟨h1, h2⟩
    · simp at h
  · rename_i h1; exact absurd h h1
theorem pokeM_same {M N : Mv} (h : N.Same M) (f at_ n : Int) : (pokeM N f at_ n).Same (pokeM M f at_ n) := by
  unfold pokeM
  rw [pokeF_same h]
  by_cases hz : pokeF M f at_ n = 0
  · rw [if_pos hz, if_pos hz]
    obtain ⟨h1, _⟩ := pokeF_zero hz
    obtain ⟨g0, g1, _⟩ := wordF_zero h1
    have b := inB_iff.1 g1
    have hs := (machF_sizes g0).1
    have hj : f.toNat < M.frs.length := by omega
    rw [(h.fr f.toNat (by rw [h.len]; exact hj)).1]
    split
    · exact word_same h hj at_.toNat n _ _ rfl rfl
    · exact h
  · rw [if_neg hz, if_neg hz]; exact Mv.Same.refl _

/-- a word of a new machine: where it lies, and that it may be written -/
theorem poke_at {n0 : Nat} {w : World} {N M : Mv} (hO : Owned n0 w N) (hS : N.Same M) (hz : machF M = 0) {j m : Nat} (hj : j < 24) (hm : m < 8) :
    ∃ nb no wb wo wc, N.fa = some ⟨nb, no, none⟩ ∧ (N.frs.getD j default).a = some ⟨wb, wo, none⟩ ∧ w.cell? ⟨nb, no + j * 4, none⟩ = some (.int .i64 (M.frs.getD j default).o) ∧ w.cell? ⟨nb, no + j * 4 + 3, none⟩ = some (.slice (some ⟨wb, wo, none⟩) 8 wc) ∧
      w.cell? ⟨wb, wo + m, none⟩ = some (.int .i64 ((N.frs.getD j default).ws.getD m 0)) ∧ w.frozen? ⟨wb, wo + m, none⟩ = false ∧ wb < w.heap.size ∧ n0 ≤ wb ∧ (N.frs.getD j default).ws.length = 8 := by
  have hs := (machF_sizes hz).1
  have hjN : j < N.frs.length := by rw [hS.len]; omega
  obtain ⟨s1, s2, s3, s4⟩ := hS.fr j hjN
  obtain ⟨nb, no, e, c0, _, _, c3⟩ := hO.at_.frame (j := j) hjN
  have h8 : (N.frs.getD j default).ws.length = 8 := by rw [s4]; exact (machF_words hz hj).1
  rcases (hO.at_.frok j hjN).ints with h0 | ⟨b, off, ha, hc⟩
  · rw [h0] at h8; simp at h8
  · have nn := hO.nw j hjN b off none ha
    exact ⟨nb, no, b, off, (N.frs.getD j default).cap, e, ha, by rw [c0, s1], by rw [c3, h8, ha], hc m (by omega), nn.2.2 _, nn.2.1, nn.1, h8⟩

set_option maxRecDepth 100000 in
set_option maxHeartbeats 4000000 in
theorem poke_any (M : Mv) (f at_ n : Int) (w : World) (hM : MachAt w M) (hF : M.Fits) (wn : (Lit.int .i64 n).wf = true) :
    Calls Try.prog 47 #[M.val, .int .i64 f, .int .i64 at_, .int .i64 n] w fun x w' => ∃ N : Mv, x = .returned (.tuple #[N.val, .int .i64 (pokeF M f at_ n)]) ∧ N.Same (pokeM M f at_ n) ∧ Owned w.heap.size w' N ∧ Below w.heap.size w w' := by
  have h1 := fun w' (h : Below w.heap.size w w') => checkWord_any M f at_ w' (hM.below h)
  have h2 := fun w' (h : Below w.heap.size w w') => copyM_any M w' (hM.below h) hF
  have HM : Hid (MachAt w M) := hM
  unfold Mv.val at h1 h2 ⊢
  obtain ⟨fa, frs, fcap, ea, ens, ecap, qa, qus, qcap⟩ := M
  dsimp only at h1 h2 ⊢
  have B2 : ∀ o1 o2, Hid (Below w.heap.size w ((w.alloc o1).alloc o2)) := fun o1 o2 => ((Below.refl _ _).alloc (Nat.le_refl _) _).alloc (by simp) _
  have HX : ∀ o1 o2 w1, Hid (Below ((w.alloc o1).alloc o2).heap.size ((w.alloc o1).alloc o2) w1 → Below w.heap.size w w1) := fun o1 o2 w1 h => (B2 o1 o2).out.trans (h.mono (by simp; omega))
  have CF : Hid (_) := boxes_at w (.slice fa frs.length fcap) (.slice ea ens.length ecap) (.slice qa qus.length qcap)
  unfold pokeM
  by_cases hw : wordF ⟨fa, frs, fcap, ea, ens, ecap, qa, qus, qcap⟩ f at_ = 0
  · have HG : Hid (machF ⟨fa, frs, fcap, ea, ens, ecap, qa, qus, qcap⟩ = 0) := (wordF_zero hw).1
    have HS24 : Hid (frs.length = 24) := (machF_sizes HG.out).1
    obtain ⟨_, g1, g2⟩ := wordF_zero hw
    have b1 := inB_iff.1 g1
    have b2 := inB_iff.1 g2
    have EF : pokeF ⟨fa, frs, fcap, ea, ens, ecap, qa, qus, qcap⟩ f at_ n = if inB n 0 65535 = true then 0 else 2 := by unfold pokeF; rw [if_pos hw]
    rw [EF]
    rw [hw] at h1
    obtain ⟨j, rfl⟩ : ∃ j : Nat, f = (j : Int) := ⟨f.toNat, by omega⟩
    obtain ⟨m, rfl⟩ : ∃ m : Nat, at_ = (m : Int) := ⟨at_.toNat, by omega⟩
    have hj : j < 24 := by omega
    have hm8 : m < 8 := by omega
    simp only [Int.toNat_natCast]
    obtain ⟨ow, HOW⟩ : ∃ ow, Hid ((frs.getD j default).o = ow) := ⟨_, rfl⟩
    rw [HOW.out]
    skip
    clear hM hF hw EF g1 g2 b1 b2
    cases hn : inB n 0 65535 with
    | false =>
      rw [if_neg (by simp), if_neg (by simp)]
      go_enter Try.func47, Try.ntmps47
      go_wp2_with (first | (go_at_call 84; refine (h1 _ (B2 _ _).out).mono ?_; rintro x w1 ⟨rfl, hb1⟩; obtain ⟨m0, m1, m2, r0, r1, r2, rf, rl⟩ := CF.out w1 hb1; have HB1 : Hid (Below w.heap.size w w1) := (HX _ _ _).out hb1; have rf0 := rf 0; have rf1 := rf 1; have rf2 := rf 2; clear hb1 CF) | (go_at_call 73; refine (isWord_any _ _).mono ?_; rintro x w' ⟨rfl, rfl⟩) | fail)
      obtain ⟨k0, k1, k2⟩ := blk3 (v0 := .slice none 0 0) (v1 := .slice none 0 0) (v2 := .slice none 0 0) r0 r1 r2
      (try simp only [Exit.inBlock, Exit.then])
      refine bodyPost_ret (by simp [results, Try.results47, go_sem, k0, k1, k2]; try rfl) rfl ?_
      exact ⟨noM, rfl, Mv.Same.refl _, noM_own _ _, blk3_below HB1.out (by omega)⟩
    | true =>
      rw [if_pos rfl, if_pos rfl]
      by_cases ho : ow = 0
      · subst ho
        rw [if_pos rfl]
        go_enter Try.func47, Try.ntmps47
        go_wp2_with (first
          | (go_at_call 84; refine (h1 _ (B2 _ _).out).mono ?_; rintro x w1 ⟨rfl, hb1⟩; obtain ⟨m0, m1, m2, r0, r1, r2, rf, rl⟩ := CF.out w1 hb1; have HB1 : Hid (Below w.heap.size w w1) := (HX _ _ _).out hb1; have rf0 := rf 0; have rf1 := rf 1; have rf2 := rf 2; clear hb1 CF)
          | (go_at_call 73; refine (isWord_any _ _).mono ?_; rintro x w' ⟨rfl, rfl⟩)
          | (go_at_call 37; refine (h2 _ HB1.out).mono ?_; rintro x w2 ⟨N, rfl, hS, hO, hb2⟩; obtain ⟨nfa, nfrs, nfcap, nea, nens, necap, nqa, nqus, nqcap⟩ := N; have HSN : Hid (_) := hS; have HON : Hid (_) := hO; have HB2 : Hid (_) := hb2; obtain ⟨nb, no, wb, wo, wc, hnfa, hwa, t0, t3, tw, tf, tl, nl, wl⟩ := poke_at hO hS HG.out hj hm8; dsimp only at hnfa hwa t0 t3 tw; subst hnfa; have HWA : Hid (_) := hwa; have hnl : nfrs.length = 24 := (by have := hS.len; dsimp only at this; rw [this]; exact HS24.out); have R0 : w2.cell? ⟨w.heap.size + 1, 0, none⟩ = some (.slice none 0 0) := (hb2.cell (p := ⟨w.heap.size + 1, 0, none⟩) rl).trans r0; have R1 : w2.cell? ⟨w.heap.size + 1, 1, none⟩ = some (.slice none 0 0) := (hb2.cell (p := ⟨w.heap.size + 1, 1, none⟩) rl).trans r1; have R2 : w2.cell? ⟨w.heap.size + 1, 2, none⟩ = some (.slice none 0 0) := (hb2.cell (p := ⟨w.heap.size + 1, 2, none⟩) rl).trans r2; have RF : ∀ o, w2.frozen? ⟨w.heap.size + 1, o, none⟩ = false := fun o => (hb2.frozen (p := ⟨w.heap.size + 1, o, none⟩) rl).trans (rf o); have RF0 := RF 0; have RF1 := RF 1; have RF2 := RF 2; have RL : w.heap.size + 1 < w2.heap.size := lt_of_cell R0; have hne : wb ≠ w.heap.size + 1 := (by omega); have nbl : nb < w2.heap.size := lt_of_cell t0; rw [HOW.out] at t0; clear RF hS hO hb2 m0 m1 m2 r0 r1 r2 rf rf0 rf1 rf2 hwa; dsimp only)
          | fail)
        have HO3 := HON.out.setWord (k := j) (m := m) (n := n) (by dsimp only; omega) HWA.out (by dsimp only; rw [wl]; exact hm8) wn
        dsimp only at HO3
        have HB3 : Below w.heap.size w (w2.setCell ⟨wb, wo + m, none⟩ (.int .i64 n)) := (HB1.out.trans (HB2.out.mono HB1.out.size)).setCell (by have := HB1.out.size; dsimp only; omega) _
        have HO4 := HO3.keep (w' := ((((w2.setCell ⟨wb, wo + m, none⟩ (.int .i64 n)).setCell ⟨w.heap.size + 1, 0, none⟩ (.slice (some ⟨nb, no, none⟩) 24 nfcap)).setCell ⟨w.heap.size + 1, 1, none⟩ (.slice nea nens.length necap)).setCell ⟨w.heap.size + 1, 2, none⟩ (.slice nqa nqus.length nqcap))) (fun b hb _ => blk3_heap b (by omega)) (by rw [blk3_size]; exact Nat.le_refl _)
        obtain ⟨k0, k1, k2⟩ := blk3 (w := (w2.setCell ⟨wb, wo + m, none⟩ (.int .i64 n))) (b := w.heap.size + 1) (v0 := .slice (some ⟨nb, no, none⟩) 24 nfcap) (v1 := .slice nea nens.length necap) (v2 := .slice nqa nqus.length nqcap) ((World.cell?_setCell_other _ _ _ _ (by intro q; simp only [Addr.mk.injEq] at q; omega)).trans R0) ((World.cell?_setCell_other _ _ _ _ (by intro q; simp only [Addr.mk.injEq] at q; omega)).trans R1) ((World.cell?_setCell_other _ _ _ _ (by intro q; simp only [Addr.mk.injEq] at q; omega)).trans R2)
        have sz : w.heap.size + 1 < ((((w2.setCell ⟨wb, wo + m, none⟩ (.int .i64 n)).setCell ⟨w.heap.size + 1, 0, none⟩ (.slice (some ⟨nb, no, none⟩) 24 nfcap)).setCell ⟨w.heap.size + 1, 1, none⟩ (.slice nea nens.length necap)).setCell ⟨w.heap.size + 1, 2, none⟩ (.slice nqa nqus.length nqcap)).heap.size := by rw [blk3_size]; first | exact RL | (simp [World.setCell]; exact RL)
        have q0 := fun o => (World.cell?_alloc_past (w := ((((w2.setCell ⟨wb, wo + m, none⟩ (.int .i64 n)).setCell ⟨w.heap.size + 1, 0, none⟩ (.slice (some ⟨nb, no, none⟩) 24 nfcap)).setCell ⟨w.heap.size + 1, 1, none⟩ (.slice nea nens.length necap)).setCell ⟨w.heap.size + 1, 2, none⟩ (.slice nqa nqus.length nqcap))) o (w.heap.size + 1) 0 sz).trans k0
        have q1 := fun o => (World.cell?_alloc_past (w := ((((w2.setCell ⟨wb, wo + m, none⟩ (.int .i64 n)).setCell ⟨w.heap.size + 1, 0, none⟩ (.slice (some ⟨nb, no, none⟩) 24 nfcap)).setCell ⟨w.heap.size + 1, 1, none⟩ (.slice nea nens.length necap)).setCell ⟨w.heap.size + 1, 2, none⟩ (.slice nqa nqus.length nqcap))) o (w.heap.size + 1) 1 sz).trans k1
        have q2 := fun o => (World.cell?_alloc_past (w := ((((w2.setCell ⟨wb, wo + m, none⟩ (.int .i64 n)).setCell ⟨w.heap.size + 1, 0, none⟩ (.slice (some ⟨nb, no, none⟩) 24 nfcap)).setCell ⟨w.heap.size + 1, 1, none⟩ (.slice nea nens.length necap)).setCell ⟨w.heap.size + 1, 2, none⟩ (.slice nqa nqus.length nqcap))) o (w.heap.size + 1) 2 sz).trans k2
        have HB4 := blk3_below (v0 := .slice (some ⟨nb, no, none⟩) 24 nfcap) (v1 := .slice nea nens.length necap) (v2 := .slice nqa nqus.length nqcap) HB3 (show w.heap.size ≤ w.heap.size + 1 by omega)
        (try simp only [Exit.inBlock, Exit.then])
        refine bodyPost_ret (by simp [results, Try.results47, go_sem, q0, q1, q2]; try rfl) rfl ?_
        exact ⟨⟨some ⟨nb, no, none⟩, nfrs.set j { nfrs.getD j default with ws := (nfrs.getD j default).ws.set m n }, nfcap, nea, nens, necap, nqa, nqus, nqcap⟩, by simp [hnl], by have := word_same HSN.out (j := j) (by dsimp only; rw [HS24.out]; exact hj) m n _ _ rfl rfl; dsimp only at this; rw [HOW.out] at this; simpa [List.getD_eq_getElem?_getD] using this, (HO4.below ((Below.refl _ _).alloc (Nat.le_refl _) _)).mono (by first | exact HB1.out.size | (have := HRL.out; omega) | omega), HB4.alloc (by have := HB4.size; omega) _⟩
      · have ho' : (ow == 0) = false := by simpa using ho
        rw [if_neg ho]
        go_enter Try.func47, Try.ntmps47
        go_wp2_with (first
          | (go_at_call 84; refine (h1 _ (B2 _ _).out).mono ?_; rintro x w1 ⟨rfl, hb1⟩; obtain ⟨m0, m1, m2, r0, r1, r2, rf, rl⟩ := CF.out w1 hb1; have HB1 : Hid (Below w.heap.size w w1) := (HX _ _ _).out hb1; have rf0 := rf 0; have rf1 := rf 1; have rf2 := rf 2; clear hb1 CF)
          | (go_at_call 73; refine (isWord_any _ _).mono ?_; rintro x w' ⟨rfl, rfl⟩)
          | (go_at_call 37; refine (h2 _ HB1.out).mono ?_; rintro x w2 ⟨N, rfl, hS, hO, hb2⟩; obtain ⟨nfa, nfrs, nfcap, nea, nens, necap, nqa, nqus, nqcap⟩ := N; have HSN : Hid (_) := hS; have HON : Hid (_) := hO; have HB2 : Hid (_) := hb2; obtain ⟨nb, no, wb, wo, wc, hnfa, hwa, t0, t3, tw, tf, tl, nl, wl⟩ := poke_at hO hS HG.out hj hm8; dsimp only at hnfa hwa t0 t3 tw; subst hnfa; have HWA : Hid (_) := hwa; have hnl : nfrs.length = 24 := (by have := hS.len; dsimp only at this; rw [this]; exact HS24.out); have R0 : w2.cell? ⟨w.heap.size + 1, 0, none⟩ = some (.slice none 0 0) := (hb2.cell (p := ⟨w.heap.size + 1, 0, none⟩) rl).trans r0; have R1 : w2.cell? ⟨w.heap.size + 1, 1, none⟩ = some (.slice none 0 0) := (hb2.cell (p := ⟨w.heap.size + 1, 1, none⟩) rl).trans r1; have R2 : w2.cell? ⟨w.heap.size + 1, 2, none⟩ = some (.slice none 0 0) := (hb2.cell (p := ⟨w.heap.size + 1, 2, none⟩) rl).trans r2; have RF : ∀ o, w2.frozen? ⟨w.heap.size + 1, o, none⟩ = false := fun o => (hb2.frozen (p := ⟨w.heap.size + 1, o, none⟩) rl).trans (rf o); have RF0 := RF 0; have RF1 := RF 1; have RF2 := RF 2; have RL : w.heap.size + 1 < w2.heap.size := lt_of_cell R0; have hne : wb ≠ w.heap.size + 1 := (by omega); have nbl : nb < w2.heap.size := lt_of_cell t0; rw [HOW.out] at t0; clear RF hS hO hb2 m0 m1 m2 r0 r1 r2 rf rf0 rf1 rf2 hwa; dsimp only)
          | fail)
        have HO4 := HON.out.keep (w' := (((w2.setCell ⟨w.heap.size + 1, 0, none⟩ (.slice (some ⟨nb, no, none⟩) 24 nfcap)).setCell ⟨w.heap.size + 1, 1, none⟩ (.slice nea nens.length necap)).setCell ⟨w.heap.size + 1, 2, none⟩ (.slice nqa nqus.length nqcap))) (fun b hb _ => blk3_heap b (by omega)) (by rw [blk3_size]; exact Nat.le_refl _)
        obtain ⟨k0, k1, k2⟩ := blk3 (w := w2) (b := w.heap.size + 1) (v0 := .slice (some ⟨nb, no, none⟩) 24 nfcap) (v1 := .slice nea nens.length necap) (v2 := .slice nqa nqus.length nqcap) R0 R1 R2
        have sz : w.heap.size + 1 < (((w2.setCell ⟨w.heap.size + 1, 0, none⟩ (.slice (some ⟨nb, no, none⟩) 24 nfcap)).setCell ⟨w.heap.size + 1, 1, none⟩ (.slice nea nens.length necap)).setCell ⟨w.heap.size + 1, 2, none⟩ (.slice nqa nqus.length nqcap)).heap.size := by rw [blk3_size]; first | exact RL | (simp [World.setCell]; exact RL)
        have q0 := fun o => (World.cell?_alloc_past (w := (((w2.setCell ⟨w.heap.size + 1, 0, none⟩ (.slice (some ⟨nb, no, none⟩) 24 nfcap)).setCell ⟨w.heap.size + 1, 1, none⟩ (.slice nea nens.length necap)).setCell ⟨w.heap.size + 1, 2, none⟩ (.slice nqa nqus.length nqcap))) o (w.heap.size + 1) 0 sz).trans k0
        have q1 := fun o => (World.cell?_alloc_past (w := (((w2.setCell ⟨w.heap.size + 1, 0, none⟩ (.slice (some ⟨nb, no, none⟩) 24 nfcap)).setCell ⟨w.heap.size + 1, 1, none⟩ (.slice nea nens.length necap)).setCell ⟨w.heap.size + 1, 2, none⟩ (.slice nqa nqus.length nqcap))) o (w.heap.size + 1) 1 sz).trans k1
        have q2 := fun o => (World.cell?_alloc_past (w := (((w2.setCell ⟨w.heap.size + 1, 0, none⟩ (.slice (some ⟨nb, no, none⟩) 24 nfcap)).setCell ⟨w.heap.size + 1, 1, none⟩ (.slice nea nens.length necap)).setCell ⟨w.heap.size + 1, 2, none⟩ (.slice nqa nqus.length nqcap))) o (w.heap.size + 1) 2 sz).trans k2
        have HB4 := blk3_below (v0 := .slice (some ⟨nb, no, none⟩) 24 nfcap) (v1 := .slice nea nens.length necap) (v2 := .slice nqa nqus.length nqcap) (HB1.out.trans (HB2.out.mono HB1.out.size)) (show w.heap.size ≤ w.heap.size + 1 by omega)
        (try simp only [Exit.inBlock, Exit.then])
        refine bodyPost_ret (by simp [results, Try.results47, go_sem, q0, q1, q2]; try rfl) rfl ?_
        exact ⟨⟨some ⟨nb, no, none⟩, nfrs, nfcap, nea, nens, necap, nqa, nqus, nqcap⟩, by simp [hnl], HSN.out, (HO4.below ((Below.refl _ _).alloc (Nat.le_refl _) _)).mono (by first | exact HB1.out.size | (have := HRL.out; omega) | omega), HB4.alloc (by have := HB4.size; omega) _⟩
  · have EF : pokeF ⟨fa, frs, fcap, ea, ens, ecap, qa, qus, qcap⟩ f at_ n = wordF ⟨fa, frs, fcap, ea, ens, ecap, qa, qus, qcap⟩ f at_ := by unfold pokeF; rw [if_neg hw]
    rw [EF, if_neg hw]
    have hz1 : (wordF ⟨fa, frs, fcap, ea, ens, ecap, qa, qus, qcap⟩ f at_ != 0) = true := by simpa using hw
    have hz2 : (wordF ⟨fa, frs, fcap, ea, ens, ecap, qa, qus, qcap⟩ f at_ == 0) = false := by simpa using hw
    clear hM hF hw EF
    generalize wordF ⟨fa, frs, fcap, ea, ens, ecap, qa, qus, qcap⟩ f at_ = z at h1 hz1 hz2 ⊢
    go_enter Try.func47, Try.ntmps47
    go_wp2_with (first | (go_at_call 84; refine (h1 _ (B2 _ _).out).mono ?_; rintro x w1 ⟨rfl, hb1⟩; obtain ⟨m0, m1, m2, r0, r1, r2, rf, rl⟩ := CF.out w1 hb1; have HB1 : Hid (Below w.heap.size w w1) := (HX _ _ _).out hb1; have rf0 := rf 0; have rf1 := rf 1; have rf2 := rf 2; clear hb1 CF) | fail)
    obtain ⟨k0, k1, k2⟩ := blk3 (v0 := .slice none 0 0) (v1 := .slice none 0 0) (v2 := .slice none 0 0) r0 r1 r2
    (try simp only [Exit.inBlock, Exit.then])
    refine bodyPost_ret (by simp [results, Try.results47, go_sem, k0, k1, k2]; try rfl) rfl ?_
    exact ⟨noM, rfl, Mv.Same.refl _, noM_own _ _, blk3_below HB1.out (by omega)⟩

set_option maxRecDepth 100000 in
set_option maxHeartbeats 4000000 in
theorem poked_any (M : Mv) (f at_ n : Int) (w : World) (hM : MachAt w M) (hF : M.Fits) (wn : (Lit.int .i64 n).wf = true) :
    Calls Try.prog 48 #[M.val, .int .i64 f, .int .i64 at_, .int .i64 n] w fun x w' => ∃ N : Mv, x = .returned (.tuple #[N.val, .int .i64 (pokeF M f at_ n)]) ∧ N.Same (pokeM M f at_ n) ∧ Owned w.heap.size w' N ∧ Below w.heap.size w w' := by
  have h1 := fun w' (h : Below w.heap.size w w') => peekedOf_any M f at_ w' (hM.below h)
  have h2 := fun w' (h : Below w.heap.size w w') => mcopy_any M w' (hM.below h) hF
  have HM : Hid (MachAt w M) := hM
  unfold Mv.val at h1 h2 ⊢
  obtain ⟨fa, frs, fcap, ea, ens, ecap, qa, qus, qcap⟩ := M
  dsimp only at h1 h2 ⊢
  have B2 : ∀ o1 o2, Hid (Below w.heap.size w ((w.alloc o1).alloc o2)) := fun o1 o2 => ((Below.refl _ _).alloc (Nat.le_refl _) _).alloc (by simp) _
  have HX : ∀ o1 o2 w1, Hid (Below ((w.alloc o1).alloc o2).heap.size ((w.alloc o1).alloc o2) w1 → Below w.heap.size w w1) := fun o1 o2 w1 h => (B2 o1 o2).out.trans (h.mono (by simp; omega))
  have CF : Hid (_) := boxes_at w (.slice fa frs.length fcap) (.slice ea ens.length ecap) (.slice qa qus.length qcap)
  unfold pokeM
  by_cases hw : wordF ⟨fa, frs, fcap, ea, ens, ecap, qa, qus, qcap⟩ f at_ = 0
  · have HG : Hid (machF ⟨fa, frs, fcap, ea, ens, ecap, qa, qus, qcap⟩ = 0) := (wordF_zero hw).1
    have HS24 : Hid (frs.length = 24) := (machF_sizes HG.out).1
    obtain ⟨_, g1, g2⟩ := wordF_zero hw
    have b1 := inB_iff.1 g1
    have b2 := inB_iff.1 g2
    have EF : pokeF ⟨fa, frs, fcap, ea, ens, ecap, qa, qus, qcap⟩ f at_ n = if inB n 0 65535 = true then 0 else 2 := by unfold pokeF; rw [if_pos hw]
    rw [EF]
    rw [hw] at h1
    obtain ⟨j, rfl⟩ : ∃ j : Nat, f = (j : Int) := ⟨f.toNat, by omega⟩
    obtain ⟨m, rfl⟩ : ∃ m : Nat, at_ = (m : Int) := ⟨at_.toNat, by omega⟩
    have hj : j < 24 := by omega
    have hm8 : m < 8 := by omega
    simp only [Int.toNat_natCast]
    obtain ⟨ow, HOW⟩ : ∃ ow, Hid ((frs.getD j default).o = ow) := ⟨_, rfl⟩
    rw [HOW.out]
    generalize peekN _ _ _ = pk at h1
    clear hM hF hw EF g1 g2 b1 b2
    cases hn : inB n 0 65535 with
    | false =>
      rw [if_neg (by simp), if_neg (by simp)]
      go_enter Try.func48, Try.ntmps48
      go_wp2_with (first | (go_at_call 46; refine (h1 _ (B2 _ _).out).mono ?_; rintro x w1 ⟨rfl, hb1⟩; obtain ⟨m0, m1, m2, r0, r1, r2, rf, rl⟩ := CF.out w1 hb1; have HB1 : Hid (Below w.heap.size w w1) := (HX _ _ _).out hb1; have rf0 := rf 0; have rf1 := rf 1; have rf2 := rf 2; clear hb1 CF) | (go_at_call 61; refine (in_any _ _ _ _).mono ?_; rintro x w' ⟨rfl, rfl⟩) | fail)
      obtain ⟨k0, k1, k2⟩ := blk3 (v0 := .slice none 0 0) (v1 := .slice none 0 0) (v2 := .slice none 0 0) r0 r1 r2
      (try simp only [Exit.inBlock, Exit.then])
      refine bodyPost_ret (by simp [results, Try.results48, go_sem, k0, k1, k2]; try rfl) rfl ?_
      exact ⟨noM, rfl, Mv.Same.refl _, noM_own _ _, blk3_below HB1.out (by omega)⟩
    | true =>
      rw [if_pos rfl, if_pos rfl]
      by_cases ho : ow = 0
      · subst ho
        rw [if_pos rfl]
        go_enter Try.func48, Try.ntmps48
        go_wp2_with (first
          | (go_at_call 46; refine (h1 _ (B2 _ _).out).mono ?_; rintro x w1 ⟨rfl, hb1⟩; obtain ⟨m0, m1, m2, r0, r1, r2, rf, rl⟩ := CF.out w1 hb1; have HB1 : Hid (Below w.heap.size w w1) := (HX _ _ _).out hb1; have rf0 := rf 0; have rf1 := rf 1; have rf2 := rf 2; clear hb1 CF)
          | (go_at_call 61; refine (in_any _ _ _ _).mono ?_; rintro x w' ⟨rfl, rfl⟩)
          | (go_at_call 40; refine (h2 _ HB1.out).mono ?_; rintro x w2 ⟨N, rfl, hS, hO, hb2⟩; obtain ⟨nfa, nfrs, nfcap, nea, nens, necap, nqa, nqus, nqcap⟩ := N; have HSN : Hid (_) := hS; have HON : Hid (_) := hO; have HB2 : Hid (_) := hb2; obtain ⟨nb, no, wb, wo, wc, hnfa, hwa, t0, t3, tw, tf, tl, nl, wl⟩ := poke_at hO hS HG.out hj hm8; dsimp only at hnfa hwa t0 t3 tw; subst hnfa; have HWA : Hid (_) := hwa; have hnl : nfrs.length = 24 := (by have := hS.len; dsimp only at this; rw [this]; exact HS24.out); have R0 : w2.cell? ⟨w.heap.size + 1, 0, none⟩ = some (.slice none 0 0) := (hb2.cell (p := ⟨w.heap.size + 1, 0, none⟩) rl).trans r0; have R1 : w2.cell? ⟨w.heap.size + 1, 1, none⟩ = some (.slice none 0 0) := (hb2.cell (p := ⟨w.heap.size + 1, 1, none⟩) rl).trans r1; have R2 : w2.cell? ⟨w.heap.size + 1, 2, none⟩ = some (.slice none 0 0) := (hb2.cell (p := ⟨w.heap.size + 1, 2, none⟩) rl).trans r2; have RF : ∀ o, w2.frozen? ⟨w.heap.size + 1, o, none⟩ = false := fun o => (hb2.frozen (p := ⟨w.heap.size + 1, o, none⟩) rl).trans (rf o); have RF0 := RF 0; have RF1 := RF 1; have RF2 := RF 2; have RL : w.heap.size + 1 < w2.heap.size := lt_of_cell R0; have hne : wb ≠ w.heap.size + 1 := (by omega); have nbl : nb < w2.heap.size := lt_of_cell t0; rw [HOW.out] at t0; clear RF hS hO hb2 m0 m1 m2 r0 r1 r2 rf rf0 rf1 rf2 hwa; dsimp only)
          | fail)
        have HO3 := HON.out.setWord (k := j) (m := m) (n := n) (by dsimp only; omega) HWA.out (by dsimp only; rw [wl]; exact hm8) wn
        dsimp only at HO3
        have HB3 : Below w.heap.size w (w2.setCell ⟨wb, wo + m, none⟩ (.int .i64 n)) := (HB1.out.trans (HB2.out.mono HB1.out.size)).setCell (by have := HB1.out.size; dsimp only; omega) _
        have HO4 := HO3.keep (w' := ((((w2.setCell ⟨wb, wo + m, none⟩ (.int .i64 n)).setCell ⟨w.heap.size + 1, 0, none⟩ (.slice (some ⟨nb, no, none⟩) 24 nfcap)).setCell ⟨w.heap.size + 1, 1, none⟩ (.slice nea nens.length necap)).setCell ⟨w.heap.size + 1, 2, none⟩ (.slice nqa nqus.length nqcap))) (fun b hb _ => blk3_heap b (by omega)) (by rw [blk3_size]; exact Nat.le_refl _)
        obtain ⟨k0, k1, k2⟩ := blk3 (w := (w2.setCell ⟨wb, wo + m, none⟩ (.int .i64 n))) (b := w.heap.size + 1) (v0 := .slice (some ⟨nb, no, none⟩) 24 nfcap) (v1 := .slice nea nens.length necap) (v2 := .slice nqa nqus.length nqcap) ((World.cell?_setCell_other _ _ _ _ (by intro q; simp only [Addr.mk.injEq] at q; omega)).trans R0) ((World.cell?_setCell_other _ _ _ _ (by intro q; simp only [Addr.mk.injEq] at q; omega)).trans R1) ((World.cell?_setCell_other _ _ _ _ (by intro q; simp only [Addr.mk.injEq] at q; omega)).trans R2)
        have sz : w.heap.size + 1 < ((((w2.setCell ⟨wb, wo + m, none⟩ (.int .i64 n)).setCell ⟨w.heap.size + 1, 0, none⟩ (.slice (some ⟨nb, no, none⟩) 24 nfcap)).setCell ⟨w.heap.size + 1, 1, none⟩ (.slice nea nens.length necap)).setCell ⟨w.heap.size + 1, 2, none⟩ (.slice nqa nqus.length nqcap)).heap.size := by rw [blk3_size]; first | exact RL | (simp [World.setCell]; exact RL)
        have q0 := fun o => (World.cell?_alloc_past (w := ((((w2.setCell ⟨wb, wo + m, none⟩ (.int .i64 n)).setCell ⟨w.heap.size + 1, 0, none⟩ (.slice (some ⟨nb, no, none⟩) 24 nfcap)).setCell ⟨w.heap.size + 1, 1, none⟩ (.slice nea nens.length necap)).setCell ⟨w.heap.size + 1, 2, none⟩ (.slice nqa nqus.length nqcap))) o (w.heap.size + 1) 0 sz).trans k0
        have q1 := fun o => (World.cell?_alloc_past (w := ((((w2.setCell ⟨wb, wo + m, none⟩ (.int .i64 n)).setCell ⟨w.heap.size + 1, 0, none⟩ (.slice (some ⟨nb, no, none⟩) 24 nfcap)).setCell ⟨w.heap.size + 1, 1, none⟩ (.slice nea nens.length necap)).setCell ⟨w.heap.size + 1, 2, none⟩ (.slice nqa nqus.length nqcap))) o (w.heap.size + 1) 1 sz).trans k1
        have q2 := fun o => (World.cell?_alloc_past (w := ((((w2.setCell ⟨wb, wo + m, none⟩ (.int .i64 n)).setCell ⟨w.heap.size + 1, 0, none⟩ (.slice (some ⟨nb, no, none⟩) 24 nfcap)).setCell ⟨w.heap.size + 1, 1, none⟩ (.slice nea nens.length necap)).setCell ⟨w.heap.size + 1, 2, none⟩ (.slice nqa nqus.length nqcap))) o (w.heap.size + 1) 2 sz).trans k2
        have HB4 := blk3_below (v0 := .slice (some ⟨nb, no, none⟩) 24 nfcap) (v1 := .slice nea nens.length necap) (v2 := .slice nqa nqus.length nqcap) HB3 (show w.heap.size ≤ w.heap.size + 1 by omega)
        (try simp only [Exit.inBlock, Exit.then])
        refine bodyPost_ret (by simp [results, Try.results48, go_sem, q0, q1, q2]; try rfl) rfl ?_
        exact ⟨⟨some ⟨nb, no, none⟩, nfrs.set j { nfrs.getD j default with ws := (nfrs.getD j default).ws.set m n }, nfcap, nea, nens, necap, nqa, nqus, nqcap⟩, by simp [hnl], by have := word_same HSN.out (j := j) (by dsimp only; rw [HS24.out]; exact hj) m n _ _ rfl rfl; dsimp only at this; rw [HOW.out] at this; simpa [List.getD_eq_getElem?_getD] using this, (HO4.below ((Below.refl _ _).alloc (Nat.le_refl _) _)).mono (by first | exact HB1.out.size | (have := HRL.out; omega) | omega), HB4.alloc (by have := HB4.size; omega) _⟩
      · have ho' : (ow == 0) = false := by simpa using ho
        rw [if_neg ho]
        go_enter Try.func48, Try.ntmps48
        go_wp2_with (first
          | (go_at_call 46; refine (h1 _ (B2 _ _).out).mono ?_; rintro x w1 ⟨rfl, hb1⟩; obtain ⟨m0, m1, m2, r0, r1, r2, rf, rl⟩ := CF.out w1 hb1; have HB1 : Hid (Below w.heap.size w w1) := (HX _ _ _).out hb1; have rf0 := rf 0; have rf1 := rf 1; have rf2 := rf 2; clear hb1 CF)
          | (go_at_call 61; refine (in_any _ _ _ _).mono ?_; rintro x w' ⟨rfl, rfl⟩)
          | (go_at_call 40; refine (h2 _ HB1.out).mono ?_; rintro x w2 ⟨N, rfl, hS, hO, hb2⟩; obtain ⟨nfa, nfrs, nfcap, nea, nens, necap, nqa, nqus, nqcap⟩ := N; have HSN : Hid (_) := hS; have HON : Hid (_) := hO; have HB2 : Hid (_) := hb2; obtain ⟨nb, no, wb, wo, wc, hnfa, hwa, t0, t3, tw, tf, tl, nl, wl⟩ := poke_at hO hS HG.out hj hm8; dsimp only at hnfa hwa t0 t3 tw; subst hnfa; have HWA : Hid (_) := hwa; have hnl : nfrs.length = 24 := (by have := hS.len; dsimp only at this; rw [this]; exact HS24.out); have R0 : w2.cell? ⟨w.heap.size + 1, 0, none⟩ = some (.slice none 0 0) := (hb2.cell (p := ⟨w.heap.size + 1, 0, none⟩) rl).trans r0; have R1 : w2.cell? ⟨w.heap.size + 1, 1, none⟩ = some (.slice none 0 0) := (hb2.cell (p := ⟨w.heap.size + 1, 1, none⟩) rl).trans r1; have R2 : w2.cell? ⟨w.heap.size + 1, 2, none⟩ = some (.slice none 0 0) := (hb2.cell (p := ⟨w.heap.size + 1, 2, none⟩) rl).trans r2; have RF : ∀ o, w2.frozen? ⟨w.heap.size + 1, o, none⟩ = false := fun o => (hb2.frozen (p := ⟨w.heap.size + 1, o, none⟩) rl).trans (rf o); have RF0 := RF 0; have RF1 := RF 1; have RF2 := RF 2; have RL : w.heap.size + 1 < w2.heap.size := lt_of_cell R0; have hne : wb ≠ w.heap.size + 1 := (by omega); have nbl : nb < w2.heap.size := lt_of_cell t0; rw [HOW.out] at t0; clear RF hS hO hb2 m0 m1 m2 r0 r1 r2 rf rf0 rf1 rf2 hwa; dsimp only)
          | fail)
        have HO4 := HON.out.keep (w' := (((w2.setCell ⟨w.heap.size + 1, 0, none⟩ (.slice (some ⟨nb, no, none⟩) 24 nfcap)).setCell ⟨w.heap.size + 1, 1, none⟩ (.slice nea nens.length necap)).setCell ⟨w.heap.size + 1, 2, none⟩ (.slice nqa nqus.length nqcap))) (fun b hb _ => blk3_heap b (by omega)) (by rw [blk3_size]; exact Nat.le_refl _)
        obtain ⟨k0, k1, k2⟩ := blk3 (w := w2) (b := w.heap.size + 1) (v0 := .slice (some ⟨nb, no, none⟩) 24 nfcap) (v1 := .slice nea nens.length necap) (v2 := .slice nqa nqus.length nqcap) R0 R1 R2
        have sz : w.heap.size + 1 < (((w2.setCell ⟨w.heap.size + 1, 0, none⟩ (.slice (some ⟨nb, no, none⟩) 24 nfcap)).setCell ⟨w.heap.size + 1, 1, none⟩ (.slice nea nens.length necap)).setCell ⟨w.heap.size + 1, 2, none⟩ (.slice nqa nqus.length nqcap)).heap.size := by rw [blk3_size]; first | exact RL | (simp [World.setCell]; exact RL)
        have q0 := fun o => (World.cell?_alloc_past (w := (((w2.setCell ⟨w.heap.size + 1, 0, none⟩ (.slice (some ⟨nb, no, none⟩) 24 nfcap)).setCell ⟨w.heap.size + 1, 1, none⟩ (.slice nea nens.length necap)).setCell ⟨w.heap.size + 1, 2, none⟩ (.slice nqa nqus.length nqcap))) o (w.heap.size + 1) 0 sz).trans k0
        have q1 := fun o => (World.cell?_alloc_past (w := (((w2.setCell ⟨w.heap.size + 1, 0, none⟩ (.slice (some ⟨nb, no, none⟩) 24 nfcap)).setCell ⟨w.heap.size + 1, 1, none⟩ (.slice nea nens.length necap)).setCell ⟨w.heap.size + 1, 2, none⟩ (.slice nqa nqus.length nqcap))) o (w.heap.size + 1) 1 sz).trans k1
        have q2 := fun o => (World.cell?_alloc_past (w := (((w2.setCell ⟨w.heap.size + 1, 0, none⟩ (.slice (some ⟨nb, no, none⟩) 24 nfcap)).setCell ⟨w.heap.size + 1, 1, none⟩ (.slice nea nens.length necap)).setCell ⟨w.heap.size + 1, 2, none⟩ (.slice nqa nqus.length nqcap))) o (w.heap.size + 1) 2 sz).trans k2
        have HB4 := blk3_below (v0 := .slice (some ⟨nb, no, none⟩) 24 nfcap) (v1 := .slice nea nens.length necap) (v2 := .slice nqa nqus.length nqcap) (HB1.out.trans (HB2.out.mono HB1.out.size)) (show w.heap.size ≤ w.heap.size + 1 by omega)
        (try simp only [Exit.inBlock, Exit.then])
        refine bodyPost_ret (by simp [results, Try.results48, go_sem, q0, q1, q2]; try rfl) rfl ?_
        exact ⟨⟨some ⟨nb, no, none⟩, nfrs, nfcap, nea, nens, necap, nqa, nqus, nqcap⟩, by simp [hnl], HSN.out, (HO4.below ((Below.refl _ _).alloc (Nat.le_refl _) _)).mono (by first | exact HB1.out.size | (have := HRL.out; omega) | omega), HB4.alloc (by have := HB4.size; omega) _⟩
  · have EF : pokeF ⟨fa, frs, fcap, ea, ens, ecap, qa, qus, qcap⟩ f at_ n = wordF ⟨fa, frs, fcap, ea, ens, ecap, qa, qus, qcap⟩ f at_ := by unfold pokeF; rw [if_neg hw]
    rw [EF, if_neg hw]
    have hz1 : (wordF ⟨fa, frs, fcap, ea, ens, ecap, qa, qus, qcap⟩ f at_ != 0) = true := by simpa using hw
    have hz2 : (wordF ⟨fa, frs, fcap, ea, ens, ecap, qa, qus, qcap⟩ f at_ == 0) = false := by simpa using hw
    clear hM hF hw EF
    generalize wordF ⟨fa, frs, fcap, ea, ens, ecap, qa, qus, qcap⟩ f at_ = z at h1 hz1 hz2 ⊢
    go_enter Try.func48, Try.ntmps48
    go_wp2_with (first | (go_at_call 46; refine (h1 _ (B2 _ _).out).mono ?_; rintro x w1 ⟨rfl, hb1⟩; obtain ⟨m0, m1, m2, r0, r1, r2, rf, rl⟩ := CF.out w1 hb1; have HB1 : Hid (Below w.heap.size w w1) := (HX _ _ _).out hb1; have rf0 := rf 0; have rf1 := rf 1; have rf2 := rf 2; clear hb1 CF) | fail)
    obtain ⟨k0, k1, k2⟩ := blk3 (v0 := .slice none 0 0) (v1 := .slice none 0 0) (v2 := .slice none 0 0) r0 r1 r2
    (try simp only [Exit.inBlock, Exit.then])
    refine bodyPost_ret (by simp [results, Try.results48, go_sem, k0, k1, k2]; try rfl) rfl ?_
    exact ⟨noM, rfl, Mv.Same.refl _, noM_own _ _, blk3_below HB1.out (by omega)⟩

end Go.Proofs.Ytdbbiibnhgcndaa
