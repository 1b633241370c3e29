/-
  What the calls Start (epc) and StartedOf (riddleref) answer for every machine and enclave: both what the document asks, in memory of their own; they turn nothing that was in memory. The condition: the lists are within the reach of the form.
-/
import Derived.Test.YtdbbiibnhgcndaaEnc
import Derived.Test.YtdbbiibnhgcndaaCopyM
import Derived.Test.YtdbbiibnhgcndaaMCopy
namespace Go.Proofs.Ytdbbiibnhgcndaa
open Go.RowKit

/-- no machine -/
def noM : Mv := ⟨none, [], 0, none, [], 0, none, [], 0⟩
theorem noM_at (w : World) : MachAt w noM := ⟨.inl rfl, Nat.zero_le _, Nat.zero_le _, fun j hj => absurd hj (by simp [noM]), .inl rfl, Nat.zero_le _, fun j hj => absurd hj (by simp [noM]), .inl rfl, Nat.zero_le _, fun j hj => absurd hj (by simp [noM])⟩
theorem noM_own (n0 : Nat) (w : World) : Owned n0 w noM :=
  ⟨noM_at w, fun b o s e => (by cases e), fun b o s e => (by cases e), fun b o s e => (by cases e), fun j hj => absurd hj (by simp [noM]), off_none, off_none, off_none, fun j hj => absurd hj (by simp [noM]), fun j hj => absurd hj (by simp [noM]), fun j hj => absurd hj (by simp [noM]), fun i j hi => absurd hi (by simp [noM])⟩
def startM (M : Mv) (e : Int) : Mv := if askF M e 1 = 0 then { M with ens := M.ens.set (e - 1).toNat { M.ens.getD (e - 1).toNat default with st := 2 } } else noM
theorem startM_same {M N : Mv} (h : M.Same N) (e : Int) : (startM M e).Same (startM N e) := by
  unfold startM
  rw [askF_same h, h.en]
  split
  · exact ⟨h.len, h.fr, rfl, h.qu⟩
  · exact Mv.Same.refl _
theorem fits_same {M N : Mv} (h : M.Fits) (hs : N.Same M) : N.Fits :=
  ⟨by rw [hs.len]; exact h.fr, fun j hj => by rw [(hs.fr j hj).2.2.2]; exact h.ws j (by rw [← hs.len]; exact hj), by rw [hs.en]; exact h.en, by rw [hs.qu]; exact h.qu⟩
theorem box3 {x v : World} {a b c : Value} {t : TypeId} (h : Below (x.alloc (.cells #[a, b, c] t)).heap.size (x.alloc (.cells #[a, b, c] t)) v) :
    v.cell? ⟨x.heap.size, 0, none⟩ = some a ∧ v.cell? ⟨x.heap.size, 1, none⟩ = some b ∧ v.cell? ⟨x.heap.size, 2, none⟩ = some c ∧ x.heap.size < v.heap.size := by
  refine ⟨(h.cell (p := ⟨x.heap.size, 0, none⟩) (by simp)).trans ?_, (h.cell (p := ⟨x.heap.size, 1, none⟩) (by simp)).trans ?_, (h.cell (p := ⟨x.heap.size, 2, none⟩) (by simp)).trans ?_, by have := h.size; simp at this; omega⟩
  · rw [World.cell?_alloc_at _ _ _ _ rfl]; rfl
  · rw [World.cell?_alloc_at _ _ _ _ rfl]; rfl
  · rw [World.cell?_alloc_at _ _ _ _ rfl]; rfl
theorem blk3 {w : World} {b : Nat} {v0 v1 v2 x0 x1 x2 : Value} (h0 : w.cell? ⟨b, 0, none⟩ = some x0) (h1 : w.cell? ⟨b, 1, none⟩ = some x1) (h2 : w.cell? ⟨b, 2, none⟩ = some x2) :
    (((w.setCell ⟨b, 0, none⟩ v0).setCell ⟨b, 1, none⟩ v1).setCell ⟨b, 2, none⟩ v2).cell? ⟨b, 0, none⟩ = some v0 ∧ (((w.setCell ⟨b, 0, none⟩ v0).setCell ⟨b, 1, none⟩ v1).setCell ⟨b, 2, none⟩ v2).cell? ⟨b, 1, none⟩ = some v1 ∧
      (((w.setCell ⟨b, 0, none⟩ v0).setCell ⟨b, 1, none⟩ v1).setCell ⟨b, 2, none⟩ v2).cell? ⟨b, 2, none⟩ = some v2 := by
  refine ⟨?_, ?_, ?_⟩
  · rw [World.cell?_setCell_other _ _ _ _ (by simp), World.cell?_setCell_other _ _ _ _ (by simp)]
    exact World.cell?_setCell_same _ _ _ h0
  · rw [World.cell?_setCell_other _ _ _ _ (by simp)]
    exact World.cell?_setCell_same _ _ _ ((World.cell?_setCell_other _ _ _ _ (by simp)).trans h1)
  · exact World.cell?_setCell_same _ _ _ ((World.cell?_setCell_other _ _ _ _ (by simp)).trans ((World.cell?_setCell_other _ _ _ _ (by simp)).trans h2))
theorem blk3_heap {w : World} {b : Nat} {v0 v1 v2 : Value} (c : Nat) (h : c ≠ b) : (((w.setCell ⟨b, 0, none⟩ v0).setCell ⟨b, 1, none⟩ v1).setCell ⟨b, 2, none⟩ v2).heap[c]? = w.heap[c]? := by
  rw [Below.heap_setCell _ _ _ _ h, Below.heap_setCell _ _ _ _ h, Below.heap_setCell _ _ _ _ h]
theorem blk3_below {w0 w : World} {b B : Nat} {v0 v1 v2 : Value} (h : Below B w0 w) (hb : B ≤ b) : Below B w0 (((w.setCell ⟨b, 0, none⟩ v0).setCell ⟨b, 1, none⟩ v1).setCell ⟨b, 2, none⟩ v2) :=
  ((h.setCell (by simpa using hb) _).setCell (by simpa using hb) _).setCell (by simpa using hb) _
theorem blk3_size {w : World} {b : Nat} {v0 v1 v2 : Value} : (((w.setCell ⟨b, 0, none⟩ v0).setCell ⟨b, 1, none⟩ v1).setCell ⟨b, 2, none⟩ v2).heap.size = w.heap.size := by simp [World.setCell]

set_option maxRecDepth 100000 in
set_option maxHeartbeats 4000000 in
theorem start_any (M : Mv) (e : Int) (w : World) (hM : MachAt w M) (hF : M.Fits) :
    Calls Try.prog 41 #[M.val, .int .i64 e] w fun x w' => ∃ N : Mv, x = .returned (.tuple #[N.val, .int .i64 (askF M e 1)]) ∧ N.Same (startM M e) ∧ Owned w.heap.size w' N ∧ Below w.heap.size w w' := by
  have h1 := fun w' (h : Below w.heap.size w w') => checkOpened_any M e w' (hM.below h)
  have h2 := fun w' (h : Below w.heap.size w w') => copyM_any M w' (hM.below h) hF
  have HM : Hid (MachAt w M) := hM
  unfold startM
  unfold Mv.val at h1 h2 ⊢
  obtain ⟨fa, frs, fcap, ea, ens, ecap, qa, qus, qcap⟩ := M
  dsimp only at h1 h2 ⊢
  have B2 : ∀ o1 o2, Hid (Below w.heap.size w ((w.alloc o1).alloc o2)) := fun o1 o2 => ((Below.refl _ _).alloc (Nat.le_refl _) _).alloc (by simp) _
  have HX : ∀ o1 o2 w1, Hid (Below ((w.alloc o1).alloc o2).heap.size ((w.alloc o1).alloc o2) w1 → Below w.heap.size w w1) := fun o1 o2 w1 h => (B2 o1 o2).out.trans (h.mono (by simp; omega))
  have CF : Hid (∀ w1, Below ((w.alloc (.cells #[.slice fa frs.length fcap, .slice ea ens.length ecap, .slice qa qus.length qcap] 43)).alloc (.cells #[.slice none 0 0, .slice none 0 0, .slice none 0 0] 43)).heap.size ((w.alloc (.cells #[.slice fa frs.length fcap, .slice ea ens.length ecap, .slice qa qus.length qcap] 43)).alloc (.cells #[.slice none 0 0, .slice none 0 0, .slice none 0 0] 43)) w1 →
      w1.cell? ⟨w.heap.size, 0, none⟩ = some (.slice fa frs.length fcap) ∧ w1.cell? ⟨w.heap.size, 1, none⟩ = some (.slice ea ens.length ecap) ∧ w1.cell? ⟨w.heap.size, 2, none⟩ = some (.slice qa qus.length qcap) ∧
      w1.cell? ⟨w.heap.size + 1, 0, none⟩ = some (.slice none 0 0) ∧ w1.cell? ⟨w.heap.size + 1, 1, none⟩ = some (.slice none 0 0) ∧ w1.cell? ⟨w.heap.size + 1, 2, none⟩ = some (.slice none 0 0) ∧ (∀ o, w1.frozen? ⟨w.heap.size + 1, o, none⟩ = false) ∧ w.heap.size + 1 < w1.heap.size) := fun w1 hb => by
    refine ⟨(hb.cell (p := ⟨w.heap.size, 0, none⟩) (by simp; omega)).trans ?_, (hb.cell (p := ⟨w.heap.size, 1, none⟩) (by simp; omega)).trans ?_, (hb.cell (p := ⟨w.heap.size, 2, none⟩) (by simp; omega)).trans ?_, (hb.cell (p := ⟨w.heap.size + 1, 0, none⟩) (by simp)).trans ?_, (hb.cell (p := ⟨w.heap.size + 1, 1, none⟩) (by simp)).trans ?_, (hb.cell (p := ⟨w.heap.size + 1, 2, none⟩) (by simp)).trans ?_, fun o => (hb.frozen (p := ⟨w.heap.size + 1, o, none⟩) (by simp)).trans (World.frozen?_alloc_at _ _ _ _ (by simp)), by have := hb.size; simp at this; omega⟩
    · rw [World.cell?_alloc_past _ _ _ (by simp), World.cell?_alloc_at _ _ _ _ rfl]; rfl
    · rw [World.cell?_alloc_past _ _ _ (by simp), World.cell?_alloc_at _ _ _ _ rfl]; rfl
    · rw [World.cell?_alloc_past _ _ _ (by simp), World.cell?_alloc_at _ _ _ _ rfl]; rfl
    · rw [World.cell?_alloc_at _ _ _ _ (by simp)]; rfl
    · rw [World.cell?_alloc_at _ _ _ _ (by simp)]; rfl
    · rw [World.cell?_alloc_at _ _ _ _ (by simp)]; rfl
  by_cases hz : askF ⟨fa, frs, fcap, ea, ens, ecap, qa, qus, qcap⟩ e 1 = 0
  · obtain ⟨g0, m, rfl, hm4, _, _⟩ := askF_zero hz
    have hs := (machF_sizes g0).2.1
    dsimp only at hs
    rw [hz] at h1 ⊢
    rw [if_pos rfl, show ((m : Int) + 1 - 1).toNat = m by omega]
    have hwm : IntKind.i64.wrap ((m : Int) + 1 - 1) = (m : Int) := by rw [IntKind.wrap_i64]; omega
    have HS : Hid (ens.length = 4) := hs
    clear hM hF hz g0 hs
    go_enter Try.func41, Try.ntmps41
    go_wp2_with (first
      | (go_at_call 81; refine (h1 _ (B2 _ _).out).mono ?_; rintro x w1 ⟨rfl, hb1⟩; obtain ⟨m0, m1, m2, r0, r1, r2, rf, rl⟩ := CF.out w1 hb1; have HB1 : Hid (Below w.heap.size w w1) := (HX _ _ _).out hb1; clear hb1 CF)
      | (go_at_call 37; refine (h2 _ HB1.out).mono ?_; rintro x w2 ⟨N, rfl, hS, hO, hb2⟩; obtain ⟨nfa, nfrs, nfcap, nea, nens, necap, nqa, nqus, nqcap⟩ := N; have HSN : Hid (_) := hS; have HON : Hid (_) := hO; have HB2 : Hid (_) := hb2; obtain ⟨nb, no, hnea, t0, _⟩ := hO.at_.enclave (j := m) (by dsimp only; have := hS.en; dsimp only at this; rw [this, HS.out]; exact hm4); dsimp only at hnea t0; subst hnea; have hnl : nens.length = 4 := by have := hS.en; dsimp only at this; rw [this]; exact HS.out
         have nn := hO.ne nb no none rfl; have tf : w2.frozen? ⟨nb, no + m * 7, none⟩ = false := nn.2.2 _; have tl : nb < w2.heap.size := nn.2.1; have R0 : w2.cell? ⟨w.heap.size + 1, 0, none⟩ = some (.slice none 0 0) := (hb2.cell (p := ⟨w.heap.size + 1, 0, none⟩) rl).trans r0; have R1 : w2.cell? ⟨w.heap.size + 1, 1, none⟩ = some (.slice none 0 0) := (hb2.cell (p := ⟨w.heap.size + 1, 1, none⟩) rl).trans r1; have R2 : w2.cell? ⟨w.heap.size + 1, 2, none⟩ = some (.slice none 0 0) := (hb2.cell (p := ⟨w.heap.size + 1, 2, none⟩) rl).trans r2; have RF : ∀ o, w2.frozen? ⟨w.heap.size + 1, o, none⟩ = false := fun o => (hb2.frozen (p := ⟨w.heap.size + 1, o, none⟩) rl).trans (rf o); have RF0 := RF 0; have RF1 := RF 1; have RF2 := RF 2; have RL : w.heap.size + 1 < w2.heap.size := lt_of_cell R0; have hne : nb ≠ w.heap.size + 1 := (by have := nn.1; omega); clear nn RF hS hO hb2 m0 m1 m2 r0 r1 r2 rf; dsimp only)
      | fail)
    have eN := HSN.out.en
    dsimp only at eN
    have hok := HON.out.at_.enok m (by dsimp only; omega)
    dsimp only at hok
    have HO3 := HON.out.setEn (k := m) (i0 := 0) (e' := { nens.getD m default with st := 2 }) (v := .int .i64 2) rfl (by dsimp only; omega) (by omega) ⟨by show (Lit.int .i64 2).wf = true; decide, hok.len, hok.wpc, hok.w0, hok.w1, hok.w2, hok.w3⟩ (fun i hi => by
      match i, hi with
      | 0, _ => rfl
      | 1, _ => rfl
      | 2, _ => rfl
      | 3, _ => rfl
      | 4, _ => rfl
      | 5, _ => rfl
      | 6, _ => rfl)
    dsimp only [Nat.add_zero] at HO3
    have HO4 := HO3.keep (w' := (((w2.setCell ⟨nb, no + m * 7, none⟩ (.int .i64 2)).setCell ⟨w.heap.size + 1, 0, none⟩ (.slice nfa nfrs.length nfcap)).setCell ⟨w.heap.size + 1, 1, none⟩ (.slice (some ⟨nb, no, none⟩) 4 necap)).setCell ⟨w.heap.size + 1, 2, none⟩ (.slice nqa nqus.length nqcap)) (fun b hb _ => blk3_heap b (by omega)) (by rw [blk3_size]; exact Nat.le_refl _)
    have HB3 : Below w.heap.size w (w2.setCell ⟨nb, no + m * 7, none⟩ (.int .i64 2)) := (HB1.out.trans (HB2.out.mono HB1.out.size)).setCell (by have := (HON.out.ne nb no none rfl).1; have := HB1.out.size; dsimp only; omega) _
    obtain ⟨k0, k1, k2⟩ := blk3 (w := w2.setCell ⟨nb, no + m * 7, none⟩ (.int .i64 2)) (b := w.heap.size + 1) (v0 := .slice nfa nfrs.length nfcap) (v1 := .slice (some ⟨nb, no, none⟩) 4 necap) (v2 := .slice nqa nqus.length nqcap) ((World.cell?_setCell_other _ _ _ _ (by intro q; simp only [Addr.mk.injEq] at q; omega)).trans R0) ((World.cell?_setCell_other _ _ _ _ (by intro q; simp only [Addr.mk.injEq] at q; omega)).trans R1) ((World.cell?_setCell_other _ _ _ _ (by intro q; simp only [Addr.mk.injEq] at q; omega)).trans R2)
    have sz : w.heap.size + 1 < (((((w2.setCell ⟨nb, no + m * 7, none⟩ (.int .i64 2)).setCell ⟨w.heap.size + 1, 0, none⟩ (.slice nfa nfrs.length nfcap)).setCell ⟨w.heap.size + 1, 1, none⟩ (.slice (some ⟨nb, no, none⟩) 4 necap)).setCell ⟨w.heap.size + 1, 2, none⟩ (.slice nqa nqus.length nqcap))).heap.size := by rw [blk3_size]; simp [World.setCell]; exact RL
    have q0 := fun o => (World.cell?_alloc_past (w := (((w2.setCell ⟨nb, no + m * 7, none⟩ (.int .i64 2)).setCell ⟨w.heap.size + 1, 0, none⟩ (.slice nfa nfrs.length nfcap)).setCell ⟨w.heap.size + 1, 1, none⟩ (.slice (some ⟨nb, no, none⟩) 4 necap)).setCell ⟨w.heap.size + 1, 2, none⟩ (.slice nqa nqus.length nqcap)) o (w.heap.size + 1) 0 sz).trans k0
    have q1 := fun o => (World.cell?_alloc_past (w := (((w2.setCell ⟨nb, no + m * 7, none⟩ (.int .i64 2)).setCell ⟨w.heap.size + 1, 0, none⟩ (.slice nfa nfrs.length nfcap)).setCell ⟨w.heap.size + 1, 1, none⟩ (.slice (some ⟨nb, no, none⟩) 4 necap)).setCell ⟨w.heap.size + 1, 2, none⟩ (.slice nqa nqus.length nqcap)) o (w.heap.size + 1) 1 sz).trans k1
    have q2 := fun o => (World.cell?_alloc_past (w := (((w2.setCell ⟨nb, no + m * 7, none⟩ (.int .i64 2)).setCell ⟨w.heap.size + 1, 0, none⟩ (.slice nfa nfrs.length nfcap)).setCell ⟨w.heap.size + 1, 1, none⟩ (.slice (some ⟨nb, no, none⟩) 4 necap)).setCell ⟨w.heap.size + 1, 2, none⟩ (.slice nqa nqus.length nqcap)) o (w.heap.size + 1) 2 sz).trans k2
    have HB4 := blk3_below (v0 := .slice nfa nfrs.length nfcap) (v1 := .slice (some ⟨nb, no, none⟩) 4 necap) (v2 := .slice nqa nqus.length nqcap) HB3 (show w.heap.size ≤ w.heap.size + 1 by omega)
    (try simp only [Exit.inBlock, Exit.then])
    refine bodyPost_ret (by simp [results, Try.results41, go_sem, q0, q1, q2]; try rfl) rfl ?_
    refine ⟨⟨nfa, nfrs, nfcap, some ⟨nb, no, none⟩, nens.set m { nens.getD m default with st := 2 }, necap, nqa, nqus, nqcap⟩, by simp [hnl], ⟨HSN.out.len, HSN.out.fr, by dsimp only; rw [eN]; first | done | rfl | simp [List.getD_eq_getElem?_getD], HSN.out.qu⟩, (HO4.below ((Below.refl _ _).alloc (Nat.le_refl _) _)).mono (by first | exact HB1.out.size | (have := HRL.out; omega) | omega), HB4.alloc (by have := HB4.size; omega) _⟩
  · rw [if_neg hz]
    have hz1 : (askF ⟨fa, frs, fcap, ea, ens, ecap, qa, qus, qcap⟩ e 1 != 0) = true := by simpa using hz
    clear hM hF hz
    generalize askF ⟨fa, frs, fcap, ea, ens, ecap, qa, qus, qcap⟩ e 1 = z at h1 hz1 ⊢
    go_enter Try.func41, Try.ntmps41
    go_wp2_with (go_at_call 81; refine (h1 _ (B2 _ _).out).mono ?_; rintro x w1 ⟨rfl, hb1⟩; obtain ⟨m0, m1, m2, r0, r1, r2, rf, rl⟩ := CF.out w1 hb1; have HB1 : Hid (Below w.heap.size w w1) := (HX _ _ _).out hb1; have rf0 := rf 0; have rf1 := rf 1; have rf2 := rf 2; clear hb1 CF)
    obtain ⟨k0, k1, k2⟩ := blk3 (v0 := .slice none 0 0) (v1 := .slice none 0 0) (v2 := .slice none 0 0) r0 r1 r2
    (try simp only [Exit.inBlock, Exit.then])
    refine bodyPost_ret (by simp [results, Try.results41, go_sem, k0, k1, k2]; try rfl) rfl ?_
    exact ⟨noM, rfl, Mv.Same.refl _, noM_own _ _, blk3_below HB1.out (by omega)⟩

set_option maxRecDepth 100000 in
set_option maxHeartbeats 4000000 in
theorem started_any (M : Mv) (e : Int) (w : World) (hM : MachAt w M) (hF : M.Fits) :
    Calls Try.prog 42 #[M.val, .int .i64 e] w fun x w' => ∃ N : Mv, x = .returned (.tuple #[N.val, .int .i64 (askF M e 1)]) ∧ N.Same (startM M e) ∧ Owned w.heap.size w' N ∧ Below w.heap.size w w' := by
  have h1 := fun w' (h : Below w.heap.size w w') => asked_any M e 1 w' (hM.below h)
  have h2 := fun w' (h : Below w.heap.size w w') => mcopy_any M w' (hM.below h) hF
  have HM : Hid (MachAt w M) := hM
  unfold startM
  unfold Mv.val at h1 h2 ⊢
  obtain ⟨fa, frs, fcap, ea, ens, ecap, qa, qus, qcap⟩ := M
  dsimp only at h1 h2 ⊢
  have B2 : ∀ o1 o2, Hid (Below w.heap.size w ((w.alloc o1).alloc o2)) := fun o1 o2 => ((Below.refl _ _).alloc (Nat.le_refl _) _).alloc (by simp) _
  have HX : ∀ o1 o2 w1, Hid (Below ((w.alloc o1).alloc o2).heap.size ((w.alloc o1).alloc o2) w1 → Below w.heap.size w w1) := fun o1 o2 w1 h => (B2 o1 o2).out.trans (h.mono (by simp; omega))
  have CF : Hid (∀ w1, Below ((w.alloc (.cells #[.slice fa frs.length fcap, .slice ea ens.length ecap, .slice qa qus.length qcap] 43)).alloc (.cells #[.slice none 0 0, .slice none 0 0, .slice none 0 0] 43)).heap.size ((w.alloc (.cells #[.slice fa frs.length fcap, .slice ea ens.length ecap, .slice qa qus.length qcap] 43)).alloc (.cells #[.slice none 0 0, .slice none 0 0, .slice none 0 0] 43)) w1 →
      w1.cell? ⟨w.heap.size, 0, none⟩ = some (.slice fa frs.length fcap) ∧ w1.cell? ⟨w.heap.size, 1, none⟩ = some (.slice ea ens.length ecap) ∧ w1.cell? ⟨w.heap.size, 2, none⟩ = some (.slice qa qus.length qcap) ∧
      w1.cell? ⟨w.heap.size + 1, 0, none⟩ = some (.slice none 0 0) ∧ w1.cell? ⟨w.heap.size + 1, 1, none⟩ = some (.slice none 0 0) ∧ w1.cell? ⟨w.heap.size + 1, 2, none⟩ = some (.slice none 0 0) ∧ (∀ o, w1.frozen? ⟨w.heap.size + 1, o, none⟩ = false) ∧ w.heap.size + 1 < w1.heap.size) := fun w1 hb => by
    refine ⟨(hb.cell (p := ⟨w.heap.size, 0, none⟩) (by simp; omega)).trans ?_, (hb.cell (p := ⟨w.heap.size, 1, none⟩) (by simp; omega)).trans ?_, (hb.cell (p := ⟨w.heap.size, 2, none⟩) (by simp; omega)).trans ?_, (hb.cell (p := ⟨w.heap.size + 1, 0, none⟩) (by simp)).trans ?_, (hb.cell (p := ⟨w.heap.size + 1, 1, none⟩) (by simp)).trans ?_, (hb.cell (p := ⟨w.heap.size + 1, 2, none⟩) (by simp)).trans ?_, fun o => (hb.frozen (p := ⟨w.heap.size + 1, o, none⟩) (by simp)).trans (World.frozen?_alloc_at _ _ _ _ (by simp)), by have := hb.size; simp at this; omega⟩
    · rw [World.cell?_alloc_past _ _ _ (by simp), World.cell?_alloc_at _ _ _ _ rfl]; rfl
    · rw [World.cell?_alloc_past _ _ _ (by simp), World.cell?_alloc_at _ _ _ _ rfl]; rfl
    · rw [World.cell?_alloc_past _ _ _ (by simp), World.cell?_alloc_at _ _ _ _ rfl]; rfl
    · rw [World.cell?_alloc_at _ _ _ _ (by simp)]; rfl
    · rw [World.cell?_alloc_at _ _ _ _ (by simp)]; rfl
    · rw [World.cell?_alloc_at _ _ _ _ (by simp)]; rfl
  by_cases hz : askF ⟨fa, frs, fcap, ea, ens, ecap, qa, qus, qcap⟩ e 1 = 0
  · obtain ⟨g0, m, rfl, hm4, _, _⟩ := askF_zero hz
    have hs := (machF_sizes g0).2.1
    dsimp only at hs
    rw [hz] at h1 ⊢
    rw [if_pos rfl, show ((m : Int) + 1 - 1).toNat = m by omega]
    have hwm : IntKind.i64.wrap ((m : Int) + 1 - 1) = (m : Int) := by rw [IntKind.wrap_i64]; omega
    have HS : Hid (ens.length = 4) := hs
    clear hM hF hz g0 hs
    go_enter Try.func42, Try.ntmps42
    go_wp2_with (first
      | (go_at_call 82; refine (h1 _ (B2 _ _).out).mono ?_; rintro x w1 ⟨rfl, hb1⟩; obtain ⟨m0, m1, m2, r0, r1, r2, rf, rl⟩ := CF.out w1 hb1; have HB1 : Hid (Below w.heap.size w w1) := (HX _ _ _).out hb1; clear hb1 CF)
      | (go_at_call 40; refine (h2 _ HB1.out).mono ?_; rintro x w2 ⟨N, rfl, hS, hO, hb2⟩; obtain ⟨nfa, nfrs, nfcap, nea, nens, necap, nqa, nqus, nqcap⟩ := N; have HSN : Hid (_) := hS; have HON : Hid (_) := hO; have HB2 : Hid (_) := hb2; obtain ⟨nb, no, hnea, t0, _⟩ := hO.at_.enclave (j := m) (by dsimp only; have := hS.en; dsimp only at this; rw [this, HS.out]; exact hm4); dsimp only at hnea t0; subst hnea; have hnl : nens.length = 4 := by have := hS.en; dsimp only at this; rw [this]; exact HS.out
         have nn := hO.ne nb no none rfl; have tf : w2.frozen? ⟨nb, no + m * 7, none⟩ = false := nn.2.2 _; have tl : nb < w2.heap.size := nn.2.1; have R0 : w2.cell? ⟨w.heap.size + 1, 0, none⟩ = some (.slice none 0 0) := (hb2.cell (p := ⟨w.heap.size + 1, 0, none⟩) rl).trans r0; have R1 : w2.cell? ⟨w.heap.size + 1, 1, none⟩ = some (.slice none 0 0) := (hb2.cell (p := ⟨w.heap.size + 1, 1, none⟩) rl).trans r1; have R2 : w2.cell? ⟨w.heap.size + 1, 2, none⟩ = some (.slice none 0 0) := (hb2.cell (p := ⟨w.heap.size + 1, 2, none⟩) rl).trans r2; have RF : ∀ o, w2.frozen? ⟨w.heap.size + 1, o, none⟩ = false := fun o => (hb2.frozen (p := ⟨w.heap.size + 1, o, none⟩) rl).trans (rf o); have RF0 := RF 0; have RF1 := RF 1; have RF2 := RF 2; have RL : w.heap.size + 1 < w2.heap.size := lt_of_cell R0; have hne : nb ≠ w.heap.size + 1 := (by have := nn.1; omega); clear nn RF hS hO hb2 m0 m1 m2 r0 r1 r2 rf; dsimp only)
      | fail)
    have eN := HSN.out.en
    dsimp only at eN
    have hok := HON.out.at_.enok m (by dsimp only; omega)
    dsimp only at hok
    have HO3 := HON.out.setEn (k := m) (i0 := 0) (e' := { nens.getD m default with st := 2 }) (v := .int .i64 2) rfl (by dsimp only; omega) (by omega) ⟨by show (Lit.int .i64 2).wf = true; decide, hok.len, hok.wpc, hok.w0, hok.w1, hok.w2, hok.w3⟩ (fun i hi => by
      match i, hi with
      | 0, _ => rfl
      | 1, _ => rfl
      | 2, _ => rfl
      | 3, _ => rfl
      | 4, _ => rfl
      | 5, _ => rfl
      | 6, _ => rfl)
    dsimp only [Nat.add_zero] at HO3
    have HO4 := HO3.keep (w' := (((w2.setCell ⟨nb, no + m * 7, none⟩ (.int .i64 2)).setCell ⟨w.heap.size + 1, 0, none⟩ (.slice nfa nfrs.length nfcap)).setCell ⟨w.heap.size + 1, 1, none⟩ (.slice (some ⟨nb, no, none⟩) 4 necap)).setCell ⟨w.heap.size + 1, 2, none⟩ (.slice nqa nqus.length nqcap)) (fun b hb _ => blk3_heap b (by omega)) (by rw [blk3_size]; exact Nat.le_refl _)
    have HB3 : Below w.heap.size w (w2.setCell ⟨nb, no + m * 7, none⟩ (.int .i64 2)) := (HB1.out.trans (HB2.out.mono HB1.out.size)).setCell (by have := (HON.out.ne nb no none rfl).1; have := HB1.out.size; dsimp only; omega) _
    obtain ⟨k0, k1, k2⟩ := blk3 (w := w2.setCell ⟨nb, no + m * 7, none⟩ (.int .i64 2)) (b := w.heap.size + 1) (v0 := .slice nfa nfrs.length nfcap) (v1 := .slice (some ⟨nb, no, none⟩) 4 necap) (v2 := .slice nqa nqus.length nqcap) ((World.cell?_setCell_other _ _ _ _ (by intro q; simp only [Addr.mk.injEq] at q; omega)).trans R0) ((World.cell?_setCell_other _ _ _ _ (by intro q; simp only [Addr.mk.injEq] at q; omega)).trans R1) ((World.cell?_setCell_other _ _ _ _ (by intro q; simp only [Addr.mk.injEq] at q; omega)).trans R2)
    have sz : w.heap.size + 1 < (((((w2.setCell ⟨nb, no + m * 7, none⟩ (.int .i64 2)).setCell ⟨w.heap.size + 1, 0, none⟩ (.slice nfa nfrs.length nfcap)).setCell ⟨w.heap.size + 1, 1, none⟩ (.slice (some ⟨nb, no, none⟩) 4 necap)).setCell ⟨w.heap.size + 1, 2, none⟩ (.slice nqa nqus.length nqcap))).heap.size := by rw [blk3_size]; simp [World.setCell]; exact RL
    have q0 := fun o => (World.cell?_alloc_past (w := (((w2.setCell ⟨nb, no + m * 7, none⟩ (.int .i64 2)).setCell ⟨w.heap.size + 1, 0, none⟩ (.slice nfa nfrs.length nfcap)).setCell ⟨w.heap.size + 1, 1, none⟩ (.slice (some ⟨nb, no, none⟩) 4 necap)).setCell ⟨w.heap.size + 1, 2, none⟩ (.slice nqa nqus.length nqcap)) o (w.heap.size + 1) 0 sz).trans k0
    have q1 := fun o => (World.cell?_alloc_past (w := (((w2.setCell ⟨nb, no + m * 7, none⟩ (.int .i64 2)).setCell ⟨w.heap.size + 1, 0, none⟩ (.slice nfa nfrs.length nfcap)).setCell ⟨w.heap.size + 1, 1, none⟩ (.slice (some ⟨nb, no, none⟩) 4 necap)).setCell ⟨w.heap.size + 1, 2, none⟩ (.slice nqa nqus.length nqcap)) o (w.heap.size + 1) 1 sz).trans k1
    have q2 := fun o => (World.cell?_alloc_past (w := (((w2.setCell ⟨nb, no + m * 7, none⟩ (.int .i64 2)).setCell ⟨w.heap.size + 1, 0, none⟩ (.slice nfa nfrs.length nfcap)).setCell ⟨w.heap.size + 1, 1, none⟩ (.slice (some ⟨nb, no, none⟩) 4 necap)).setCell ⟨w.heap.size + 1, 2, none⟩ (.slice nqa nqus.length nqcap)) o (w.heap.size + 1) 2 sz).trans k2
    have HB4 := blk3_below (v0 := .slice nfa nfrs.length nfcap) (v1 := .slice (some ⟨nb, no, none⟩) 4 necap) (v2 := .slice nqa nqus.length nqcap) HB3 (show w.heap.size ≤ w.heap.size + 1 by omega)
    (try simp only [Exit.inBlock, Exit.then])
    refine bodyPost_ret (by simp [results, Try.results42, go_sem, q0, q1, q2]; try rfl) rfl ?_
    refine ⟨⟨nfa, nfrs, nfcap, some ⟨nb, no, none⟩, nens.set m { nens.getD m default with st := 2 }, necap, nqa, nqus, nqcap⟩, by simp [hnl], ⟨HSN.out.len, HSN.out.fr, by dsimp only; rw [eN]; first | done | rfl | simp [List.getD_eq_getElem?_getD], HSN.out.qu⟩, (HO4.below ((Below.refl _ _).alloc (Nat.le_refl _) _)).mono (by first | exact HB1.out.size | (have := HRL.out; omega) | omega), HB4.alloc (by have := HB4.size; omega) _⟩
  · rw [if_neg hz]
    have hz1 : (askF ⟨fa, frs, fcap, ea, ens, ecap, qa, qus, qcap⟩ e 1 != 0) = true := by simpa using hz
    clear hM hF hz
    generalize askF ⟨fa, frs, fcap, ea, ens, ecap, qa, qus, qcap⟩ e 1 = z at h1 hz1 ⊢
    go_enter Try.func42, Try.ntmps42
    go_wp2_with (go_at_call 82; refine (h1 _ (B2 _ _).out).mono ?_; rintro x w1 ⟨rfl, hb1⟩; obtain ⟨m0, m1, m2, r0, r1, r2, rf, rl⟩ := CF.out w1 hb1; have HB1 : Hid (Below w.heap.size w w1) := (HX _ _ _).out hb1; have rf0 := rf 0; have rf1 := rf 1; have rf2 := rf 2; clear hb1 CF)
    obtain ⟨k0, k1, k2⟩ := blk3 (v0 := .slice none 0 0) (v1 := .slice none 0 0) (v2 := .slice none 0 0) r0 r1 r2
    (try simp only [Exit.inBlock, Exit.then])
    refine bodyPost_ret (by simp [results, Try.results42, go_sem, k0, k1, k2]; try rfl) rfl ?_
    exact ⟨noM, rfl, Mv.Same.refl _, noM_own _ _, blk3_below HB1.out (by omega)⟩

end Go.Proofs.Ytdbbiibnhgcndaa
