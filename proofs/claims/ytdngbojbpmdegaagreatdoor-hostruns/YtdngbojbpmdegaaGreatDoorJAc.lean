import Derived.Test.YtdngbojbpmdegaaGreatDoorJQRow
import Derived.Test.YtdngbojbpmdegaaGreatDoorCopyM
import Derived.Test.YtdngbojbpmdegaaGreatDoorJMCopy
import Derived.Test.YtdngbojbpmdegaaGreatDoorJRunSay
import Derived.Handy
import Derived.Outline
import Derived.Deep.CutRange
import Derived.Test.YtdngbojbpmdegaaGreatDoorJIdxBase
import Derived.Deep.Heap
namespace Go.Proofs.YtdngbojbpmdegaaGreatDoor
open Go.RowKit
def noM : Mv := ⟨none, [], 0, none, [], 0, none, [], 0⟩
theorem noM_at (w : World) : MachAt w noM := ⟨.inl rfl, Nat.zero_le _, Nat.zero_le _, fun j hj => absurd hj (by simp [noM]), .inl rfl, Nat.zero_le _, fun j hj => absurd hj (by simp [noM]), .inl rfl, Nat.zero_le _, fun j hj => absurd hj (by simp [noM])⟩
theorem noM_own (n0 : Nat) (w : World) : Owned n0 w noM :=
  ⟨noM_at w, fun b o s e => (by cases e), fun b o s e => (by cases e), fun b o s e => (by cases e), fun j hj => absurd hj (by simp [noM]), off_none, off_none, off_none, fun j hj => absurd hj (by simp [noM]), fun j hj => absurd hj (by simp [noM]), fun j hj => absurd hj (by simp [noM]), fun i j hi => absurd hi (by simp [noM])⟩
def startM (M : Mv) (e : Int) : Mv := if askF M e 1 = 0 then { M with ens := M.ens.set (e - 1).toNat { M.ens.getD (e - 1).toNat default with st := 2 } } else noM
theorem startM_same {M N : Mv} (h : M.Same N) (e : Int) : (startM M e).Same (startM N e) := by
  unfold startM
  rw [askF_same h, h.en]
  split
  · exact ⟨h.len, h.fr, rfl, h.qu⟩
  · exact Mv.Same.refl _
theorem fits_same {M N : Mv} (h : M.Fits) (hs : N.Same M) : N.Fits :=
  ⟨by rw [hs.len]; exact h.fr, fun j hj => by rw [(hs.fr j hj).2.2.2]; exact h.ws j (by rw [<- hs.len]; exact hj), by rw [hs.en]; exact h.en, by rw [hs.qu]; exact h.qu⟩
theorem blk3 {w : World} {b : Nat} {v0 v1 v2 x0 x1 x2 : Value} (h0 : w.cell? ⟨b, 0, none⟩ = some x0) (h1 : w.cell? ⟨b, 1, none⟩ = some x1) (h2 : w.cell? ⟨b, 2, none⟩ = some x2) :
    (((w.setCell ⟨b, 0, none⟩ v0).setCell ⟨b, 1, none⟩ v1).setCell ⟨b, 2, none⟩ v2).cell? ⟨b, 0, none⟩ = some v0 /\ (((w.setCell ⟨b, 0, none⟩ v0).setCell ⟨b, 1, none⟩ v1).setCell ⟨b, 2, none⟩ v2).cell? ⟨b, 1, none⟩ = some v1 /\
      (((w.setCell ⟨b, 0, none⟩ v0).setCell ⟨b, 1, none⟩ v1).setCell ⟨b, 2, none⟩ v2).cell? ⟨b, 2, none⟩ = some v2 := by
  refine ⟨?_, ?_, ?_⟩
  · rw [World.cell?_setCell_other _ _ _ _ (by simp), World.cell?_setCell_other _ _ _ _ (by simp)]
    exact World.cell?_setCell_same _ _ _ h0
  · rw [World.cell?_setCell_other _ _ _ _ (by simp)]
    exact World.cell?_setCell_same _ _ _ ((World.cell?_setCell_other _ _ _ _ (by simp)).trans h1)
  · exact World.cell?_setCell_same _ _ _ ((World.cell?_setCell_other _ _ _ _ (by simp)).trans ((World.cell?_setCell_other _ _ _ _ (by simp)).trans h2))
theorem blk3_heap {w : World} {b : Nat} {v0 v1 v2 : Value} (c : Nat) (h : c ≠ b) : (((w.setCell ⟨b, 0, none⟩ v0).setCell ⟨b, 1, none⟩ v1).setCell ⟨b, 2, none⟩ v2).heap[c]? = w.heap[c]? := by
  rw [Below.heap_setCell _ _ _ _ h, Below.heap_setCell _ _ _ _ h, Below.heap_setCell _ _ _ _ h]
theorem blk3_below {w0 w : World} {b B : Nat} {v0 v1 v2 : Value} (h : Below B w0 w) (hb : B <= b) : Below B w0 (((w.setCell ⟨b, 0, none⟩ v0).setCell ⟨b, 1, none⟩ v1).setCell ⟨b, 2, none⟩ v2) :=
  ((h.setCell (by simpa using hb) _).setCell (by simpa using hb) _).setCell (by simpa using hb) _
theorem blk3_size {w : World} {b : Nat} {v0 v1 v2 : Value} : (((w.setCell ⟨b, 0, none⟩ v0).setCell ⟨b, 1, none⟩ v1).setCell ⟨b, 2, none⟩ v2).heap.size = w.heap.size := by simp [World.setCell]
set_option maxRecDepth 100000 in
set_option maxHeartbeats 4000000 in
theorem start_any (M : Mv) (e : Int) (w : World) (hM : MachAt w M) (hF : M.Fits) :
    Calls Tryz.prog 94 #[M.val, .int .i64 e] w fun x w' => ∃ N : Mv, x = .returned (.tuple #[N.val, .int .i64 (askF M e 1)]) /\ N.Same (startM M e) /\ Owned w.heap.size w' N /\ Below w.heap.size w w' := by
  have h1 := fun w' (h : Below w.heap.size w w') => checkOpened_any M e w' (hM.below h)
  have h2 := fun w' (h : Below w.heap.size w w') => copyM_any M w' (hM.below h) hF
  have HM : Hid (MachAt w M) := hM
  unfold startM
  unfold Mv.val at h1 h2 ⊢
  obtain ⟨fa, frs, fcap, ea, ens, ecap, qa, qus, qcap⟩ := M
  dsimp only at h1 h2 ⊢
  have B2 : ∀ o1 o2, Hid (Below w.heap.size w ((w.alloc o1).alloc o2)) := fun o1 o2 => ((Below.refl _ _).alloc (Nat.le_refl _) _).alloc (by simp) _
  have HX : ∀ o1 o2 w1, Hid (Below ((w.alloc o1).alloc o2).heap.size ((w.alloc o1).alloc o2) w1 -> Below w.heap.size w w1) := fun o1 o2 w1 h => (B2 o1 o2).out.trans (h.mono (by simp; omega))
  have CF : Hid (∀ w1, Below ((w.alloc (.cells #[.slice fa frs.length fcap, .slice ea ens.length ecap, .slice qa qus.length qcap] 29)).alloc (.cells #[.slice none 0 0, .slice none 0 0, .slice none 0 0] 29)).heap.size ((w.alloc (.cells #[.slice fa frs.length fcap, .slice ea ens.length ecap, .slice qa qus.length qcap] 29)).alloc (.cells #[.slice none 0 0, .slice none 0 0, .slice none 0 0] 29)) w1 ->
      w1.cell? ⟨w.heap.size, 0, none⟩ = some (.slice fa frs.length fcap) /\ w1.cell? ⟨w.heap.size, 1, none⟩ = some (.slice ea ens.length ecap) /\ w1.cell? ⟨w.heap.size, 2, none⟩ = some (.slice qa qus.length qcap) /\
      w1.cell? ⟨w.heap.size + 1, 0, none⟩ = some (.slice none 0 0) /\ w1.cell? ⟨w.heap.size + 1, 1, none⟩ = some (.slice none 0 0) /\ w1.cell? ⟨w.heap.size + 1, 2, none⟩ = some (.slice none 0 0) /\ (∀ o, w1.frozen? ⟨w.heap.size + 1, o, none⟩ = false) /\ w.heap.size + 1 < w1.heap.size) := fun w1 hb => by
    refine ⟨(hb.cell (p := ⟨w.heap.size, 0, none⟩) (by simp; omega)).trans ?_, (hb.cell (p := ⟨w.heap.size, 1, none⟩) (by simp; omega)).trans ?_, (hb.cell (p := ⟨w.heap.size, 2, none⟩) (by simp; omega)).trans ?_, (hb.cell (p := ⟨w.heap.size + 1, 0, none⟩) (by simp)).trans ?_, (hb.cell (p := ⟨w.heap.size + 1, 1, none⟩) (by simp)).trans ?_, (hb.cell (p := ⟨w.heap.size + 1, 2, none⟩) (by simp)).trans ?_, fun o => (hb.frozen (p := ⟨w.heap.size + 1, o, none⟩) (by simp)).trans (World.frozen?_alloc_at _ _ _ _ (by simp)), by have := hb.size; simp at this; omega⟩
    · rw [World.cell?_alloc_past _ _ _ (by simp), World.cell?_alloc_at _ _ _ _ rfl]; rfl
    · rw [World.cell?_alloc_past _ _ _ (by simp), World.cell?_alloc_at _ _ _ _ rfl]; rfl
    · rw [World.cell?_alloc_past _ _ _ (by simp), World.cell?_alloc_at _ _ _ _ rfl]; rfl
    · rw [World.cell?_alloc_at _ _ _ _ (by simp)]; rfl
    · rw [World.cell?_alloc_at _ _ _ _ (by simp)]; rfl
    · rw [World.cell?_alloc_at _ _ _ _ (by simp)]; rfl
  by_cases hz : askF ⟨fa, frs, fcap, ea, ens, ecap, qa, qus, qcap⟩ e 1 = 0
  · obtain ⟨g0, m, rfl, hm4, _, _⟩ := askF_zero hz
    have hs := (machF_sizes g0).2.1
    dsimp only at hs
    rw [hz] at h1 ⊢
    rw [if_pos rfl, show ((m : Int) + 1 - 1).toNat = m by omega]
    have hwm : IntKind.i64.wrap ((m : Int) + 1 - 1) = (m : Int) := by rw [IntKind.wrap_i64]; omega
    have HS : Hid (ens.length = 4) := hs
    clear hM hF hz g0 hs
    go_enter Tryz.func94, Tryz.ntmps94
    go_wp2_with (first
      | (go_at_call 128; refine (h1 _ (B2 _ _).out).mono ?_; rintro x w1 ⟨rfl, hb1⟩; obtain ⟨m0, m1, m2, r0, r1, r2, rf, rl⟩ := CF.out w1 hb1; have HB1 : Hid (Below w.heap.size w w1) := (HX _ _ _).out hb1; clear hb1 CF)
      | (go_at_call 37; refine (h2 _ HB1.out).mono ?_; rintro x w2 ⟨N, rfl, hS, hO, hb2⟩; obtain ⟨nfa, nfrs, nfcap, nea, nens, necap, nqa, nqus, nqcap⟩ := N; have HSN : Hid (_) := hS; have HON : Hid (_) := hO; have HB2 : Hid (_) := hb2; obtain ⟨nb, no, hnea, t0, _⟩ := hO.at_.enclave (j := m) (by dsimp only; have := hS.en; dsimp only at this; rw [this, HS.out]; exact hm4); dsimp only at hnea t0; subst hnea; have hnl : nens.length = 4 := by have := hS.en; dsimp only at this; rw [this]; exact HS.out
         have nn := hO.ne nb no none rfl; have tf : w2.frozen? ⟨nb, no + m * 7, none⟩ = false := nn.2.2 _; have tl : nb < w2.heap.size := nn.2.1; have R0 : w2.cell? ⟨w.heap.size + 1, 0, none⟩ = some (.slice none 0 0) := (hb2.cell (p := ⟨w.heap.size + 1, 0, none⟩) rl).trans r0; have R1 : w2.cell? ⟨w.heap.size + 1, 1, none⟩ = some (.slice none 0 0) := (hb2.cell (p := ⟨w.heap.size + 1, 1, none⟩) rl).trans r1; have R2 : w2.cell? ⟨w.heap.size + 1, 2, none⟩ = some (.slice none 0 0) := (hb2.cell (p := ⟨w.heap.size + 1, 2, none⟩) rl).trans r2; have RF : ∀ o, w2.frozen? ⟨w.heap.size + 1, o, none⟩ = false := fun o => (hb2.frozen (p := ⟨w.heap.size + 1, o, none⟩) rl).trans (rf o); have RF0 := RF 0; have RF1 := RF 1; have RF2 := RF 2; have RL : w.heap.size + 1 < w2.heap.size := lt_of_cell R0; have hne : nb ≠ w.heap.size + 1 := (by have := nn.1; omega); clear nn RF hS hO hb2 m0 m1 m2 r0 r1 r2 rf; dsimp only)
      | fail)
    have eN := HSN.out.en
    dsimp only at eN
    have hok := HON.out.at_.enok m (by dsimp only; omega)
    dsimp only at hok
    have HO3 := HON.out.setEn (k := m) (i0 := 0) (e' := { nens.getD m default with st := 2 }) (v := .int .i64 2) rfl (by dsimp only; omega) (by omega) ⟨by show (Lit.int .i64 2).wf = true; decide, hok.len, hok.wpc, hok.w0, hok.w1, hok.w2, hok.w3⟩ (fun i hi => by
      match i, hi with
      | 0, _ => rfl
      | 1, _ => rfl
      | 2, _ => rfl
      | 3, _ => rfl
      | 4, _ => rfl
      | 5, _ => rfl
      | 6, _ => rfl)
    dsimp only [Nat.add_zero] at HO3
    have HO4 := HO3.keep (w' := (((w2.setCell ⟨nb, no + m * 7, none⟩ (.int .i64 2)).setCell ⟨w.heap.size + 1, 0, none⟩ (.slice nfa nfrs.length nfcap)).setCell ⟨w.heap.size + 1, 1, none⟩ (.slice (some ⟨nb, no, none⟩) 4 necap)).setCell ⟨w.heap.size + 1, 2, none⟩ (.slice nqa nqus.length nqcap)) (fun b hb _ => blk3_heap b (by omega)) (by rw [blk3_size]; exact Nat.le_refl _)
    have HB3 : Below w.heap.size w (w2.setCell ⟨nb, no + m * 7, none⟩ (.int .i64 2)) := (HB1.out.trans (HB2.out.mono HB1.out.size)).setCell (by have := (HON.out.ne nb no none rfl).1; have := HB1.out.size; dsimp only; omega) _
    obtain ⟨k0, k1, k2⟩ := blk3 (w := w2.setCell ⟨nb, no + m * 7, none⟩ (.int .i64 2)) (b := w.heap.size + 1) (v0 := .slice nfa nfrs.length nfcap) (v1 := .slice (some ⟨nb, no, none⟩) 4 necap) (v2 := .slice nqa nqus.length nqcap) ((World.cell?_setCell_other _ _ _ _ (by intro q; simp only [Addr.mk.injEq] at q; omega)).trans R0) ((World.cell?_setCell_other _ _ _ _ (by intro q; simp only [Addr.mk.injEq] at q; omega)).trans R1) ((World.cell?_setCell_other _ _ _ _ (by intro q; simp only [Addr.mk.injEq] at q; omega)).trans R2)
    have sz : w.heap.size + 1 < (((((w2.setCell ⟨nb, no + m * 7, none⟩ (.int .i64 2)).setCell ⟨w.heap.size + 1, 0, none⟩ (.slice nfa nfrs.length nfcap)).setCell ⟨w.heap.size + 1, 1, none⟩ (.slice (some ⟨nb, no, none⟩) 4 necap)).setCell ⟨w.heap.size + 1, 2, none⟩ (.slice nqa nqus.length nqcap))).heap.size := by rw [blk3_size]; simp [World.setCell]; exact RL
    have q0 := fun o => (World.cell?_alloc_past (w := (((w2.setCell ⟨nb, no + m * 7, none⟩ (.int .i64 2)).setCell ⟨w.heap.size + 1, 0, none⟩ (.slice nfa nfrs.length nfcap)).setCell ⟨w.heap.size + 1, 1, none⟩ (.slice (some ⟨nb, no, none⟩) 4 necap)).setCell ⟨w.heap.size + 1, 2, none⟩ (.slice nqa nqus.length nqcap)) o (w.heap.size + 1) 0 sz).trans k0
    have q1 := fun o => (World.cell?_alloc_past (w := (((w2.setCell ⟨nb, no + m * 7, none⟩ (.int .i64 2)).setCell ⟨w.heap.size + 1, 0, none⟩ (.slice nfa nfrs.length nfcap)).setCell ⟨w.heap.size + 1, 1, none⟩ (.slice (some ⟨nb, no, none⟩) 4 necap)).setCell ⟨w.heap.size + 1, 2, none⟩ (.slice nqa nqus.length nqcap)) o (w.heap.size + 1) 1 sz).trans k1
    have q2 := fun o => (World.cell?_alloc_past (w := (((w2.setCell ⟨nb, no + m * 7, none⟩ (.int .i64 2)).setCell ⟨w.heap.size + 1, 0, none⟩ (.slice nfa nfrs.length nfcap)).setCell ⟨w.heap.size + 1, 1, none⟩ (.slice (some ⟨nb, no, none⟩) 4 necap)).setCell ⟨w.heap.size + 1, 2, none⟩ (.slice nqa nqus.length nqcap)) o (w.heap.size + 1) 2 sz).trans k2
    have HB4 := blk3_below (v0 := .slice nfa nfrs.length nfcap) (v1 := .slice (some ⟨nb, no, none⟩) 4 necap) (v2 := .slice nqa nqus.length nqcap) HB3 (show w.heap.size <= w.heap.size + 1 by omega)
    (try simp only [Exit.inBlock, Exit.then])
    refine bodyPost_ret (by simp [results, Tryz.results94, go_sem, q0, q1, q2]; try rfl) rfl ?_
    refine ⟨⟨nfa, nfrs, nfcap, some ⟨nb, no, none⟩, nens.set m { nens.getD m default with st := 2 }, necap, nqa, nqus, nqcap⟩, by simp [hnl], ⟨HSN.out.len, HSN.out.fr, by dsimp only; rw [eN]; first | done | rfl | simp [List.getD_eq_getElem?_getD], HSN.out.qu⟩, (HO4.below ((Below.refl _ _).alloc (Nat.le_refl _) _)).mono (by first | exact HB1.out.size | (have := HRL.out; omega) | omega), HB4.alloc (by have := HB4.size; omega) _⟩
  · rw [if_neg hz]
    have hz1 : (askF ⟨fa, frs, fcap, ea, ens, ecap, qa, qus, qcap⟩ e 1 != 0) = true := by simpa using hz
    clear hM hF hz
    generalize askF ⟨fa, frs, fcap, ea, ens, ecap, qa, qus, qcap⟩ e 1 = z at h1 hz1 ⊢
    go_enter Tryz.func94, Tryz.ntmps94
    go_wp2_with (go_at_call 128; refine (h1 _ (B2 _ _).out).mono ?_; rintro x w1 ⟨rfl, hb1⟩; obtain ⟨m0, m1, m2, r0, r1, r2, rf, rl⟩ := CF.out w1 hb1; have HB1 : Hid (Below w.heap.size w w1) := (HX _ _ _).out hb1; have rf0 := rf 0; have rf1 := rf 1; have rf2 := rf 2; clear hb1 CF)
    obtain ⟨k0, k1, k2⟩ := blk3 (v0 := .slice none 0 0) (v1 := .slice none 0 0) (v2 := .slice none 0 0) r0 r1 r2
    (try simp only [Exit.inBlock, Exit.then])
    refine bodyPost_ret (by simp [results, Tryz.results94, go_sem, k0, k1, k2]; try rfl) rfl ?_
    exact ⟨noM, rfl, Mv.Same.refl _, noM_own _ _, blk3_below HB1.out (by omega)⟩
set_option maxRecDepth 100000 in
set_option maxHeartbeats 4000000 in
theorem started_any (M : Mv) (e : Int) (w : World) (hM : MachAt w M) (hF : M.Fits) :
    Calls Tryz.prog 49 #[M.val, .int .i64 e] w fun x w' => ∃ N : Mv, x = .returned (.tuple #[N.val, .int .i64 (askF M e 1)]) /\ N.Same (startM M e) /\ Owned w.heap.size w' N /\ Below w.heap.size w w' := by
  have h1 := fun w' (h : Below w.heap.size w w') => asked_any M e 1 w' (hM.below h)
  have h2 := fun w' (h : Below w.heap.size w w') => mcopy_any M w' (hM.below h) hF
  have HM : Hid (MachAt w M) := hM
  unfold startM
  unfold Mv.val at h1 h2 ⊢
  obtain ⟨fa, frs, fcap, ea, ens, ecap, qa, qus, qcap⟩ := M
  dsimp only at h1 h2 ⊢
  have B2 : ∀ o1 o2, Hid (Below w.heap.size w ((w.alloc o1).alloc o2)) := fun o1 o2 => ((Below.refl _ _).alloc (Nat.le_refl _) _).alloc (by simp) _
  have HX : ∀ o1 o2 w1, Hid (Below ((w.alloc o1).alloc o2).heap.size ((w.alloc o1).alloc o2) w1 -> Below w.heap.size w w1) := fun o1 o2 w1 h => (B2 o1 o2).out.trans (h.mono (by simp; omega))
  have CF : Hid (∀ w1, Below ((w.alloc (.cells #[.slice fa frs.length fcap, .slice ea ens.length ecap, .slice qa qus.length qcap] 29)).alloc (.cells #[.slice none 0 0, .slice none 0 0, .slice none 0 0] 29)).heap.size ((w.alloc (.cells #[.slice fa frs.length fcap, .slice ea ens.length ecap, .slice qa qus.length qcap] 29)).alloc (.cells #[.slice none 0 0, .slice none 0 0, .slice none 0 0] 29)) w1 ->
      w1.cell? ⟨w.heap.size, 0, none⟩ = some (.slice fa frs.length fcap) /\ w1.cell? ⟨w.heap.size, 1, none⟩ = some (.slice ea ens.length ecap) /\ w1.cell? ⟨w.heap.size, 2, none⟩ = some (.slice qa qus.length qcap) /\
      w1.cell? ⟨w.heap.size + 1, 0, none⟩ = some (.slice none 0 0) /\ w1.cell? ⟨w.heap.size + 1, 1, none⟩ = some (.slice none 0 0) /\ w1.cell? ⟨w.heap.size + 1, 2, none⟩ = some (.slice none 0 0) /\ (∀ o, w1.frozen? ⟨w.heap.size + 1, o, none⟩ = false) /\ w.heap.size + 1 < w1.heap.size) := fun w1 hb => by
    refine ⟨(hb.cell (p := ⟨w.heap.size, 0, none⟩) (by simp; omega)).trans ?_, (hb.cell (p := ⟨w.heap.size, 1, none⟩) (by simp; omega)).trans ?_, (hb.cell (p := ⟨w.heap.size, 2, none⟩) (by simp; omega)).trans ?_, (hb.cell (p := ⟨w.heap.size + 1, 0, none⟩) (by simp)).trans ?_, (hb.cell (p := ⟨w.heap.size + 1, 1, none⟩) (by simp)).trans ?_, (hb.cell (p := ⟨w.heap.size + 1, 2, none⟩) (by simp)).trans ?_, fun o => (hb.frozen (p := ⟨w.heap.size + 1, o, none⟩) (by simp)).trans (World.frozen?_alloc_at _ _ _ _ (by simp)), by have := hb.size; simp at this; omega⟩
    · rw [World.cell?_alloc_past _ _ _ (by simp), World.cell?_alloc_at _ _ _ _ rfl]; rfl
    · rw [World.cell?_alloc_past _ _ _ (by simp), World.cell?_alloc_at _ _ _ _ rfl]; rfl
    · rw [World.cell?_alloc_past _ _ _ (by simp), World.cell?_alloc_at _ _ _ _ rfl]; rfl
    · rw [World.cell?_alloc_at _ _ _ _ (by simp)]; rfl
    · rw [World.cell?_alloc_at _ _ _ _ (by simp)]; rfl
    · rw [World.cell?_alloc_at _ _ _ _ (by simp)]; rfl
  by_cases hz : askF ⟨fa, frs, fcap, ea, ens, ecap, qa, qus, qcap⟩ e 1 = 0
  · obtain ⟨g0, m, rfl, hm4, _, _⟩ := askF_zero hz
    have hs := (machF_sizes g0).2.1
    dsimp only at hs
    rw [hz] at h1 ⊢
    rw [if_pos rfl, show ((m : Int) + 1 - 1).toNat = m by omega]
    have hwm : IntKind.i64.wrap ((m : Int) + 1 - 1) = (m : Int) := by rw [IntKind.wrap_i64]; omega
    have HS : Hid (ens.length = 4) := hs
    clear hM hF hz g0 hs
    go_enter Tryz.func49, Tryz.ntmps49
    go_wp2_with (first
      | (go_at_call 107; refine (h1 _ (B2 _ _).out).mono ?_; rintro x w1 ⟨rfl, hb1⟩; obtain ⟨m0, m1, m2, r0, r1, r2, rf, rl⟩ := CF.out w1 hb1; have HB1 : Hid (Below w.heap.size w w1) := (HX _ _ _).out hb1; clear hb1 CF)
      | (go_at_call 58; refine (h2 _ HB1.out).mono ?_; rintro x w2 ⟨N, rfl, hS, hO, hb2⟩; obtain ⟨nfa, nfrs, nfcap, nea, nens, necap, nqa, nqus, nqcap⟩ := N; have HSN : Hid (_) := hS; have HON : Hid (_) := hO; have HB2 : Hid (_) := hb2; obtain ⟨nb, no, hnea, t0, _⟩ := hO.at_.enclave (j := m) (by dsimp only; have := hS.en; dsimp only at this; rw [this, HS.out]; exact hm4); dsimp only at hnea t0; subst hnea; have hnl : nens.length = 4 := by have := hS.en; dsimp only at this; rw [this]; exact HS.out
         have nn := hO.ne nb no none rfl; have tf : w2.frozen? ⟨nb, no + m * 7, none⟩ = false := nn.2.2 _; have tl : nb < w2.heap.size := nn.2.1; have R0 : w2.cell? ⟨w.heap.size + 1, 0, none⟩ = some (.slice none 0 0) := (hb2.cell (p := ⟨w.heap.size + 1, 0, none⟩) rl).trans r0; have R1 : w2.cell? ⟨w.heap.size + 1, 1, none⟩ = some (.slice none 0 0) := (hb2.cell (p := ⟨w.heap.size + 1, 1, none⟩) rl).trans r1; have R2 : w2.cell? ⟨w.heap.size + 1, 2, none⟩ = some (.slice none 0 0) := (hb2.cell (p := ⟨w.heap.size + 1, 2, none⟩) rl).trans r2; have RF : ∀ o, w2.frozen? ⟨w.heap.size + 1, o, none⟩ = false := fun o => (hb2.frozen (p := ⟨w.heap.size + 1, o, none⟩) rl).trans (rf o); have RF0 := RF 0; have RF1 := RF 1; have RF2 := RF 2; have RL : w.heap.size + 1 < w2.heap.size := lt_of_cell R0; have hne : nb ≠ w.heap.size + 1 := (by have := nn.1; omega); clear nn RF hS hO hb2 m0 m1 m2 r0 r1 r2 rf; dsimp only)
      | fail)
    have eN := HSN.out.en
    dsimp only at eN
    have hok := HON.out.at_.enok m (by dsimp only; omega)
    dsimp only at hok
    have HO3 := HON.out.setEn (k := m) (i0 := 0) (e' := { nens.getD m default with st := 2 }) (v := .int .i64 2) rfl (by dsimp only; omega) (by omega) ⟨by show (Lit.int .i64 2).wf = true; decide, hok.len, hok.wpc, hok.w0, hok.w1, hok.w2, hok.w3⟩ (fun i hi => by
      match i, hi with
      | 0, _ => rfl
      | 1, _ => rfl
      | 2, _ => rfl
      | 3, _ => rfl
      | 4, _ => rfl
      | 5, _ => rfl
      | 6, _ => rfl)
    dsimp only [Nat.add_zero] at HO3
    have HO4 := HO3.keep (w' := (((w2.setCell ⟨nb, no + m * 7, none⟩ (.int .i64 2)).setCell ⟨w.heap.size + 1, 0, none⟩ (.slice nfa nfrs.length nfcap)).setCell ⟨w.heap.size + 1, 1, none⟩ (.slice (some ⟨nb, no, none⟩) 4 necap)).setCell ⟨w.heap.size + 1, 2, none⟩ (.slice nqa nqus.length nqcap)) (fun b hb _ => blk3_heap b (by omega)) (by rw [blk3_size]; exact Nat.le_refl _)
    have HB3 : Below w.heap.size w (w2.setCell ⟨nb, no + m * 7, none⟩ (.int .i64 2)) := (HB1.out.trans (HB2.out.mono HB1.out.size)).setCell (by have := (HON.out.ne nb no none rfl).1; have := HB1.out.size; dsimp only; omega) _
    obtain ⟨k0, k1, k2⟩ := blk3 (w := w2.setCell ⟨nb, no + m * 7, none⟩ (.int .i64 2)) (b := w.heap.size + 1) (v0 := .slice nfa nfrs.length nfcap) (v1 := .slice (some ⟨nb, no, none⟩) 4 necap) (v2 := .slice nqa nqus.length nqcap) ((World.cell?_setCell_other _ _ _ _ (by intro q; simp only [Addr.mk.injEq] at q; omega)).trans R0) ((World.cell?_setCell_other _ _ _ _ (by intro q; simp only [Addr.mk.injEq] at q; omega)).trans R1) ((World.cell?_setCell_other _ _ _ _ (by intro q; simp only [Addr.mk.injEq] at q; omega)).trans R2)
    have sz : w.heap.size + 1 < (((((w2.setCell ⟨nb, no + m * 7, none⟩ (.int .i64 2)).setCell ⟨w.heap.size + 1, 0, none⟩ (.slice nfa nfrs.length nfcap)).setCell ⟨w.heap.size + 1, 1, none⟩ (.slice (some ⟨nb, no, none⟩) 4 necap)).setCell ⟨w.heap.size + 1, 2, none⟩ (.slice nqa nqus.length nqcap))).heap.size := by rw [blk3_size]; simp [World.setCell]; exact RL
    have q0 := fun o => (World.cell?_alloc_past (w := (((w2.setCell ⟨nb, no + m * 7, none⟩ (.int .i64 2)).setCell ⟨w.heap.size + 1, 0, none⟩ (.slice nfa nfrs.length nfcap)).setCell ⟨w.heap.size + 1, 1, none⟩ (.slice (some ⟨nb, no, none⟩) 4 necap)).setCell ⟨w.heap.size + 1, 2, none⟩ (.slice nqa nqus.length nqcap)) o (w.heap.size + 1) 0 sz).trans k0
    have q1 := fun o => (World.cell?_alloc_past (w := (((w2.setCell ⟨nb, no + m * 7, none⟩ (.int .i64 2)).setCell ⟨w.heap.size + 1, 0, none⟩ (.slice nfa nfrs.length nfcap)).setCell ⟨w.heap.size + 1, 1, none⟩ (.slice (some ⟨nb, no, none⟩) 4 necap)).setCell ⟨w.heap.size + 1, 2, none⟩ (.slice nqa nqus.length nqcap)) o (w.heap.size + 1) 1 sz).trans k1
    have q2 := fun o => (World.cell?_alloc_past (w := (((w2.setCell ⟨nb, no + m * 7, none⟩ (.int .i64 2)).setCell ⟨w.heap.size + 1, 0, none⟩ (.slice nfa nfrs.length nfcap)).setCell ⟨w.heap.size + 1, 1, none⟩ (.slice (some ⟨nb, no, none⟩) 4 necap)).setCell ⟨w.heap.size + 1, 2, none⟩ (.slice nqa nqus.length nqcap)) o (w.heap.size + 1) 2 sz).trans k2
    have HB4 := blk3_below (v0 := .slice nfa nfrs.length nfcap) (v1 := .slice (some ⟨nb, no, none⟩) 4 necap) (v2 := .slice nqa nqus.length nqcap) HB3 (show w.heap.size <= w.heap.size + 1 by omega)
    (try simp only [Exit.inBlock, Exit.then])
    refine bodyPost_ret (by simp [results, Tryz.results49, go_sem, q0, q1, q2]; try rfl) rfl ?_
    refine ⟨⟨nfa, nfrs, nfcap, some ⟨nb, no, none⟩, nens.set m { nens.getD m default with st := 2 }, necap, nqa, nqus, nqcap⟩, by simp [hnl], ⟨HSN.out.len, HSN.out.fr, by dsimp only; rw [eN]; first | done | rfl | simp [List.getD_eq_getElem?_getD], HSN.out.qu⟩, (HO4.below ((Below.refl _ _).alloc (Nat.le_refl _) _)).mono (by first | exact HB1.out.size | (have := HRL.out; omega) | omega), HB4.alloc (by have := HB4.size; omega) _⟩
  · rw [if_neg hz]
    have hz1 : (askF ⟨fa, frs, fcap, ea, ens, ecap, qa, qus, qcap⟩ e 1 != 0) = true := by simpa using hz
    clear hM hF hz
    generalize askF ⟨fa, frs, fcap, ea, ens, ecap, qa, qus, qcap⟩ e 1 = z at h1 hz1 ⊢
    go_enter Tryz.func49, Tryz.ntmps49
    go_wp2_with (go_at_call 107; refine (h1 _ (B2 _ _).out).mono ?_; rintro x w1 ⟨rfl, hb1⟩; obtain ⟨m0, m1, m2, r0, r1, r2, rf, rl⟩ := CF.out w1 hb1; have HB1 : Hid (Below w.heap.size w w1) := (HX _ _ _).out hb1; have rf0 := rf 0; have rf1 := rf 1; have rf2 := rf 2; clear hb1 CF)
    obtain ⟨k0, k1, k2⟩ := blk3 (v0 := .slice none 0 0) (v1 := .slice none 0 0) (v2 := .slice none 0 0) r0 r1 r2
    (try simp only [Exit.inBlock, Exit.then])
    refine bodyPost_ret (by simp [results, Tryz.results49, go_sem, k0, k1, k2]; try rfl) rfl ?_
    exact ⟨noM, rfl, Mv.Same.refl _, noM_own _ _, blk3_below HB1.out (by omega)⟩
end Go.Proofs.YtdngbojbpmdegaaGreatDoor

namespace Go.Proofs.YtdngbojbpmdegaaGreatDoor
open Go.ChangeShapes Go.WideShapes Go.ChangeAt Go.RowKit Go.Joins
def tcell (s : ByteArray) : List Value := [.string s]
def Texts (w : World) (a : Option Addr) (xs : List ByteArray) : Prop :=
  xs = [] ∨ ∃ b off, a = some ⟨b, off, none⟩ /\ ∀ j, j < xs.length -> w.cell? ⟨b, off + j, none⟩ = some (.string (xs.getD j default))
theorem texts_rows {w : World} {a : Option Addr} {xs : List ByteArray} (h : Texts w a xs) : RowsAt w 1 tcell a xs := by
  rcases h with rfl | ⟨b, off, h1, h2⟩
  · exact .inl rfl
  · refine .inr ⟨b, off, h1, fun j hj i hi => ?_⟩
    obtain rfl : i = 0 := by omega
    simpa [tcell] using h2 j hj
theorem rows_texts {w : World} {a : Option Addr} {xs : List ByteArray} (h : RowsAt w 1 tcell a xs) : Texts w a xs := by
  rcases h with rfl | ⟨b, off, h1, h2⟩
  · exact .inl rfl
  · refine .inr ⟨b, off, h1, fun j hj => ?_⟩
    have := h2 j hj 0 (by omega)
    simpa [tcell] using this
theorem Texts.below {w w' : World} {a : Option Addr} {xs : List ByteArray} (h : Texts w a xs) (hb : Below w.heap.size w w') : Texts w' a xs := by
  rcases h with h | ⟨b, off, h1, h2⟩
  · exact .inl h
  · exact .inr ⟨b, off, h1, fun j hj => (hb.cell (p := ⟨b, off + j, none⟩) (lt_of_cell (h2 j hj))).trans (h2 j hj)⟩
structure Cv where
  ta : Option Addr
  tr : List ByteArray
  tcap : Nat
  na : Option Addr
  ns : List Int
  ncap : Nat
def Cv.val (C : Cv) : Value := .agg #[.slice C.ta C.tr.length C.tcap, .slice C.na C.ns.length C.ncap]
structure Cv.Ok (C : Cv) : Prop where
  trl : C.tr.length <= maxLen
  trok : ∀ s ∈ C.tr, s.size <= maxLen
  nsl : C.ns.length <= maxLen
  nsw : ∀ n ∈ C.ns, (Lit.int .i64 n).wf = true
structure ChalAt (w : World) (C : Cv) : Prop where
  tr : Texts w C.ta C.tr
  ns : Ints w C.na C.ns
  ok : C.Ok
structure Cv.Fits (C : Cv) : Prop where
  tr : C.tr.length * 16 <= 140737488351232
  ns : C.ns.length * 8 <= 140737488351232
structure Cv.Same (C D : Cv) : Prop where
  tr : C.tr = D.tr
  ns : C.ns = D.ns
theorem Cv.Same.refl (C : Cv) : C.Same C := ⟨rfl, rfl⟩
theorem Cv.Same.symm {C D : Cv} (h : C.Same D) : D.Same C := ⟨h.tr.symm, h.ns.symm⟩
theorem Cv.Same.trans {C D E : Cv} (h : C.Same D) (k : D.Same E) : C.Same E := ⟨h.tr.trans k.tr, h.ns.trans k.ns⟩
theorem Cv.Fits.same {C D : Cv} (h : C.Fits) (hs : D.Same C) : D.Fits := ⟨by rw [hs.tr]; exact h.tr, by rw [hs.ns]; exact h.ns⟩
theorem Cv.Ok.same {C D : Cv} (h : C.Ok) (hs : D.Same C) : D.Ok := ⟨by rw [hs.tr]; exact h.trl, by rw [hs.tr]; exact h.trok, by rw [hs.ns]; exact h.nsl, by rw [hs.ns]; exact h.nsw⟩
theorem ChalAt.below {w w' : World} {C : Cv} (h : ChalAt w C) (hb : Below w.heap.size w w') : ChalAt w' C := ⟨h.tr.below hb, h.ns.below hb, h.ok⟩
structure COwn (n0 : Nat) (w : World) (C : Cv) : Prop where
  tr : w.ownsRow n0 9 1 (.slice C.ta C.tr.length C.tcap) C.tr.length (C.tr.flatMap tcell)
  ns : w.ownsRow n0 3 1 (.slice C.na C.ns.length C.ncap) C.ns.length (wvals C.ns)
  off : Off C.ta C.na
  ok : C.Ok
theorem tcell_len (q : ByteArray) : (tcell q).length = 1 := rfl
theorem tcell_one : ∀ q : ByteArray, ∀ v ∈ tcell q, v.oneCell' = true := fun q v hv => by
  simp [tcell] at hv; subst hv; rfl
theorem texts_len (xs : List ByteArray) : (xs.flatMap tcell).length = xs.length := by
  have := flat_len (cells := tcell) (c := 1) tcell_len xs
  simpa using this
theorem texts_of_row {n0 : Nat} {w : World} {e : TypeId} {a : Option Addr} {cap : Nat} {xs : List ByteArray} (h : w.ownsRow n0 e 1 (.slice a xs.length cap) xs.length (xs.flatMap tcell)) : Texts w a xs := by
  rcases h.2 with ⟨_, h0⟩ | ⟨g, cap', cur, hv, _, hg, _, _, _, ht⟩
  · exact .inl (List.length_eq_zero_iff.1 h0)
  · simp only [Value.slice.injEq] at hv
    rw [hv.1]
    refine rows_texts ?_
    have e1 : cur = (xs.flatMap tcell ++ cur.toList.drop (xs.length * 1)).toArray := by
      have : xs.flatMap tcell = cur.toList.take (xs.length * 1) := by rw [<- ht]
      rw [this]
      simp
    rw [e1] at hg
    exact rows_of_block (cells := tcell) (c := 1) tcell_len hg
theorem ints_of_row {n0 : Nat} {w : World} {e : TypeId} {a : Option Addr} {cap : Nat} {xs : List Int} (h : w.ownsRow n0 e 1 (.slice a xs.length cap) xs.length (wvals xs)) : Ints w a xs := by
  rcases h.2 with ⟨_, h0⟩ | ⟨g, cap', cur, hv, _, hg, _, _, _, ht⟩
  · exact .inl (List.length_eq_zero_iff.1 h0)
  · simp only [Value.slice.injEq] at hv
    rw [hv.1]
    have e1 : cur = (wvals xs ++ cur.toList.drop (xs.length * 1)).toArray := by
      have : wvals xs = cur.toList.take (xs.length * 1) := by rw [<- ht]
      rw [this]
      simp
    rw [e1] at hg
    exact ints_of_block hg
theorem COwn.at_ {n0 : Nat} {w : World} {C : Cv} (h : COwn n0 w C) : ChalAt w C := ⟨texts_of_row h.tr, ints_of_row h.ns, h.ok⟩
theorem ownsRow_keep {n0 : Nat} {w w' : World} {e : TypeId} {c n cap : Nat} {a : Option Addr} {xs : List Value} (h : w.ownsRow n0 e c (.slice a n cap) n xs) (hw : ∀ b o s, a = some ⟨b, o, s⟩ -> w'.heap[b]? = w.heap[b]?) : w'.ownsRow n0 e c (.slice a n cap) n xs := by
  refine ⟨h.1, ?_⟩
  rcases h.2 with h2 | ⟨g, cap', cur, hv, hb, hg, h3⟩
  · exact .inl h2
  · refine .inr ⟨g, cap', cur, hv, hb, ?_, h3⟩
    simp only [Value.slice.injEq] at hv
    rw [hw g 0 none hv.1]
    exact hg
theorem ownsRow_mono {n0 n1 : Nat} {w : World} {e : TypeId} {c n : Nat} {v : Value} {xs : List Value} (h : w.ownsRow n0 e c v n xs) (hn : n1 <= n0) : w.ownsRow n1 e c v n xs := by
  refine ⟨h.1, ?_⟩
  rcases h.2 with h2 | ⟨g, cap, cur, hv, hb, h3⟩
  · exact .inl h2
  · exact .inr ⟨g, cap, cur, hv, Nat.le_trans hn hb, h3⟩
theorem ownsRow_block {n0 : Nat} {w : World} {e : TypeId} {c n cap : Nat} {a : Option Addr} {xs : List Value} (h : w.ownsRow n0 e c (.slice a n cap) n xs) : ∀ b o s, a = some ⟨b, o, s⟩ -> n0 <= b /\ b < w.heap.size /\ (∀ i, w.frozen? ⟨b, i, none⟩ = false) := by
  intro b o s ha
  rcases h.2 with ⟨hv, _⟩ | ⟨g, cap', cur, hv, hb, hg, h3⟩
  · simp only [Value.slice.injEq] at hv
    rw [hv.1] at ha; cases ha
  · simp only [Value.slice.injEq] at hv
    rw [hv.1] at ha
    simp only [Option.some.injEq, Addr.mk.injEq] at ha
    obtain ⟨rfl, _⟩ := ha
    exact ⟨hb, (Array.getElem?_eq_some_iff.1 hg).1, frozen_of_block hg⟩
theorem COwn.below {n0 : Nat} {w w' : World} {C : Cv} (h : COwn n0 w C) (hb : Below w.heap.size w w') : COwn n0 w' C :=
  ⟨ownsRow_keep h.tr fun b o s e => hb.block _ (ownsRow_block h.tr b o s e).2.1, ownsRow_keep h.ns fun b o s e => hb.block _ (ownsRow_block h.ns b o s e).2.1, h.off, h.ok⟩
theorem COwn.mono {n0 n1 : Nat} {w : World} {C : Cv} (h : COwn n0 w C) (hn : n1 <= n0) : COwn n1 w C := ⟨ownsRow_mono h.tr hn, ownsRow_mono h.ns hn, h.off, h.ok⟩
def noC : Cv := ⟨none, [], 0, none, [], 0⟩
theorem noC_own (n0 : Nat) (w : World) : COwn n0 w noC := ⟨World.ownsRow_nil _ _ _ _, World.ownsRow_nil _ _ _ _, fun _ _ _ _ _ e _ => (by cases e), ⟨Nat.zero_le _, fun s hs => (by cases hs), Nat.zero_le _, fun s hs => (by cases hs)⟩⟩
end Go.Proofs.YtdngbojbpmdegaaGreatDoor

namespace Go.Proofs.YtdngbojbpmdegaaGreatDoor
open Go.RowKit
theorem info_s : (Tryz.prog.info? 9).map (fun i => (i.zero, i.size, i.bytes)) = some (some (.string ⟨#[]⟩), 1, 16) := by kernel_rfl
theorem info_n : (Tryz.prog.info? 3).map (fun i => (i.zero, i.size, i.bytes)) = some (some (.int .i64 0), 1, 8) := by kernel_rfl
structure MadeC (W wx : World) (nt nn B X Y : Nat) : Prop where
  lB : W.heap.size <= B
  lX : W.heap.size <= X
  lY : W.heap.size <= Y
  BX : B ≠ X
  BY : B ≠ Y
  XY : X ≠ Y
  hB : wx.heap[B]? = some (.cells #[.slice (some ⟨X, 0, none⟩) nt nt, .slice (some ⟨Y, 0, none⟩) nn nn] 32 (0, 0))
  hX : wx.heap[X]? = some (.cells (madeCells #[.string ⟨#[]⟩] nt) 9 (0, 0))
  hY : wx.heap[Y]? = some (.cells (madeCells #[.int .i64 0] nn) 3 (0, 0))
  bel : Below W.heap.size W wx
theorem row_of_block {n0 g cap n : Nat} {w : World} {e : TypeId} {xs zs : List Value} (hn : n0 <= g) (hg : w.heap[g]? = some (.cells (xs ++ zs).toArray e (0, 0))) (hx : xs.length = n) (hl : n <= cap) (hm : cap <= maxLen) (hc : (xs ++ zs).length = cap) : w.ownsRow n0 e 1 (.slice (some ⟨g, 0, none⟩) n cap) n xs := by
  refine ⟨by simpa using hx, .inr ⟨g, cap, _, rfl, hn, hg, hl, hm, by simpa using hc, ?_⟩⟩
  rw [<- hx]; simp
set_option maxRecDepth 100000 in
set_option maxHeartbeats 4000000 in
theorem copyC_any (C : Cv) (w : World) (hC : ChalAt w C) (hF : C.Fits) :
    Calls Tryz.prog 42 #[C.val] w fun e w' => ∃ N : Cv, e = .returned N.val /\ N.Same C /\ COwn w.heap.size w' N /\ Below w.heap.size w w' := by
  have hl1 := hC.ok.trl
  have hl2 := hC.ok.nsl
  unfold maxLen at hl1 hl2
  have mk1 := run_make_row' (P := Tryz.prog) 22 9 _ 16 Tryz.underlying22 info_s rfl .i64 .i64 C.tr.length (by have := hF.tr; omega) (by omega)
  have mk2 := run_make_row' (P := Tryz.prog) 30 3 _ 8 Tryz.underlying30 info_n rfl .i64 .i64 C.ns.length (by have := hF.ns; omega) (by omega)
  unfold Cv.val
  obtain ⟨nt, hnt⟩ : ∃ nt, Hid (nt = C.tr.length) := ⟨_, rfl⟩
  obtain ⟨nn, hnn⟩ : ∃ nn, Hid (nn = C.ns.length) := ⟨_, rfl⟩
  rw [<- hnt.out] at hl1 mk1
  rw [<- hnn.out] at hl2 mk2
  rw [<- hnt.out, <- hnn.out]
  obtain ⟨W2, hW2⟩ : ∃ W2, Hid (W2 = (w.alloc (.cells #[.slice C.ta nt C.tcap, .slice C.na nn C.ncap] 32)).alloc (.cells #[.slice none 0 0, .slice none 0 0] 32)) := ⟨_, rfl⟩
  have p0 : W2.cell? ⟨w.heap.size, 0, none⟩ = some (.slice C.ta nt C.tcap) := by rw [hW2.out, World.cell?_alloc_past _ _ _ (by simp), World.cell?_alloc_at _ _ _ _ rfl]; rfl
  have p1 : W2.cell? ⟨w.heap.size, 1, none⟩ = some (.slice C.na nn C.ncap) := by rw [hW2.out, World.cell?_alloc_past _ _ _ (by simp), World.cell?_alloc_at _ _ _ _ rfl]; rfl
  have s2 : w.heap.size < W2.heap.size := lt_of_cell p0
  have s3 : w.heap.size < W2.heap.size + 1 := by omega
  have s4 : w.heap.size < W2.heap.size + 1 + 1 := by omega
  have s5 : w.heap.size < W2.heap.size + 2 := by omega
  go_enter Tryz.func42, Tryz.ntmps42
  go_upto_region 1 with fail
  rw [<- hW2.out]
  go_cut [3, 7, 11] from 4 (fun s3 s7 s11 wx => ∃ B X Y, s3 = .pointer (some ⟨B, 0, none⟩) /\ s7 = .slice (some ⟨X, 0, none⟩) nt nt /\ s11 = .slice (some ⟨Y, 0, none⟩) nn nn /\ MadeC W2 wx nt nn B X Y)
  case first =>
    go_big_region
    all_goals
      go_wp2_with fail
      go_meet
      case rel =>
        refine ⟨_, _, _, rfl, rfl, rfl, ?_⟩
        exact ⟨by omega, by omega, by omega, by omega, by omega, by omega,
          by first | exact a33 _ _ _ _ | exact a32 _ _ _ _ | exact a31 _ _ _ _, by first | exact a33 _ _ _ _ | exact a32 _ _ _ _ | exact a31 _ _ _ _,
          by first | exact a33 _ _ _ _ | exact a32 _ _ _ _ | exact a31 _ _ _ _, (a3B _ _ _ _).drew⟩
  case rest =>
    obtain ⟨B, X, Y, rfl, rfl, rfl, hm⟩ := hcut
    have S2 : Hid (w.heap.size < W2.heap.size) := s2
    have BW : Hid (Below w.heap.size w W2) := by show Below _ _ _; rw [hW2.out]; exact ((Below.refl _ _).alloc (Nat.le_refl _) _).alloc (by simp) _
    have hM2 := hC.below BW.out
    have R2 : Hid (W2.cell? ⟨w.heap.size + 1, 0, none⟩ = some (.slice none 0 0) /\ W2.cell? ⟨w.heap.size + 1, 1, none⟩ = some (.slice none 0 0) /\ ∀ o, W2.frozen? ⟨w.heap.size + 1, o, none⟩ = false) := by
      show _ /\ _ /\ _
      rw [hW2.out, World.cell?_alloc_at _ _ _ _ (by simp), World.cell?_alloc_at _ _ _ _ (by simp)]
      exact ⟨rfl, rfl, fun o => World.frozen?_alloc_at _ _ _ _ (by simp)⟩
    have P0 : Hid (_) := p0
    have P1 : Hid (_) := p1
    clear mk1 mk2 p0 p1 s2 s3 s4 s5
    obtain ⟨w3, hr3, g3, o3, b3⟩ := copy_rows (P := Tryz.prog) (cells := tcell) (c := 1) tcell_len (by omega) tcell_one wc 22 3 9 9 Tryz.underlying22 (by kernel_rfl) X C.tcap C.ta C.tr (texts_rows (hM2.below hm.bel).tr) _ hm.hX (by rw [size_madeCells, <- hnt.out]; omega)
    rw [<- hnt.out] at hr3
    obtain ⟨w4, hr4, g4, o4, b4⟩ := copy_rows (P := Tryz.prog) (cells := fun n : Int => [Value.int .i64 n]) (c := 1) (fun _ => rfl) (by omega) (fun q v hv => by simp at hv; subst hv; rfl) w3 30 3 3 3 Tryz.underlying30 (by kernel_rfl) Y C.ncap C.na C.ns (ints_rows (hM2.below (b3 _ _ hm.lX hm.bel)).ns) _ ((o3 Y (Ne.symm hm.XY)).trans hm.hY) (by rw [size_madeCells, <- hnn.out]; omega)
    rw [<- hnn.out] at hr4
    rw [wvals_flat] at g4
    have HB3 : Hid (Below W2.heap.size W2 w3) := b3 _ _ hm.lX hm.bel
    have HB4 : Hid (Below W2.heap.size W2 w4) := b4 _ _ hm.lY HB3.out
    have hB4 : Hid (w4.heap[B]? = some (.cells #[.slice (some ⟨X, 0, none⟩) nt nt, .slice (some ⟨Y, 0, none⟩) nn nn] 32 (0, 0))) := ((o4 B hm.BY).trans (o3 B hm.BX)).trans hm.hB
    have hX4 : Hid (w4.heap[X]? = some (.cells (C.tr.flatMap tcell).toArray 9 (0, 0))) := (o4 X hm.XY).trans g3
    have hY4 : Hid (w4.heap[Y]? = some (.cells (wvals C.ns).toArray 3 (0, 0))) := g4
    have HM : Hid (_) := hm
    have x1 : wc.cell? ⟨B, 0, none⟩ = some (.slice (some ⟨X, 0, none⟩) nt nt) := by simp [World.cell?, hm.hB]
    have x2 : wc.cell? ⟨w.heap.size, 0, none⟩ = some (.slice C.ta nt C.tcap) := (hm.bel.cell (p := ⟨w.heap.size, 0, none⟩) S2.out).trans P0.out
    have y1 : w3.cell? ⟨B, 1, none⟩ = some (.slice (some ⟨Y, 0, none⟩) nn nn) := by simp [World.cell?, (o3 B hm.BX), hm.hB]
    have y2 : w3.cell? ⟨w.heap.size, 1, none⟩ = some (.slice C.na nn C.ncap) := (HB3.out.cell (p := ⟨w.heap.size, 1, none⟩) S2.out).trans P1.out
    have z0 : w4.cell? ⟨B, 0, none⟩ = some (.slice (some ⟨X, 0, none⟩) nt nt) := by simp [World.cell?, hB4.out]
    have z1 : w4.cell? ⟨B, 1, none⟩ = some (.slice (some ⟨Y, 0, none⟩) nn nn) := by simp [World.cell?, hB4.out]
    obtain ⟨u0, u1, uf⟩ := R2.out
    have sz : w.heap.size + 1 < W2.heap.size := lt_of_cell u0
    have v0 : w4.cell? ⟨w.heap.size + 1, 0, none⟩ = some (.slice none 0 0) := (HB4.out.cell (p := ⟨w.heap.size + 1, 0, none⟩) sz).trans u0
    have v1 : w4.cell? ⟨w.heap.size + 1, 1, none⟩ = some (.slice none 0 0) := (HB4.out.cell (p := ⟨w.heap.size + 1, 1, none⟩) sz).trans u1
    have vf0 : w4.frozen? ⟨w.heap.size + 1, 0, none⟩ = false := (HB4.out.frozen (p := ⟨w.heap.size + 1, 0, none⟩) sz).trans (uf 0)
    have vf1 : w4.frozen? ⟨w.heap.size + 1, 1, none⟩ = false := (HB4.out.frozen (p := ⟨w.heap.size + 1, 1, none⟩) sz).trans (uf 1)
    have HOK : Hid (C.Ok) := hC.ok
    clear hm g3 o3 b3 g4 o4 b4 hM2 hC u0 u1 uf R2
    go_wp2
    obtain ⟨W9, hW9⟩ : ∃ W9, Hid (W9 = (w4.setCell ⟨w.heap.size + 1, 0, none⟩ (.slice (some ⟨X, 0, none⟩) nt nt)).setCell ⟨w.heap.size + 1, 1, none⟩ (.slice (some ⟨Y, 0, none⟩) nn nn)) := ⟨_, rfl⟩
    rw [<- hW9.out]
    have k0 : W9.cell? ⟨w.heap.size + 1, 0, none⟩ = some (.slice (some ⟨X, 0, none⟩) nt nt) := by
      rw [hW9.out, World.cell?_setCell_other _ _ _ _ (by simp)]
      exact World.cell?_setCell_same _ _ _ v0
    have k1 : W9.cell? ⟨w.heap.size + 1, 1, none⟩ = some (.slice (some ⟨Y, 0, none⟩) nn nn) := by
      rw [hW9.out]
      exact World.cell?_setCell_same _ _ _ ((World.cell?_setCell_other _ _ _ _ (by simp)).trans v1)
    have H9 : ∀ b, b ≠ w.heap.size + 1 -> W9.heap[b]? = w4.heap[b]? := fun b hb => by rw [hW9.out, Below.heap_setCell _ _ _ _ hb, Below.heap_setCell _ _ _ _ hb]
    have HE : Hid (Below w.heap.size w W9) := by
      show Below _ _ _
      rw [hW9.out]
      exact ((BW.out.trans (HB4.out.mono (by omega))).setCell (by simp) _).setCell (by simp) _
    have lX := HM.out.lX
    have lY := HM.out.lY
    have hX9 := (H9 X (by omega)).trans hX4.out
    have hY9 := (H9 Y (by omega)).trans hY4.out
    (try simp only [Exit.inBlock, Exit.then])
    refine bodyPost_ret (by simp [results, Tryz.results42, go_sem, k0, k1]; try rfl) rfl ?_
    have ok := HOK.out
    have e1 := hnt.out
    have e2 := hnn.out
    refine ⟨⟨some ⟨X, 0, none⟩, C.tr, nt, some ⟨Y, 0, none⟩, C.ns, nn⟩, by rw [<- e1, <- e2], ⟨rfl, rfl⟩, ⟨?_, ?_, off_some HM.out.XY, ok.same ⟨rfl, rfl⟩⟩, HE.out⟩
    · exact row_of_block (zs := []) (by omega) (by simpa using hX9) (texts_len _) (by dsimp only; omega) (by rw [e1]; exact ok.trl) (by simp only [List.append_nil]; rw [texts_len]; omega)
    · exact row_of_block (zs := []) (by omega) (by simpa using hY9) (wvals_len _) (by dsimp only; omega) (by rw [e2]; exact ok.nsl) (by simp only [List.append_nil]; rw [wvals_len]; omega)
end Go.Proofs.YtdngbojbpmdegaaGreatDoor

namespace Go.Proofs.YtdngbojbpmdegaaGreatDoor
open Go.RowKit
structure Ac where
  k : Int
  e : Int
  f : Int
  at_ : Int
  r : Int
  n : Int
  fuel : Int
instance : Inhabited Ac := ⟨⟨0, 0, 0, 0, 0, 0, 0⟩⟩
def Ac.cells (x : Ac) : List Value := [.int .i64 x.k, .int .i64 x.e, .int .i64 x.f, .int .i64 x.at_, .int .i64 x.r, .int .i64 x.n, .int .i64 x.fuel]
def rowA (l : List Ac) : List Value := l.flatMap Ac.cells
theorem rowA_len (l : List Ac) : (rowA l).length = l.length * 7 := by
  induction l with
  | nil => rfl
  | cons x l ih => simp only [rowA, List.flatMap_cons, List.length_append, List.length_cons] at ih ⊢; rw [ih]; simp [Ac.cells]; omega
theorem cells_one (x : Ac) : ∀ u ∈ x.cells, u.oneCell' = true := by
  intro u hu
  simp [Ac.cells] at hu
  rcases hu with rfl | rfl | rfl | rfl | rfl | rfl | rfl <;> rfl
theorem rowA_cells_one (l : List Ac) : ∀ u ∈ rowA l, u.oneCell' = true := by
  intro u hu
  simp only [rowA, List.mem_flatMap] at hu
  obtain ⟨x, _, hx⟩ := hu
  exact cells_one x u hx
theorem act_info : (Tryz.prog.info? 68).map (fun i => (i.zero, i.size, i.bytes)) = some (some (.agg #[.int .i64 0, .int .i64 0, .int .i64 0, .int .i64 0, .int .i64 0, .int .i64 0, .int .i64 0]), 7, 56) := by kernel_rfl
def Owns (w : World) (B : Nat) (v : Value) (l : List Ac) : Prop := w.ownsRow B 68 7 v l.length (rowA l)
end Go.Proofs.YtdngbojbpmdegaaGreatDoor
