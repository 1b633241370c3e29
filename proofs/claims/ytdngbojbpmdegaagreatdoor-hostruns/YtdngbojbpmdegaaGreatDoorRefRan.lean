import Derived.Test.YtdngbojbpmdegaaGreatDoorRefRanL
namespace Go.Proofs.YtdngbojbpmdegaaGreatDoor
open Go.RowKit
set_option linter.unusedVariables false
def RanOfSaid (R : Rn) (m : Nat) (w : World) (y : Ending) (w' : World) : Prop := ∃ N : Mv, y = .returned (.tuple #[N.val, .agg #[.int .i64 R.nd, .int .i64 R.v]]) /\ N.Same (leftM R m) /\ Owned w.heap.size w' N /\ Below w.heap.size w w'
theorem ranK_start {w W2 w5 : World} {N M0 : Mv} {m f : Nat} {pc r0 r1 r2 r3 : Int} {R : Rn} (BW : Below w.heap.size w W2) (l4 : w.heap.size + 1 + 1 + 1 < W2.heap.size) (q2 : W2.heap[w.heap.size + 1]? = some (.cells #[.int .i64 r0, .int .i64 r1, .int .i64 r2, .int .i64 r3] 56)) (q3 : W2.heap[w.heap.size + 1 + 1]? = some (.cells #[.slice none 0 0, .slice none 0 0, .slice none 0 0] 29)) (q4 : W2.heap[w.heap.size + 1 + 1 + 1]? = some (.cells #[.int .i64 0, .int .i64 0] 47))
    (HS : N.Same M0) (HO : Owned W2.heap.size w5 N) (HB : Below W2.heap.size W2 w5) (HQ : QRow W2.heap.size w5 N) (ho : RunOk M0 m pc [r0, r1, r2, r3]) (hf : f <= 5000) (hR : R = runR f M0 m pc [r0, r1, r2, r3] xorR) :
    RanK W2.heap.size m w5.heap.size (w.heap.size + 1) (w.heap.size + 1 + 1) (w.heap.size + 1 + 1 + 1) w R f pc N [r0, r1, r2, r3] (w5.alloc (.cells #[.slice N.fa N.frs.length N.fcap, .slice N.ea N.ens.length N.ecap, .slice N.qa N.qus.length N.qcap] 29)) := by
  have b6 : Below w5.heap.size w5 (w5.alloc (.cells #[.slice N.fa N.frs.length N.fcap, .slice N.ea N.ens.length N.ecap, .slice N.qa N.qus.length N.qcap] 29)) := (Below.refl _ _).alloc (Nat.le_refl _) _
  have n6 : (w5.alloc (.cells #[.slice N.fa N.frs.length N.fcap, .slice N.ea N.ens.length N.ecap, .slice N.qa N.qus.length N.qcap] 29)).heap[w5.heap.size]? = some (.cells #[.slice N.fa N.frs.length N.fcap, .slice N.ea N.ens.length N.ecap, .slice N.qa N.qus.length N.qcap] 29) := Go.Deep.blk_alloc_new _ _
  generalize w5.alloc (.cells #[.slice N.fa N.frs.length N.fcap, .slice N.ea N.ens.length N.ecap, .slice N.qa N.qus.length N.qcap] 29) = V at b6 n6
  have s5 := HB.size
  have s6 := b6.size
  have s2 := BW.size
  have lV : w5.heap.size < V.heap.size := (Array.getElem?_eq_some_iff.1 n6).1
  have kp : ∀ c, c < W2.heap.size -> V.heap[c]? = W2.heap[c]? := fun c hc => (b6.block c (by omega)).trans (HB.block c hc)
  have k2 := (kp _ (by omega)).trans q2
  have k3 := (kp _ (by omega)).trans q3
  have k4 := (kp _ l4).trans q4
  refine ⟨hf, ⟨by simp [World.cell?, n6], by simp [World.cell?, n6], by simp [World.cell?, n6], ?_, frozen_of_block n6, frozen_of_block k2, lV, by omega, HO.below b6, HQ.keep fun b o s e => b6.block b (HO.nq b o s e).2.1, ?_, ?_, by omega, by omega⟩, RunOk.same ho HS, ?_, BW.trans ((HB.mono s2).trans (b6.mono (by omega))), k3, k4, by omega, by omega, by omega, by omega, by omega, by omega, by omega, by omega, by omega⟩
  · intro i hi
    match i, hi with
    | 0, _ => simp [World.cell?, k2]
    | 1, _ => simp [World.cell?, k2]
    | 2, _ => simp [World.cell?, k2]
    | 3, _ => simp [World.cell?, k2]
  · intro q; have := (Mine.fresh HO q).2; omega
  · intro q; have := (Mine.fresh HO q).1; omega
  · rw [hR]; exact runR_same f HS.symm m pc _ xorR
set_option maxRecDepth 1000000 in
set_option maxHeartbeats 16000000 in
theorem ranOf_run (M : Mv) (m : Nat) (pc r0 r1 r2 r3 : Int) (f : Nat) (w : World) (hM : MachAt w M) (hF : M.Fits) (ho : RunOk M m pc [r0, r1, r2, r3]) (hf : f <= 5000) :
    Calls Tryz.prog 111 #[M.val, .int .i64 ((m : Int) + 1), .int .i64 pc, .agg #[.int .i64 r0, .int .i64 r1, .int .i64 r2, .int .i64 r3], .int .i64 (f : Int)] w (RanOfSaid (runR f M m pc [r0, r1, r2, r3] xorR) m w) := by
  obtain ⟨R, hR⟩ : ∃ R, Hid (R = runR f M m pc [r0, r1, r2, r3] xorR) := ⟨_, rfl⟩
  rw [<- hR.out]
  have HO : Hid (_) := ho
  have HF5 : Hid (f <= 5000) := hf
  have cL0 := fun w' (h : Below w.heap.size w w') => mcopy_own M w' (hM.below h) hF
  unfold Mv.val at cL0
  unfold Mv.val
  obtain ⟨fa, frs, fcap, ea, ens, ecap, qa, qus, qcap⟩ := M
  dsimp only at cL0 ⊢
  obtain ⟨W2, hW2⟩ : ∃ W2, Hid (W2 = (((w.alloc (.cells #[.slice fa frs.length fcap, .slice ea ens.length ecap, .slice qa qus.length qcap] 29)).alloc (.cells #[.int .i64 r0, .int .i64 r1, .int .i64 r2, .int .i64 r3] 56)).alloc (.cells #[.slice none 0 0, .slice none 0 0, .slice none 0 0] 29)).alloc (.cells #[.int .i64 0, .int .i64 0] 47)) := ⟨_, rfl⟩
  have BW : Hid (Below w.heap.size w W2) := by show Below _ _ _; rw [hW2.out]; exact below_allocR (below_allocR (below_allocR (below_allocR (Below.refl _ _) _) _) _) _
  have cL := cL0 W2 BW.out
  have FC : Hid (W2.heap[w.heap.size]? = some (.cells #[.slice fa frs.length fcap, .slice ea ens.length ecap, .slice qa qus.length qcap] 29) /\ W2.heap[w.heap.size + 1]? = some (.cells #[.int .i64 r0, .int .i64 r1, .int .i64 r2, .int .i64 r3] 56) /\ W2.heap[w.heap.size + 1 + 1]? = some (.cells #[.slice none 0 0, .slice none 0 0, .slice none 0 0] 29) /\ W2.heap[w.heap.size + 1 + 1 + 1]? = some (.cells #[.int .i64 0, .int .i64 0] 47)) := by
    show _ /\ _
    rw [hW2.out]
    exact ⟨al1 w _ _ _ _, al2 w _ _ _ _, al3 w _ _ _ _, al4 w _ _ _ _⟩
  obtain ⟨q1, q2, q3, q4⟩ := FC.out
  have t0 : W2.cell? ⟨w.heap.size, 0, none⟩ = some (.slice fa frs.length fcap) := by simp [World.cell?, q1]
  have t1 : W2.cell? ⟨w.heap.size, 1, none⟩ = some (.slice ea ens.length ecap) := by simp [World.cell?, q1]
  have t2 : W2.cell? ⟨w.heap.size, 2, none⟩ = some (.slice qa qus.length qcap) := by simp [World.cell?, q1]
  have l0 : w.heap.size < W2.heap.size := lt_of_cell t0
  have HL4 : Hid (w.heap.size + 1 + 1 + 1 < W2.heap.size) := (Array.getElem?_eq_some_iff.1 q4).1
  clear hM hF ho cL0 q1 q2 q3 q4 hf
  go_enter Tryz.func111, Tryz.ntmps111
  go_upto_region 1 with fail
  rw [<- hW2.out]
  go_wp2_with (go_at_call 58; refine cL.mono ?_; clear cL; rintro x w5 ⟨N, rfl, hS, hO, hb, hq⟩; have HS5 : Hid (_) := hS; have HO5 : Hid (_) := hO; have HQ5 : Hid (_) := hq; have HB5 : Hid (_) := hb; clear hS hO hq hb; obtain ⟨nfa, nfrs, nfcap, nea, nens, necap, nqa, nqus, nqcap⟩ := N)
  refine ran_loop (n0 := W2.heap.size) (m := m) (bm := w5.heap.size) (br := w.heap.size + 1) (X := w.heap.size + 1 + 1) (Y := w.heap.size + 1 + 1 + 1) (w := w) (R := R) (k := f) (pc := pc) (M := ⟨nfa, nfrs, nfcap, nea, nens, necap, nqa, nqus, nqcap⟩) (rs := [r0, r1, r2, r3]) _ _ _ _ _ _ _ _ _ _ _ _ _ _ _ _ _ _ _ _ _ _ _ _ _ _ _ _ _ _ _ _ _ _ _ _ _ _ _ _ _ _ _ _ _ _ _ _ _ _ _ _ _ _ _ _ _ _ _ _ _ _ _ _ _ _ _ _ _ _ _ _ _ _ _ _ _ _ _ _ _ _ _ _ _ _ _ _ _ _ _ _ _ _ _ _ _ _ _ _ _ _ _ _ _ _ _ _ _ _ _ _ _ _ _ _ _ _ _ _ _ _ _ _ _ _ _ _ _ _ _ _ _ _ _ _ _ _ _ _ _ _ _ _ _ _ _ _ _ _ _ _ _ _ _ _ _ _ _ _ _ _ _ _ _ _ _ _ _ _ _ _ _ _ _ _ _ _ _ _ _ _ _ _ _ _ _ _ _ _ _ _ _ _ _ _ _ _ _ _ _ _ _ _ _ _ _ _ _ _ _ _ _ _ _ _ _ _ _ _ _ _ _ _ _ _ _ _ _ _ _ _ _ _ _ _ _ _ _ _ _ _ _ _ _ _ _ _ _ _ _ _ _ _ _ _ ?_ _ ?_ ?_
  · exact ranK_start BW.out HL4.out FC.out.2.1 FC.out.2.2.1 FC.out.2.2.2 HS5.out HO5.out HB5.out HQ5.out HO.out HF5.out hR.out
  · intro a w9 hA
    clear t0 t1 t2 l0 HO HF5 HS5 HO5 HQ5 HB5 FC BW HL4 hR hW2
    unfold RanF at hA
    obtain ⟨u2, hA⟩ := hA
    obtain ⟨u4, hA⟩ := hA
    obtain ⟨u13, hA⟩ := hA
    obtain ⟨u14, hA⟩ := hA
    obtain ⟨u15, hA⟩ := hA
    obtain ⟨u16, hA⟩ := hA
    obtain ⟨u17, hA⟩ := hA
    obtain ⟨u18, hA⟩ := hA
    obtain ⟨u19, hA⟩ := hA
    obtain ⟨u20, hA⟩ := hA
    obtain ⟨u21, hA⟩ := hA
    obtain ⟨u22, hA⟩ := hA
    obtain ⟨u23, hA⟩ := hA
    obtain ⟨u24, hA⟩ := hA
    obtain ⟨u25, hA⟩ := hA
    obtain ⟨u26, hA⟩ := hA
    obtain ⟨u27, hA⟩ := hA
    obtain ⟨u28, hA⟩ := hA
    obtain ⟨u29, hA⟩ := hA
    obtain ⟨u30, hA⟩ := hA
    obtain ⟨u33, hA⟩ := hA
    obtain ⟨u34, hA⟩ := hA
    obtain ⟨u35, hA⟩ := hA
    obtain ⟨u36, hA⟩ := hA
    obtain ⟨u37, hA⟩ := hA
    obtain ⟨u38, hA⟩ := hA
    obtain ⟨u39, hA⟩ := hA
    obtain ⟨u40, hA⟩ := hA
    obtain ⟨u41, hA⟩ := hA
    obtain ⟨u42, hA⟩ := hA
    obtain ⟨u43, hA⟩ := hA
    obtain ⟨u44, hA⟩ := hA
    obtain ⟨u45, hA⟩ := hA
    obtain ⟨u46, hA⟩ := hA
    obtain ⟨u47, hA⟩ := hA
    obtain ⟨u48, hA⟩ := hA
    obtain ⟨u49, hA⟩ := hA
    obtain ⟨u50, hA⟩ := hA
    obtain ⟨u51, hA⟩ := hA
    obtain ⟨u52, hA⟩ := hA
    obtain ⟨u53, hA⟩ := hA
    obtain ⟨u54, hA⟩ := hA
    obtain ⟨u55, hA⟩ := hA
    obtain ⟨u56, hA⟩ := hA
    obtain ⟨u57, hA⟩ := hA
    obtain ⟨u58, hA⟩ := hA
    obtain ⟨u59, hA⟩ := hA
    obtain ⟨u60, hA⟩ := hA
    obtain ⟨u61, hA⟩ := hA
    obtain ⟨u62, hA⟩ := hA
    obtain ⟨u63, hA⟩ := hA
    obtain ⟨u64, hA⟩ := hA
    obtain ⟨u65, hA⟩ := hA
    obtain ⟨u66, hA⟩ := hA
    obtain ⟨u67, hA⟩ := hA
    obtain ⟨u68, hA⟩ := hA
    obtain ⟨u69, hA⟩ := hA
    obtain ⟨u70, hA⟩ := hA
    obtain ⟨u71, hA⟩ := hA
    obtain ⟨u72, hA⟩ := hA
    obtain ⟨u73, hA⟩ := hA
    obtain ⟨u74, hA⟩ := hA
    obtain ⟨u75, hA⟩ := hA
    obtain ⟨u76, hA⟩ := hA
    obtain ⟨u77, hA⟩ := hA
    obtain ⟨u78, hA⟩ := hA
    obtain ⟨u79, hA⟩ := hA
    obtain ⟨u80, hA⟩ := hA
    obtain ⟨u81, hA⟩ := hA
    obtain ⟨u82, hA⟩ := hA
    obtain ⟨u83, hA⟩ := hA
    obtain ⟨u84, hA⟩ := hA
    obtain ⟨u85, hA⟩ := hA
    obtain ⟨u86, hA⟩ := hA
    obtain ⟨u87, hA⟩ := hA
    obtain ⟨u88, hA⟩ := hA
    obtain ⟨u89, hA⟩ := hA
    obtain ⟨u90, hA⟩ := hA
    obtain ⟨u91, hA⟩ := hA
    obtain ⟨u92, hA⟩ := hA
    obtain ⟨u93, hA⟩ := hA
    obtain ⟨u94, hA⟩ := hA
    obtain ⟨u95, hA⟩ := hA
    obtain ⟨u96, hA⟩ := hA
    obtain ⟨u97, hA⟩ := hA
    obtain ⟨u98, hA⟩ := hA
    obtain ⟨u99, hA⟩ := hA
    obtain ⟨u100, hA⟩ := hA
    obtain ⟨u101, hA⟩ := hA
    obtain ⟨u102, hA⟩ := hA
    obtain ⟨u103, hA⟩ := hA
    obtain ⟨u104, hA⟩ := hA
    obtain ⟨u105, hA⟩ := hA
    obtain ⟨u106, hA⟩ := hA
    obtain ⟨u107, hA⟩ := hA
    obtain ⟨u108, hA⟩ := hA
    obtain ⟨u109, hA⟩ := hA
    obtain ⟨u110, hA⟩ := hA
    obtain ⟨u111, hA⟩ := hA
    obtain ⟨u112, hA⟩ := hA
    obtain ⟨u113, hA⟩ := hA
    obtain ⟨u114, hA⟩ := hA
    obtain ⟨u115, hA⟩ := hA
    obtain ⟨u116, hA⟩ := hA
    obtain ⟨u117, hA⟩ := hA
    obtain ⟨u118, hA⟩ := hA
    obtain ⟨u119, hA⟩ := hA
    obtain ⟨u120, hA⟩ := hA
    obtain ⟨u121, hA⟩ := hA
    obtain ⟨u122, hA⟩ := hA
    obtain ⟨u123, hA⟩ := hA
    obtain ⟨u124, hA⟩ := hA
    obtain ⟨u125, hA⟩ := hA
    obtain ⟨u126, hA⟩ := hA
    obtain ⟨u127, hA⟩ := hA
    obtain ⟨u128, hA⟩ := hA
    obtain ⟨u129, hA⟩ := hA
    obtain ⟨u130, hA⟩ := hA
    obtain ⟨u131, hA⟩ := hA
    obtain ⟨u132, hA⟩ := hA
    obtain ⟨u133, hA⟩ := hA
    obtain ⟨u134, hA⟩ := hA
    obtain ⟨u135, hA⟩ := hA
    obtain ⟨u136, hA⟩ := hA
    obtain ⟨u137, hA⟩ := hA
    obtain ⟨u138, hA⟩ := hA
    obtain ⟨u139, hA⟩ := hA
    obtain ⟨u140, hA⟩ := hA
    obtain ⟨u141, hA⟩ := hA
    obtain ⟨u142, hA⟩ := hA
    obtain ⟨u143, hA⟩ := hA
    obtain ⟨u144, hA⟩ := hA
    obtain ⟨u145, hA⟩ := hA
    obtain ⟨u146, hA⟩ := hA
    obtain ⟨u147, hA⟩ := hA
    obtain ⟨u148, hA⟩ := hA
    obtain ⟨u149, hA⟩ := hA
    obtain ⟨u150, hA⟩ := hA
    obtain ⟨u151, hA⟩ := hA
    obtain ⟨u152, hA⟩ := hA
    obtain ⟨u153, hA⟩ := hA
    obtain ⟨u154, hA⟩ := hA
    obtain ⟨u155, hA⟩ := hA
    obtain ⟨u156, hA⟩ := hA
    obtain ⟨u157, hA⟩ := hA
    obtain ⟨u158, hA⟩ := hA
    obtain ⟨u159, hA⟩ := hA
    obtain ⟨u160, hA⟩ := hA
    obtain ⟨u161, hA⟩ := hA
    obtain ⟨u162, hA⟩ := hA
    obtain ⟨u163, hA⟩ := hA
    obtain ⟨u164, hA⟩ := hA
    obtain ⟨u165, hA⟩ := hA
    obtain ⟨u166, hA⟩ := hA
    obtain ⟨u167, hA⟩ := hA
    obtain ⟨u168, hA⟩ := hA
    obtain ⟨u169, hA⟩ := hA
    obtain ⟨u170, hA⟩ := hA
    obtain ⟨u171, hA⟩ := hA
    obtain ⟨u172, hA⟩ := hA
    obtain ⟨u173, hA⟩ := hA
    obtain ⟨u174, hA⟩ := hA
    obtain ⟨u175, hA⟩ := hA
    obtain ⟨u176, hA⟩ := hA
    obtain ⟨u177, hA⟩ := hA
    obtain ⟨u178, hA⟩ := hA
    obtain ⟨u179, hA⟩ := hA
    obtain ⟨u180, hA⟩ := hA
    obtain ⟨u181, hA⟩ := hA
    obtain ⟨u182, hA⟩ := hA
    obtain ⟨u183, hA⟩ := hA
    obtain ⟨u184, hA⟩ := hA
    obtain ⟨u185, hA⟩ := hA
    obtain ⟨u186, hA⟩ := hA
    obtain ⟨u187, hA⟩ := hA
    obtain ⟨u188, hA⟩ := hA
    obtain ⟨u189, hA⟩ := hA
    obtain ⟨u190, hA⟩ := hA
    obtain ⟨u191, hA⟩ := hA
    obtain ⟨u192, hA⟩ := hA
    obtain ⟨u193, hA⟩ := hA
    obtain ⟨u194, hA⟩ := hA
    obtain ⟨u195, hA⟩ := hA
    obtain ⟨u196, hA⟩ := hA
    obtain ⟨u197, hA⟩ := hA
    obtain ⟨u198, hA⟩ := hA
    obtain ⟨u199, hA⟩ := hA
    obtain ⟨u200, hA⟩ := hA
    obtain ⟨u201, hA⟩ := hA
    obtain ⟨u202, hA⟩ := hA
    obtain ⟨u203, hA⟩ := hA
    obtain ⟨u204, hA⟩ := hA
    obtain ⟨u205, hA⟩ := hA
    obtain ⟨u206, hA⟩ := hA
    obtain ⟨u207, hA⟩ := hA
    obtain ⟨u208, hA⟩ := hA
    obtain ⟨u209, hA⟩ := hA
    obtain ⟨u210, hA⟩ := hA
    obtain ⟨u211, hA⟩ := hA
    obtain ⟨u212, hA⟩ := hA
    obtain ⟨u213, hA⟩ := hA
    obtain ⟨u214, hA⟩ := hA
    obtain ⟨u215, hA⟩ := hA
    obtain ⟨u216, hA⟩ := hA
    obtain ⟨u217, hA⟩ := hA
    obtain ⟨u218, hA⟩ := hA
    obtain ⟨u219, hA⟩ := hA
    obtain ⟨u220, hA⟩ := hA
    obtain ⟨u221, hA⟩ := hA
    obtain ⟨u222, hA⟩ := hA
    obtain ⟨u223, hA⟩ := hA
    obtain ⟨u224, hA⟩ := hA
    obtain ⟨u225, hA⟩ := hA
    obtain ⟨u226, hA⟩ := hA
    obtain ⟨u227, hA⟩ := hA
    obtain ⟨u228, hA⟩ := hA
    obtain ⟨u229, hA⟩ := hA
    obtain ⟨u230, hA⟩ := hA
    obtain ⟨u231, hA⟩ := hA
    obtain ⟨u232, hA⟩ := hA
    obtain ⟨u233, hA⟩ := hA
    obtain ⟨u234, hA⟩ := hA
    obtain ⟨u235, hA⟩ := hA
    obtain ⟨u236, hA⟩ := hA
    obtain ⟨u237, hA⟩ := hA
    obtain ⟨u238, hA⟩ := hA
    obtain ⟨u239, hA⟩ := hA
    obtain ⟨u240, hA⟩ := hA
    obtain ⟨u241, hA⟩ := hA
    obtain ⟨u242, hA⟩ := hA
    obtain ⟨u243, hA⟩ := hA
    obtain ⟨u244, hA⟩ := hA
    obtain ⟨u245, hA⟩ := hA
    obtain ⟨hO, rfl⟩ := hA
    obtain ⟨N, g0, g1, g2, g3, g4, hN, hO9, hb9⟩ := hO
    (try simp only [Exit.inBlock, Exit.then])
    refine bodyPost_ret (by simp [results, Tryz.results111, go_sem, g0, g1, g2, g3, g4]; try rfl) rfl ?_
    exact ⟨N, rfl, hN, hO9, hb9⟩
  · intro a w9 hA
    generalize w.heap.size + 1 + 1 + 1 = Y at *
    generalize w.heap.size + 1 + 1 = X at *
    generalize w.heap.size + 1 = br at *
    generalize w5.heap.size = bm at *
    generalize W2.heap.size = n0 at *
    clear t0 t1 t2 l0 HO HF5 HS5 HO5 HQ5 HB5 FC BW HL4 hR hW2
    unfold RanF at hA
    obtain ⟨u2, hA⟩ := hA
    obtain ⟨u4, hA⟩ := hA
    obtain ⟨u13, hA⟩ := hA
    obtain ⟨u14, hA⟩ := hA
    obtain ⟨u15, hA⟩ := hA
    obtain ⟨u16, hA⟩ := hA
    obtain ⟨u17, hA⟩ := hA
    obtain ⟨u18, hA⟩ := hA
    obtain ⟨u19, hA⟩ := hA
    obtain ⟨u20, hA⟩ := hA
    obtain ⟨u21, hA⟩ := hA
    obtain ⟨u22, hA⟩ := hA
    obtain ⟨u23, hA⟩ := hA
    obtain ⟨u24, hA⟩ := hA
    obtain ⟨u25, hA⟩ := hA
    obtain ⟨u26, hA⟩ := hA
    obtain ⟨u27, hA⟩ := hA
    obtain ⟨u28, hA⟩ := hA
    obtain ⟨u29, hA⟩ := hA
    obtain ⟨u30, hA⟩ := hA
    obtain ⟨u33, hA⟩ := hA
    obtain ⟨u34, hA⟩ := hA
    obtain ⟨u35, hA⟩ := hA
    obtain ⟨u36, hA⟩ := hA
    obtain ⟨u37, hA⟩ := hA
    obtain ⟨u38, hA⟩ := hA
    obtain ⟨u39, hA⟩ := hA
    obtain ⟨u40, hA⟩ := hA
    obtain ⟨u41, hA⟩ := hA
    obtain ⟨u42, hA⟩ := hA
    obtain ⟨u43, hA⟩ := hA
    obtain ⟨u44, hA⟩ := hA
    obtain ⟨u45, hA⟩ := hA
    obtain ⟨u46, hA⟩ := hA
    obtain ⟨u47, hA⟩ := hA
    obtain ⟨u48, hA⟩ := hA
    obtain ⟨u49, hA⟩ := hA
    obtain ⟨u50, hA⟩ := hA
    obtain ⟨u51, hA⟩ := hA
    obtain ⟨u52, hA⟩ := hA
    obtain ⟨u53, hA⟩ := hA
    obtain ⟨u54, hA⟩ := hA
    obtain ⟨u55, hA⟩ := hA
    obtain ⟨u56, hA⟩ := hA
    obtain ⟨u57, hA⟩ := hA
    obtain ⟨u58, hA⟩ := hA
    obtain ⟨u59, hA⟩ := hA
    obtain ⟨u60, hA⟩ := hA
    obtain ⟨u61, hA⟩ := hA
    obtain ⟨u62, hA⟩ := hA
    obtain ⟨u63, hA⟩ := hA
    obtain ⟨u64, hA⟩ := hA
    obtain ⟨u65, hA⟩ := hA
    obtain ⟨u66, hA⟩ := hA
    obtain ⟨u67, hA⟩ := hA
    obtain ⟨u68, hA⟩ := hA
    obtain ⟨u69, hA⟩ := hA
    obtain ⟨u70, hA⟩ := hA
    obtain ⟨u71, hA⟩ := hA
    obtain ⟨u72, hA⟩ := hA
    obtain ⟨u73, hA⟩ := hA
    obtain ⟨u74, hA⟩ := hA
    obtain ⟨u75, hA⟩ := hA
    obtain ⟨u76, hA⟩ := hA
    obtain ⟨u77, hA⟩ := hA
    obtain ⟨u78, hA⟩ := hA
    obtain ⟨u79, hA⟩ := hA
    obtain ⟨u80, hA⟩ := hA
    obtain ⟨u81, hA⟩ := hA
    obtain ⟨u82, hA⟩ := hA
    obtain ⟨u83, hA⟩ := hA
    obtain ⟨u84, hA⟩ := hA
    obtain ⟨u85, hA⟩ := hA
    obtain ⟨u86, hA⟩ := hA
    obtain ⟨u87, hA⟩ := hA
    obtain ⟨u88, hA⟩ := hA
    obtain ⟨u89, hA⟩ := hA
    obtain ⟨u90, hA⟩ := hA
    obtain ⟨u91, hA⟩ := hA
    obtain ⟨u92, hA⟩ := hA
    obtain ⟨u93, hA⟩ := hA
    obtain ⟨u94, hA⟩ := hA
    obtain ⟨u95, hA⟩ := hA
    obtain ⟨u96, hA⟩ := hA
    obtain ⟨u97, hA⟩ := hA
    obtain ⟨u98, hA⟩ := hA
    obtain ⟨u99, hA⟩ := hA
    obtain ⟨u100, hA⟩ := hA
    obtain ⟨u101, hA⟩ := hA
    obtain ⟨u102, hA⟩ := hA
    obtain ⟨u103, hA⟩ := hA
    obtain ⟨u104, hA⟩ := hA
    obtain ⟨u105, hA⟩ := hA
    obtain ⟨u106, hA⟩ := hA
    obtain ⟨u107, hA⟩ := hA
    obtain ⟨u108, hA⟩ := hA
    obtain ⟨u109, hA⟩ := hA
    obtain ⟨u110, hA⟩ := hA
    obtain ⟨u111, hA⟩ := hA
    obtain ⟨u112, hA⟩ := hA
    obtain ⟨u113, hA⟩ := hA
    obtain ⟨u114, hA⟩ := hA
    obtain ⟨u115, hA⟩ := hA
    obtain ⟨u116, hA⟩ := hA
    obtain ⟨u117, hA⟩ := hA
    obtain ⟨u118, hA⟩ := hA
    obtain ⟨u119, hA⟩ := hA
    obtain ⟨u120, hA⟩ := hA
    obtain ⟨u121, hA⟩ := hA
    obtain ⟨u122, hA⟩ := hA
    obtain ⟨u123, hA⟩ := hA
    obtain ⟨u124, hA⟩ := hA
    obtain ⟨u125, hA⟩ := hA
    obtain ⟨u126, hA⟩ := hA
    obtain ⟨u127, hA⟩ := hA
    obtain ⟨u128, hA⟩ := hA
    obtain ⟨u129, hA⟩ := hA
    obtain ⟨u130, hA⟩ := hA
    obtain ⟨u131, hA⟩ := hA
    obtain ⟨u132, hA⟩ := hA
    obtain ⟨u133, hA⟩ := hA
    obtain ⟨u134, hA⟩ := hA
    obtain ⟨u135, hA⟩ := hA
    obtain ⟨u136, hA⟩ := hA
    obtain ⟨u137, hA⟩ := hA
    obtain ⟨u138, hA⟩ := hA
    obtain ⟨u139, hA⟩ := hA
    obtain ⟨u140, hA⟩ := hA
    obtain ⟨u141, hA⟩ := hA
    obtain ⟨u142, hA⟩ := hA
    obtain ⟨u143, hA⟩ := hA
    obtain ⟨u144, hA⟩ := hA
    obtain ⟨u145, hA⟩ := hA
    obtain ⟨u146, hA⟩ := hA
    obtain ⟨u147, hA⟩ := hA
    obtain ⟨u148, hA⟩ := hA
    obtain ⟨u149, hA⟩ := hA
    obtain ⟨u150, hA⟩ := hA
    obtain ⟨u151, hA⟩ := hA
    obtain ⟨u152, hA⟩ := hA
    obtain ⟨u153, hA⟩ := hA
    obtain ⟨u154, hA⟩ := hA
    obtain ⟨u155, hA⟩ := hA
    obtain ⟨u156, hA⟩ := hA
    obtain ⟨u157, hA⟩ := hA
    obtain ⟨u158, hA⟩ := hA
    obtain ⟨u159, hA⟩ := hA
    obtain ⟨u160, hA⟩ := hA
    obtain ⟨u161, hA⟩ := hA
    obtain ⟨u162, hA⟩ := hA
    obtain ⟨u163, hA⟩ := hA
    obtain ⟨u164, hA⟩ := hA
    obtain ⟨u165, hA⟩ := hA
    obtain ⟨u166, hA⟩ := hA
    obtain ⟨u167, hA⟩ := hA
    obtain ⟨u168, hA⟩ := hA
    obtain ⟨u169, hA⟩ := hA
    obtain ⟨u170, hA⟩ := hA
    obtain ⟨u171, hA⟩ := hA
    obtain ⟨u172, hA⟩ := hA
    obtain ⟨u173, hA⟩ := hA
    obtain ⟨u174, hA⟩ := hA
    obtain ⟨u175, hA⟩ := hA
    obtain ⟨u176, hA⟩ := hA
    obtain ⟨u177, hA⟩ := hA
    obtain ⟨u178, hA⟩ := hA
    obtain ⟨u179, hA⟩ := hA
    obtain ⟨u180, hA⟩ := hA
    obtain ⟨u181, hA⟩ := hA
    obtain ⟨u182, hA⟩ := hA
    obtain ⟨u183, hA⟩ := hA
    obtain ⟨u184, hA⟩ := hA
    obtain ⟨u185, hA⟩ := hA
    obtain ⟨u186, hA⟩ := hA
    obtain ⟨u187, hA⟩ := hA
    obtain ⟨u188, hA⟩ := hA
    obtain ⟨u189, hA⟩ := hA
    obtain ⟨u190, hA⟩ := hA
    obtain ⟨u191, hA⟩ := hA
    obtain ⟨u192, hA⟩ := hA
    obtain ⟨u193, hA⟩ := hA
    obtain ⟨u194, hA⟩ := hA
    obtain ⟨u195, hA⟩ := hA
    obtain ⟨u196, hA⟩ := hA
    obtain ⟨u197, hA⟩ := hA
    obtain ⟨u198, hA⟩ := hA
    obtain ⟨u199, hA⟩ := hA
    obtain ⟨u200, hA⟩ := hA
    obtain ⟨u201, hA⟩ := hA
    obtain ⟨u202, hA⟩ := hA
    obtain ⟨u203, hA⟩ := hA
    obtain ⟨u204, hA⟩ := hA
    obtain ⟨u205, hA⟩ := hA
    obtain ⟨u206, hA⟩ := hA
    obtain ⟨u207, hA⟩ := hA
    obtain ⟨u208, hA⟩ := hA
    obtain ⟨u209, hA⟩ := hA
    obtain ⟨u210, hA⟩ := hA
    obtain ⟨u211, hA⟩ := hA
    obtain ⟨u212, hA⟩ := hA
    obtain ⟨u213, hA⟩ := hA
    obtain ⟨u214, hA⟩ := hA
    obtain ⟨u215, hA⟩ := hA
    obtain ⟨u216, hA⟩ := hA
    obtain ⟨u217, hA⟩ := hA
    obtain ⟨u218, hA⟩ := hA
    obtain ⟨u219, hA⟩ := hA
    obtain ⟨u220, hA⟩ := hA
    obtain ⟨u221, hA⟩ := hA
    obtain ⟨u222, hA⟩ := hA
    obtain ⟨u223, hA⟩ := hA
    obtain ⟨u224, hA⟩ := hA
    obtain ⟨u225, hA⟩ := hA
    obtain ⟨u226, hA⟩ := hA
    obtain ⟨u227, hA⟩ := hA
    obtain ⟨u228, hA⟩ := hA
    obtain ⟨u229, hA⟩ := hA
    obtain ⟨u230, hA⟩ := hA
    obtain ⟨u231, hA⟩ := hA
    obtain ⟨u232, hA⟩ := hA
    obtain ⟨u233, hA⟩ := hA
    obtain ⟨u234, hA⟩ := hA
    obtain ⟨u235, hA⟩ := hA
    obtain ⟨u236, hA⟩ := hA
    obtain ⟨u237, hA⟩ := hA
    obtain ⟨u238, hA⟩ := hA
    obtain ⟨u239, hA⟩ := hA
    obtain ⟨u240, hA⟩ := hA
    obtain ⟨u241, hA⟩ := hA
    obtain ⟨u242, hA⟩ := hA
    obtain ⟨u243, hA⟩ := hA
    obtain ⟨u244, hA⟩ := hA
    obtain ⟨u245, hA⟩ := hA
    obtain ⟨hE, rfl⟩ := hA
    obtain ⟨pc', M, rs, rfl, hK⟩ := hE
    have H : Hid (_) := hK
    have hG := hK.ok.good
    have hl := hG.s1
    have hl2 := hG.s2
    have hm4 := hK.ok.m4
    have hpc := hK.ok.pc
    obtain ⟨fb, fo, hfa, _⟩ := hK.st.own.at_.frame (j := 0) (by omega)
    obtain ⟨zb, zo, hea, _⟩ := hK.st.own.at_.enclave (j := m) (by omega)
    have HHA : Hid (M.ea = some ⟨zb, zo, none⟩) := hea
    obtain ⟨lg, HLG⟩ : ∃ lg, Hid ((M.ens.getD m default).log = lg) := ⟨_, rfl⟩
    have FE : Hid (∀ V, Below w9.heap.size w9 V -> (V.cell? ⟨bm, 0, none⟩ = some (.slice (some ⟨fb, fo, none⟩) 24 M.fcap) /\ V.cell? ⟨bm, 1, none⟩ = some (.slice (some ⟨zb, zo, none⟩) 4 M.ecap) /\ V.cell? ⟨bm, 2, none⟩ = some (.slice M.qa M.qus.length M.qcap)) /\ (V.cell? ⟨zb, zo + m * 7, none⟩ = some (.int .i64 (M.ens.getD m default).st) /\ V.cell? ⟨zb, zo + m * 7 + 1, none⟩ = some (.string lg) /\ V.cell? ⟨zb, zo + m * 7 + 2, none⟩ = some (.int .i64 (M.ens.getD m default).pc) /\ V.cell? ⟨zb, zo + m * 7 + 3, none⟩ = some (.int .i64 (M.ens.getD m default).g0) /\ V.cell? ⟨zb, zo + m * 7 + 4, none⟩ = some (.int .i64 (M.ens.getD m default).g1) /\ V.cell? ⟨zb, zo + m * 7 + 5, none⟩ = some (.int .i64 (M.ens.getD m default).g2) /\ V.cell? ⟨zb, zo + m * 7 + 6, none⟩ = some (.int .i64 (M.ens.getD m default).g3)) /\ (∀ o, V.frozen? ⟨zb, o, none⟩ = false) /\ (V.cell? ⟨X, 0, none⟩ = some (.slice none 0 0) /\ V.cell? ⟨X, 1, none⟩ = some (.slice none 0 0) /\ V.cell? ⟨X, 2, none⟩ = some (.slice none 0 0) /\ V.cell? ⟨Y, 0, none⟩ = some (.int .i64 0) /\ V.cell? ⟨Y, 1, none⟩ = some (.int .i64 0)) /\ (∀ o, V.frozen? ⟨X, o, none⟩ = false) /\ (∀ o, V.frozen? ⟨Y, o, none⟩ = false) /\ bm < V.heap.size /\ zb < V.heap.size /\ X < V.heap.size /\ Y < V.heap.size) := fun V hV => by
      have c := H.out.st.keep hV
      have k0 := c.c0
      rw [hfa, hl] at k0
      have k1 := c.c1
      rw [hea, hl2] at k1
      obtain ⟨zb', zo', hz', m0, m1, m2, m3, m4, m5, m6⟩ := c.own.at_.enclave (j := m) (by omega)
      rw [hea] at hz'
      simp only [Option.some.injEq, Addr.mk.injEq, and_true] at hz'
      obtain ⟨rfl, rfl⟩ := hz'
      rw [HLG.out] at m1
      obtain ⟨_, b2, b3⟩ := H.out.quiet hV
      have hx := b2.trans H.out.zx
      have hy := b3.trans H.out.zy
      exact ⟨⟨k0, k1, c.c2⟩, ⟨m0, m1, m2, m3, m4, m5, m6⟩, (c.own.ne _ _ _ hea).2.2, ⟨by simp [World.cell?, hx], by simp [World.cell?, hx], by simp [World.cell?, hx], by simp [World.cell?, hy], by simp [World.cell?, hy]⟩, frozen_of_block hx, frozen_of_block hy, c.lm, lt_of_cell m0, (Array.getElem?_eq_some_iff.1 hx).1, (Array.getElem?_eq_some_iff.1 hy).1⟩
    have HE0 : Hid ((.slice (some ⟨fb, fo, none⟩) 24 M.fcap : Value) = .slice M.fa M.frs.length M.fcap) := by show _ = _; rw [hfa, hl]
    have HE1 : Hid ((.slice (some ⟨zb, zo, none⟩) 4 M.ecap : Value) = .slice M.ea M.ens.length M.ecap) := by show _ = _; rw [hea, hl2]
    have HOKE : Hid (lg.size <= maxLen) := by have := (H.out.st.own.at_.enok m (by omega)).len; rw [HLG.out] at this; exact this
    have hwm : IntKind.i64.wrap ((m : Int) + 1 - 1) = (m : Int) := by rw [IntKind.wrap_i64]; omega
    have hwm2 : IntKind.i64.wrap (m : Int) = (m : Int) := by rw [IntKind.wrap_i64]; omega
    have hmm : (m : Int) < 4 := by omega
    have HS0 : Hid (R.Same ⟨M, pc', rs, 2, 0⟩) := hK.same
    obtain ⟨e0, he0⟩ : ∃ e, Hid (rs.getD 0 0 = e) := ⟨_, rfl⟩
    obtain ⟨e1, he1⟩ : ∃ e, Hid (rs.getD 1 0 = e) := ⟨_, rfl⟩
    obtain ⟨e2, he2⟩ : ∃ e, Hid (rs.getD 2 0 = e) := ⟨_, rfl⟩
    obtain ⟨e3, he3⟩ : ∃ e, Hid (rs.getD 3 0 = e) := ⟨_, rfl⟩
    have i0 := hK.st.cr 0 (by omega)
    have i1 := hK.st.cr 1 (by omega)
    have i2 := hK.st.cr 2 (by omega)
    have i3 := hK.st.cr 3 (by omega)
    rw [he0.out] at i0
    rw [he1.out] at i1
    rw [he2.out] at i2
    rw [he3.out] at i3
    have HWE : Hid ((Lit.int .i64 pc').wf = true /\ (Lit.int .i64 e0).wf = true /\ (Lit.int .i64 e1).wf = true /\ (Lit.int .i64 e2).wf = true /\ (Lit.int .i64 e3).wf = true) := by
      have a0 := hK.ok.rs 0
      have a1 := hK.ok.rs 1
      have a2 := hK.ok.rs 2
      have a3 := hK.ok.rs 3
      rw [he0.out] at a0
      rw [he1.out] at a1
      rw [he2.out] at a2
      rw [he3.out] at a3
      exact ⟨WalkArith.wf_i64 (by omega), WalkArith.wf_i64 (by omega), WalkArith.wf_i64 (by omega), WalkArith.wf_i64 (by omega), WalkArith.wf_i64 (by omega)⟩
    have hbrz : br ≠ zb := fun q => hK.st.offr (q ▸ .inr (.inl ⟨zo, none, hea⟩))
    have lr := hK.st.lr
    clear hK hG hl hl2 hfa hea
    have xzb : X ≠ zb := by have := (Mine.fresh H.out.st.own (.inr (.inl ⟨zo, none, HHA.out⟩))).1; have := H.out.lx; omega
    have yzb : Y ≠ zb := by have := (Mine.fresh H.out.st.own (.inr (.inl ⟨zo, none, HHA.out⟩))).1; have := H.out.ly; omega
    have hxy : X ≠ Y := H.out.ne
    have hbmX : bm ≠ X := by have := H.out.gm; have := H.out.lx; omega
    have hbmY : bm ≠ Y := by have := H.out.gm; have := H.out.ly; omega
    have hbmz : bm ≠ zb := fun q => H.out.st.offm (q ▸ .inr (.inl ⟨zo, none, HHA.out⟩))
    obtain ⟨⟨y0, y1, y2⟩, ⟨n0_, n1_, n2_, n3_, n4_, n5_, n6_⟩, nf, ⟨x0, x1, x2, v0, v1⟩, xf, yf, lm, lz, lX, lY⟩ := FE.out w9 (Below.refl _ _)
    have nf0 := nf (zo + m * 7)
    have nf1 := nf (zo + m * 7 + 1)
    have nf2 := nf (zo + m * 7 + 2)
    have nf3 := nf (zo + m * 7 + 3)
    have nf4 := nf (zo + m * 7 + 4)
    have nf5 := nf (zo + m * 7 + 5)
    have nf6 := nf (zo + m * 7 + 6)
    have xf0 := xf 0
    have xf1 := xf 1
    have xf2 := xf 2
    have yf0 := yf 0
    have yf1 := yf 1
    clear nf xf yf
    go_upto_region 51 with fail
    go_region_held3 (fun w' => w'.cell? ⟨bm, 1, none⟩ = some (.slice (some ⟨zb, zo, none⟩) 4 M.ecap) /\ w'.cell? ⟨zb, zo + m * 7 + 1, none⟩ = some (.string lg) /\ w'.cell? ⟨br, 0, none⟩ = some (.int .i64 e0) /\ w'.cell? ⟨br, 1, none⟩ = some (.int .i64 e1) /\ w'.cell? ⟨br, 2, none⟩ = some (.int .i64 e2) /\ w'.cell? ⟨br, 3, none⟩ = some (.int .i64 e3)) (first | (with_reducible exact ⟨(drew_cell _ _).trans y1, (drew_cell _ _).trans n1_, (drew_cell _ _).trans i0, (drew_cell _ _).trans i1, (drew_cell _ _).trans i2, (drew_cell _ _).trans i3⟩) | (with_reducible exact ⟨(seven_both hbmz y1 n1_).1, (seven_both hbmz y1 n1_).2, (drew_cell _ _).trans (seven_cell hbrz i0), (drew_cell _ _).trans (seven_cell hbrz i1), (drew_cell _ _).trans (seven_cell hbrz i2), (drew_cell _ _).trans (seven_cell hbrz i3)⟩) | go_keep) (fail)
    obtain ⟨V8, hV8⟩ : ∃ V8, Hid (V8 = (((((((w9.setCell ⟨zb, zo + m * 7, none⟩ (.int .i64 3)).setCell ⟨zb, zo + m * 7 + 1, none⟩ (.string lg)).setCell ⟨zb, zo + m * 7 + 2, none⟩ (.int .i64 pc')).setCell ⟨zb, zo + m * 7 + 3, none⟩ (.int .i64 e0)).setCell ⟨zb, zo + m * 7 + 4, none⟩ (.int .i64 e1)).setCell ⟨zb, zo + m * 7 + 5, none⟩ (.int .i64 e2)).setCell ⟨zb, zo + m * 7 + 6, none⟩ (.int .i64 e3)).drew) := ⟨_, rfl⟩
    rw [<- hV8.out]
    have K8 : Hid (∀ c, c ≠ zb -> V8.heap[c]? = w9.heap[c]?) := fun c hc => after7 hV8.out c hc
    have kb := K8.out bm hbmz
    have kx := K8.out X xzb
    have ky := K8.out Y yzb
    replace y0 := (World.cell?_of_block kb).trans y0
    replace y1 := (World.cell?_of_block kb).trans y1
    replace y2 := (World.cell?_of_block kb).trans y2
    replace x0 := (World.cell?_of_block kx).trans x0
    replace x1 := (World.cell?_of_block kx).trans x1
    replace x2 := (World.cell?_of_block kx).trans x2
    replace v0 := (World.cell?_of_block ky).trans v0
    replace v1 := (World.cell?_of_block ky).trans v1
    replace xf0 := (World.frozen?_of_block kx).trans xf0
    replace xf1 := (World.frozen?_of_block kx).trans xf1
    replace xf2 := (World.frozen?_of_block kx).trans xf2
    replace yf0 := (World.frozen?_of_block ky).trans yf0
    replace yf1 := (World.frozen?_of_block ky).trans yf1
    have lb8 : bm < V8.heap.size := lt_of_cell y0
    have lx8 : X < V8.heap.size := lt_of_cell x0
    have ly8 : Y < V8.heap.size := lt_of_cell v0
    clear kb kx ky K8 n0_ n1_ n2_ n3_ n4_ n5_ n6_ nf0 nf1 nf2 nf3 nf4 nf5 nf6 lm lz lX lY i0 i1 i2 i3 lr
    go_wp2
    refine bp_genR fun V9 hV9 => ?_
    have hOut := ran_last (d := 2) (v := 0) H.out (Below.refl _ _) HS0.out rfl HHA.out (E' := ⟨3, lg, pc', e0, e1, e2, e3⟩) (by rw [<- left_held (M := M) (m := m) (pc := pc') (rs := rs) HLG.out, he0.out, he1.out, he2.out, he3.out]) ⟨(show (Lit.int .i64 (3 : Int)).wf = true by decide), HOKE.out, HWE.out.1, HWE.out.2.1, HWE.out.2.2.1, HWE.out.2.2.2.1, HWE.out.2.2.2.2⟩ rfl rfl HE0.out HE1.out rfl hV8.out hV9 (.int .i64 0) (.int .i64 0)
    obtain ⟨N, g0, g1, g2, g3, g4, hN, hO9, hb9⟩ := hOut
    clear hV9 hV8
    (try simp only [Exit.inBlock, Exit.then])
    refine bodyPost_ret (by simp [results, Tryz.results111, go_sem, g0, g1, g2, g3, g4]; try rfl) rfl ?_
    exact ⟨N, rfl, hN, hO9, hb9⟩
end Go.Proofs.YtdngbojbpmdegaaGreatDoor
