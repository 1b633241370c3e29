/-
  What the call MachineCopy (riddleref) answers for every machine: one that holds the same, in memory of its own; nothing that was in memory turns. The condition: the lists are within the reach of the form (fewer than 2^47 bytes).
-/
import Derived.Test.YtdbbiibnhgcndaaDoorMInv
import Derived.Handy
import Derived.Outline
import Derived.Deep.CutRange
namespace Go.Proofs.YtdbbiibnhgcndaaDoor
open Go.RowKit

set_option maxRecDepth 100000 in
set_option maxHeartbeats 4000000 in
theorem mcopy_own (M : Mv) (w : World) (hM : MachAt w M) (hF : M.Fits) :
    Calls Tryd.prog 24 #[M.val] w fun e w' => ∃ N : Mv, e = .returned N.val ∧ N.Same M ∧ Owned w.heap.size w' N ∧ Below w.heap.size w w' ∧ QRow w.heap.size w' N := by
  have hl1 := hM.frl
  have hl2 := hM.enl
  have hl3 := hM.qul
  unfold maxLen at hl1 hl2 hl3
  obtain ⟨iE, hiE, hzE⟩ := Option.map_eq_some_iff.1 info_e
  simp only [Prod.mk.injEq] at hzE
  obtain ⟨zE, sE, bE⟩ := hzE
  obtain ⟨iQ, hiQ, hzQ⟩ := Option.map_eq_some_iff.1 info_q
  simp only [Prod.mk.injEq] at hzQ
  obtain ⟨zQ, sQ, bQ⟩ := hzQ
  have IE : Hid (_) := hiE
  have ZE : Hid (_) := zE
  have SE : Hid (_) := sE
  have YE : Hid (_) := bE
  have IQ : Hid (_) := hiQ
  have ZQ : Hid (_) := zQ
  have SQ : Hid (_) := sQ
  have YQ : Hid (_) := bQ
  clear hiE zE sE bE hiQ zQ sQ bQ
  obtain ⟨fa, frs, fcap, ea, ens, ecap, qa, qus, qcap⟩ := M
  unfold Mv.val
  have HFE : Hid (_) := hF.en
  have HFQ : Hid (_) := hF.qu
  dsimp only at *
  obtain ⟨W2, hW2⟩ : ∃ W2, Hid (W2 = (w.alloc (.cells #[.slice fa frs.length fcap, .slice ea ens.length ecap, .slice qa qus.length qcap] 51)).alloc (.cells #[.slice none 0 0, .slice none 0 0, .slice none 0 0] 51)) := ⟨_, rfl⟩
  have BW : Hid (Below w.heap.size w W2) := by show Below _ _ _; rw [hW2.out]; exact ((Below.refl _ _).alloc (Nat.le_refl _) _).alloc (by simp) _
  have hM2 := hM.below BW.out
  have p0 : W2.cell? ⟨w.heap.size, 0, none⟩ = some (.slice fa frs.length fcap) := by rw [hW2.out, World.cell?_alloc_past _ _ _ (by simp), World.cell?_alloc_at _ _ _ _ rfl]; rfl
  have p1 : W2.cell? ⟨w.heap.size, 1, none⟩ = some (.slice ea ens.length ecap) := by rw [hW2.out, World.cell?_alloc_past _ _ _ (by simp), World.cell?_alloc_at _ _ _ _ rfl]; rfl
  have p2 : W2.cell? ⟨w.heap.size, 2, none⟩ = some (.slice qa qus.length qcap) := by rw [hW2.out, World.cell?_alloc_past _ _ _ (by simp), World.cell?_alloc_at _ _ _ _ rfl]; rfl
  have RE : Hid (RowsAt W2 7 En.cells ea ens) := hM2.en
  have RQ : Hid (RowsAt W2 2 Qu.cells qa qus) := hM2.qu
  have s2 : w.heap.size < W2.heap.size := lt_of_cell p0
  have s3 : w.heap.size < W2.heap.size + 1 := by omega
  have s4 : w.heap.size < W2.heap.size + 1 + 1 := by omega
  have s5 : w.heap.size < W2.heap.size + 1 + 1 + 1 := by omega
  go_enter Tryd.func24, Tryd.ntmps24
  go_upto_region 1 with fail
  rw [← hW2.out]
  go_cut [3, 8, 11] from 6 (fun u3 u8 u11 wx => ∃ B ea' ecap' qa' qcap', u3 = .pointer (some ⟨B, 0, none⟩) ∧ u8 = .slice ea' ens.length ecap' ∧ u11 = .slice qa' qus.length qcap' ∧ MMade W2 wx ens qus B ea' ecap' qa' qcap')
  case first =>
    clear hM hM2 hF
    by_cases he : ens = []
    · subst he
      by_cases hq : qus = []
      · subst hq
        simp only [List.length_nil] at *
        go_region_law (first
          | (refine step_append_none rfl (.tmp 7) 48 rfl 77 iE Tryd.underlying48 IE.out ea ecap (by simp [Act.eval]) ?_)
          | (refine step_append_none rfl (.tmp 10) 49 rfl 81 iQ Tryd.underlying49 IQ.out qa qcap (by simp [Act.eval]) ?_)
          | fail)
        all_goals
          go_wp2_with fail
          go_meet
          case rel => exact ⟨_, _, _, _, _, rfl, rfl, rfl, ⟨by omega, a11 _ _, row_none, row_none, none_ne, none_ne, off_none, by repeat (first | exact a1B _ _ | refine Below.drew ?_), .inl ⟨rfl, rfl⟩⟩⟩
      · simp only [List.length_nil] at *
        go_region_law (first
          | (refine step_append_none rfl (.tmp 7) 48 rfl 77 iE Tryd.underlying48 IE.out ea ecap (by simp [Act.eval]) ?_)
          | (refine step_append_new (cells := Qu.cells) (c := 2) (fun _ => rfl) (by omega) rfl (.tmp 10) 49 rfl 81 iQ _ 24 Tryd.underlying49 IQ.out ZQ.out SQ.out YQ.out qa qcap qus (by simp [Act.eval]) W2 RQ.out (by repeat (first | exact Below.refl _ _ | refine Below.drew ?_ | refine Below.alloc ?_ (by simp) _ | refine Below.alloc ?_ (by simp; omega) _)) hq (by omega) HFQ.out rfl qu_one (by first | assumption | (unfold maxLen; omega)) ?_; intro capQ zsQ hcQ)
          | fail)
        all_goals
          go_wp2_with fail
          go_meet
          case rel => exact ⟨_, _, _, _, _, rfl, rfl, rfl, ⟨by omega, by first | exact a22 _ _ _ | exact a21 _ _ _, row_none, by first | exact row_in (by omega) (a22 _ _ _) | exact row_in (by omega) (a21 _ _ _), none_ne, some_ne (by omega), off_none, by repeat (first | exact a2B _ _ _ | refine Below.drew ?_), by first | exact qcap_in (a22 _ _ _) hcQ | exact qcap_in (a21 _ _ _) hcQ⟩⟩
    · by_cases hq : qus = []
      · subst hq
        simp only [List.length_nil] at *
        go_region_law (first
          | (refine step_append_new (cells := En.cells) (c := 7) (fun _ => rfl) (by omega) rfl (.tmp 7) 48 rfl 77 iE _ 64 Tryd.underlying48 IE.out ZE.out SE.out YE.out ea ecap ens (by simp [Act.eval]) W2 RE.out (by repeat (first | exact Below.refl _ _ | refine Below.drew ?_ | refine Below.alloc ?_ (by simp) _ | refine Below.alloc ?_ (by simp; omega) _)) he (by omega) HFE.out rfl en_one (by first | assumption | (unfold maxLen; omega)) ?_; intro capE zsE hcE)
          | (refine step_append_none rfl (.tmp 10) 49 rfl 81 iQ Tryd.underlying49 IQ.out qa qcap (by simp [Act.eval]) ?_)
          | fail)
        all_goals
          go_wp2_with fail
          go_meet
          case rel => exact ⟨_, _, _, _, _, rfl, rfl, rfl, ⟨by omega, by first | exact a22 _ _ _ | exact a21 _ _ _, by first | exact row_in (by omega) (a22 _ _ _) | exact row_in (by omega) (a21 _ _ _), row_none, some_ne (by omega), none_ne, none_off, by repeat (first | exact a2B _ _ _ | refine Below.drew ?_), .inl ⟨rfl, rfl⟩⟩⟩
      · go_region_law (first
          | (refine step_append_new (cells := En.cells) (c := 7) (fun _ => rfl) (by omega) rfl (.tmp 7) 48 rfl 77 iE _ 64 Tryd.underlying48 IE.out ZE.out SE.out YE.out ea ecap ens (by simp [Act.eval]) W2 RE.out (by repeat (first | exact Below.refl _ _ | refine Below.drew ?_ | refine Below.alloc ?_ (by simp) _ | refine Below.alloc ?_ (by simp; omega) _)) he (by omega) HFE.out rfl en_one (by first | assumption | (unfold maxLen; omega)) ?_; intro capE zsE hcE)
          | (refine step_append_new (cells := Qu.cells) (c := 2) (fun _ => rfl) (by omega) rfl (.tmp 10) 49 rfl 81 iQ _ 24 Tryd.underlying49 IQ.out ZQ.out SQ.out YQ.out qa qcap qus (by simp [Act.eval]) W2 RQ.out (by repeat (first | exact Below.refl _ _ | refine Below.drew ?_ | refine Below.alloc ?_ (by simp) _ | refine Below.alloc ?_ (by simp; omega) _)) hq (by omega) HFQ.out rfl qu_one (by first | assumption | (unfold maxLen; omega)) ?_; intro capQ zsQ hcQ)
          | fail)
        all_goals
          go_wp2_with fail
          go_meet
          case rel =>
            exact ⟨_, _, _, _, _, rfl, rfl, rfl, ⟨by omega, by first | exact a33 _ _ _ _ | exact a32 _ _ _ _ | exact a31 _ _ _ _, by first | exact row_in (by omega) (a33 _ _ _ _) | exact row_in (by omega) (a32 _ _ _ _) | exact row_in (by omega) (a31 _ _ _ _), by first | exact row_in (by omega) (a33 _ _ _ _) | exact row_in (by omega) (a32 _ _ _ _) | exact row_in (by omega) (a31 _ _ _ _), some_ne (by omega), some_ne (by omega), off_some (by omega), by repeat (first | exact a3B _ _ _ _ | refine Below.drew ?_), by first | exact qcap_in (a33 _ _ _ _) hcQ | exact qcap_in (a32 _ _ _ _) hcQ | exact qcap_in (a31 _ _ _ _) hcQ⟩⟩
  case rest =>
    obtain ⟨B, ea', ecap', qa', qcap', rfl, rfl, rfl, hm⟩ := hcut
    have S2 : Hid (w.heap.size < W2.heap.size) := s2
    have P0 : Hid (W2.cell? ⟨w.heap.size, 0, none⟩ = some (.slice fa frs.length fcap)) := p0
    have R2 : Hid (W2.cell? ⟨w.heap.size + 1, 0, none⟩ = some (.slice none 0 0) ∧ W2.cell? ⟨w.heap.size + 1, 1, none⟩ = some (.slice none 0 0) ∧ W2.cell? ⟨w.heap.size + 1, 2, none⟩ = some (.slice none 0 0) ∧ ∀ o, W2.frozen? ⟨w.heap.size + 1, o, none⟩ = false) := by
      show _ ∧ _ ∧ _ ∧ _
      rw [hW2.out, World.cell?_alloc_at _ _ _ _ (by simp), World.cell?_alloc_at _ _ _ _ (by simp), World.cell?_alloc_at _ _ _ _ (by simp)]
      exact ⟨rfl, rfl, rfl, fun o => World.frozen?_alloc_at _ _ _ _ (by simp)⟩
    have st : Hid (∃ va vcap qs, MInv W2 wc frs ens qus B ea' ecap' qa' qcap' 0 va vcap qs) :=
      ⟨none, 0, fun _ => default, ⟨hm.bel, hm.lB, hm.hB, hm.hE, hm.hQ, World.ownsRow_nil _ _ _ _, hm.EB, hm.QB, none_ne, hm.EQ, off_none, off_none, fun j hj => absurd hj (by omega), fun j hj => absurd hj (by omega), fun j hj => absurd hj (by omega), fun j hj => absurd hj (by omega), fun j hj => absurd hj (by omega), fun j hj => absurd hj (by omega), fun i j hi => absurd hi (by omega), hm.QC⟩⟩
    have HFF : Hid (frs.length * 48 ≤ 140737488351232) := hF.fr
    have HFW : Hid (∀ j, j < frs.length → (frs.getD j default).ws.length * 8 ≤ 140737488351232) := hF.ws
    have HM2 : Hid (_) := hM2
    clear hm hM hM2 hF p0 p1 p2 s2 s3 s4 s5 RE RQ IE ZE SE YE IQ ZQ SQ YQ HFE HFQ
    go_wp2
    go_loopw [4] (fun i wr => ∃ k : Nat, k ≤ frs.length ∧ i = .int .i64 k ∧ Hid (∃ va vcap qs, MInv W2 wr frs ens qus B ea' ecap' qa' qcap' k va vcap qs)) (fun i _ => frs.length - (intOf i).toNat)
    case atStart => exact ⟨0, Nat.zero_le _, rfl, st⟩
    case round =>
      obtain ⟨k, hk, rfl, hI⟩ := hrel
      clear st
      obtain ⟨va, vcap, qs, hC⟩ := hI.out
      have HC : Hid (_) := hC
      have z0 : wr.cell? ⟨w.heap.size, 0, none⟩ = some (.slice fa frs.length fcap) := (hC.bel.cell (p := ⟨w.heap.size, 0, none⟩) S2.out).trans P0.out
      clear hI
      by_cases hlt : k < frs.length
      · have hMr := HM2.out.below hC.bel
        obtain ⟨fb, fo, hfa, c0, c1, c2, c3⟩ := hMr.frame (j := k) hlt
        have hok := hMr.frok k hlt
        have hww := HFW.out k hlt
        have hff := HFF.out
        dsimp only at hfa c0 c1 c2 c3 hok hww
        subst hfa
        obtain ⟨P, hP⟩ : ∃ P, Hid (P = frs.getD k default) := ⟨_, rfl⟩
        rw [← hP.out] at c0 c1 c2 c3 hok hww
        obtain ⟨o, fat, r, pa, ws, pcap⟩ := P
        dsimp only at c0 c1 c2 c3 hww
        have b0 : fb < wr.heap.size := lt_of_cell c0
        have b1 : w.heap.size < wr.heap.size := lt_of_cell z0
        obtain ⟨a6, c6, w6, hr6, hw6, hb6⟩ := append_words (wr.alloc (.cells #[.int .i64 o, .int .i64 fat, .int .i64 r, .slice pa ws.length pcap] 73)) 28 pa pcap ws (hok.ints.below ((Below.refl _ _).alloc (Nat.le_refl _) _)) hok.len hww
        have HB6 : Hid (_) := hb6
        have HW6 : Hid (_) := hw6
        have n6 : wr.heap.size + 1 ≤ w6.heap.size := by have := hb6.size; simpa using this
        have f0 : w6.cell? ⟨wr.heap.size, 0, none⟩ = some (.int .i64 o) := (hb6.cell (p := ⟨wr.heap.size, 0, none⟩) (by simp)).trans (by rw [World.cell?_alloc_at _ _ _ _ rfl]; rfl)
        have f1 : w6.cell? ⟨wr.heap.size, 1, none⟩ = some (.int .i64 fat) := (hb6.cell (p := ⟨wr.heap.size, 1, none⟩) (by simp)).trans (by rw [World.cell?_alloc_at _ _ _ _ rfl]; rfl)
        have f2 : w6.cell? ⟨wr.heap.size, 2, none⟩ = some (.int .i64 r) := (hb6.cell (p := ⟨wr.heap.size, 2, none⟩) (by simp)).trans (by rw [World.cell?_alloc_at _ _ _ _ rfl]; rfl)
        have f3 : w6.cell? ⟨wr.heap.size, 3, none⟩ = some (.slice pa ws.length pcap) := (hb6.cell (p := ⟨wr.heap.size, 3, none⟩) (by simp)).trans (by rw [World.cell?_alloc_at _ _ _ _ rfl]; rfl)
        have ff : w6.frozen? ⟨wr.heap.size, 3, none⟩ = false := (hb6.frozen (p := ⟨wr.heap.size, 3, none⟩) (by simp)).trans (World.frozen?_alloc_at _ _ _ _ rfl)
        have lB : B < wr.heap.size := (Array.getElem?_eq_some_iff.1 hC.hB).1
        have o0 : wr.cell? ⟨B, 0, none⟩ = some (.slice va k vcap) := by simp [World.cell?, hC.hB]
        have g6 : Hid (∀ b, b < wr.heap.size → w6.heap[b]? = wr.heap[b]?) := fun b hb => by rw [hb6.block b (by simp; omega), Below.heap_alloc _ _ _ hb]
        have o6 : w6.cell? ⟨B, 0, none⟩ = some (.slice va k vcap) := (World.cell?_of_block (g6.out B lB)).trans o0
        have hBr : B ≠ wr.heap.size := by omega
        obtain ⟨W7, hW7⟩ : ∃ W7, Hid (W7 = (w6.setCell ⟨wr.heap.size, 3, none⟩ (.slice a6 ws.length c6)).alloc (.cells #[.int .i64 o, .int .i64 fat, .int .i64 r, .slice a6 ws.length c6] 73)) := ⟨_, rfl⟩
        have g7 : Hid (∀ b, b < w6.heap.size → b ≠ wr.heap.size → W7.heap[b]? = w6.heap[b]?) := fun b hb hn => by rw [hW7.out, Below.heap_alloc _ _ _ (by simp [World.setCell]; exact hb), Below.heap_setCell _ _ _ _ hn]
        have n7 : Hid (W7.heap.size = w6.heap.size + 1) := by show _ = _; rw [hW7.out]; simp [World.setCell]
        have own7 : Hid (W7.ownsRow W2.heap.size 73 4 (.slice va k vcap) k (((List.range k).map qs).flatMap Fr.cells)) := by
          show World.ownsRow _ _ _ _ _ _ _
          refine ⟨hC.own.1, ?_⟩
          rcases hC.own.2 with q | ⟨g, cap, cur, h1, h2, h3, h4⟩
          · exact .inl q
          · have lg := (Array.getElem?_eq_some_iff.1 h3).1
            exact .inr ⟨g, cap, cur, h1, h2, ((g7.out g (by omega) (by omega)).trans (g6.out g lg)).trans h3, h4⟩
        obtain ⟨iF, hiF, hzF⟩ := Option.map_eq_some_iff.1 info_f
        simp only [Prod.mk.injEq] at hzF
        have hlk := hl1
        obtain ⟨g, cap', w8, hr8, own8, grow8, lies8, lt8⟩ := run_append_lies (P := Tryd.prog) W7 47 47 W2.heap.size 73 iF _ 4 48 Tryd.underlying47 hiF hzF.1 hzF.2.1 hzF.2.2 rfl (by omega) (.slice va k vcap) k _ own7.out ⟨w6.heap.size, 0, none⟩ 1 1 (Fr.cells ⟨o, fat, r, a6, ws, c6⟩) rfl
          (fun j u hu => by
            have hj : j < 4 := (List.getElem?_eq_some_iff.1 hu).1
            rw [add_at, hW7.out, World.cell?_alloc_at _ _ _ _ (by simp [World.setCell])]
            match j, hj with
            | 0, _ => exact hu
            | 1, _ => exact hu
            | 2, _ => exact hu
            | 3, _ => exact hu)
          (fun u hu => by simp [Fr.cells] at hu; rcases hu with rfl | rfl | rfl | rfl <;> rfl) (by omega) (by unfold maxLen; omega) (by omega) (by have := hC.bel.size; have := n7.out; omega) (w6.heap.size + 1) n7.out
        have vb : ∀ b, (Value.slice va k vcap).ownBlock = some b → ∃ o s, va = some ⟨b, o, s⟩ := fun b hb => by
          cases va with
          | none => simp [Value.ownBlock] at hb
          | some x =>
            obtain ⟨xb, xo, xs⟩ := x
            simp only [Value.ownBlock, Option.some.injEq] at hb
            exact ⟨xo, xs, by rw [← hb]⟩
        have lV := ownsRow_addr hC.own
        have h8 : Hid (∀ b, b < w6.heap.size → b ≠ wr.heap.size → (∀ o s, va ≠ some ⟨b, o, s⟩) → w8.heap[b]? = w6.heap[b]?) := fun b hb hn hv => by
          rw [grow8.block b (by rw [n7.out]; omega) (fun e => by obtain ⟨o', s', e'⟩ := vb b e.symm; exact hv o' s' e'), g7.out b hb hn]
        have hB8 : Hid (w8.heap[B]? = some (.cells #[.slice va k vcap, .slice ea' ens.length ecap', .slice qa' qus.length qcap'] 51 (0, 0))) := ((h8.out B (by omega) hBr (fun o s e => hC.FB B o s e rfl)).trans (g6.out B lB)).trans hC.hB
        have o8 : w8.cell? ⟨B, 0, none⟩ = some (.slice va k vcap) := by simp [World.cell?, hB8.out]
        have of8 : w8.frozen? ⟨B, 0, none⟩ = false := frozen_of_block hB8.out 0
        obtain ⟨W9, hW9⟩ : ∃ W9, Hid (W9 = w8.setCell ⟨B, 0, none⟩ (.slice (some ⟨g, 0, none⟩) (k + 1) cap')) := ⟨_, rfl⟩
        have h9 : ∀ b, b ≠ B → W9.heap[b]? = w8.heap[b]? := fun b hb => by rw [hW9.out, Below.heap_setCell _ _ _ _ hb]
        have lg := lies8
        have gB : g ≠ B := by
          rcases lies8 with e | e
          · obtain ⟨o', s', e'⟩ := vb g e; exact hC.FB g o' s' e'
          · omega
        have R9 : Hid (∃ va vcap qs, MInv W2 W9 frs ens qus B ea' ecap' qa' qcap' (k + 1) va vcap qs) := by
          have sz := hC.bel.size
          have bel6 : Below W2.heap.size W2 w6 := (hC.bel.alloc (by omega) _).trans (hb6.mono (by simp; omega))
          have bel7 : Below W2.heap.size W2 W7 := by rw [hW7.out]; exact (bel6.setCell (by simp; omega) _).alloc (by have := bel6.size; simp [World.setCell]; omega) _
          have bel8 : Below W2.heap.size W2 w8 := bel7.trans ⟨grow8.os, grow8.tape, grow8.output, grow8.size, fun b hb => grow8.block b (by have := bel7.size; omega) (fun e => by obtain ⟨o', s', e'⟩ := vb b e.symm; have := (lV b o' s' e').1; omega)⟩
          have bel9 : Below W2.heap.size W2 W9 := by rw [hW9.out]; exact bel8.setCell hC.lB _
          have hw6' : RowIn w6 wr.heap.size 3 a6 (wvals ws) := by
            rcases hw6 with q | ⟨x, zs, x1, x2, x3⟩
            · exact .inl q
            · exact .inr ⟨x, zs, x1, by simp at x2; omega, x3⟩
          have hw6l : ∀ b o s, a6 = some ⟨b, o, s⟩ → wr.heap.size + 1 ≤ b ∧ b < w6.heap.size := fun b o s e => by have := hw6.lt b o s e; simpa using this
          obtain ⟨qs', hq⟩ := minv_step hC hP.out (w9 := W9) (a6 := a6) (c6 := c6) (va' := some ⟨g, 0, none⟩) (vcap' := cap') bel9 (by rw [hW9.out]; simp [World.setCell, Array.getElem?_modify, hB8.out])
            (by
              refine ⟨own8.1, ?_⟩
              rcases own8.2 with ⟨q, _⟩ | ⟨x, cap, cur, x1, x2, x3, x4⟩
              · simp at q
              · refine .inr ⟨x, cap, cur, x1, x2, ?_, x4⟩
                simp only [Value.slice.injEq, Option.some.injEq, Addr.mk.injEq] at x1
                rw [← x1.1.1] at x3 ⊢
                exact (h9 g gB).trans x3)
            (fun b hb hn hv => ((h9 b hn).trans (h8.out b (by omega) (by omega) hv)).trans (g6.out b hb))
            (hw6'.keep fun b o s e hl => by
              have := hw6l b o s e
              exact (h9 b (by omega)).trans (h8.out b (by omega) (by omega) (fun o' s' e' => by have := (lV b o' s' e').2; omega)))
            (fun b o' s' e => by
              simp only [Option.some.injEq, Addr.mk.injEq] at e
              obtain ⟨rfl, _⟩ := e
              rcases lies8 with q | q
              · exact .inl (vb g q)
              · exact .inr ⟨by omega, fun o2 s2 e2 => by have := (hw6l g o2 s2 e2).2; omega⟩)
          exact ⟨_, _, qs', hq⟩
        rw [hW7.out] at hr8
        have HR6 : Hid (_) := hr6
        have HR8 : Hid (_) := hr8
        clear hr6 hr8 HC hC hMr hok hw6 hb6 HB6 HW6 g6 g7 n7 own7 own8 grow8 lies8 lg h8 h9 hB8 vb lV hiF hzF hW7 o0 gB
        go_wp2_with (first
          | (at_builtin; refine wpList_append_eq rfl (.const (.slice none 0 0)) (.tmp 26) 28 rfl _ _ _ rfl rfl HR6.out ?_)
          | (at_builtin; refine wpList_append_eq rfl (.tmp 30) (.tmp 32) 47 rfl _ _ _ rfl rfl HR8.out ?_)
          | fail)
        rw [← hW9.out]
        go_roundw
        case rel => exact ⟨k + 1, by omega, by go_num, R9⟩
        case measure => simp [intOf]; omega
      · have hge : ¬ ((k : Int) < (frs.length : Int)) := by omega
        have hkn : k = frs.length := by omega
        obtain ⟨N, hN1, hN2, hN3, hN4⟩ := minv_end (M := ⟨fa, frs, fcap, ea, ens, ecap, qa, qus, qcap⟩) HM2.out.good (by dsimp only; rw [← hkn]; exact HC.out)
        dsimp only at hN1
        rw [← hkn] at hN1
        have HN : Hid (N.val = .agg #[.slice va k vcap, .slice ea' ens.length ecap', .slice qa' qus.length qcap'] ∧ N.Same ⟨fa, frs, fcap, ea, ens, ecap, qa, qus, qcap⟩ ∧ Owned W2.heap.size wr N ∧ QRow W2.heap.size wr N) := ⟨hN1, hN2, hN3, hN4⟩
        obtain ⟨u0, u1, u2, uf⟩ := R2.out
        have hb := hC.bel
        have sz : w.heap.size + 1 < W2.heap.size := lt_of_cell u0
        have v0 : wr.cell? ⟨w.heap.size + 1, 0, none⟩ = some (.slice none 0 0) := (hb.cell (p := ⟨w.heap.size + 1, 0, none⟩) sz).trans u0
        have v1 : wr.cell? ⟨w.heap.size + 1, 1, none⟩ = some (.slice none 0 0) := (hb.cell (p := ⟨w.heap.size + 1, 1, none⟩) sz).trans u1
        have v2 : wr.cell? ⟨w.heap.size + 1, 2, none⟩ = some (.slice none 0 0) := (hb.cell (p := ⟨w.heap.size + 1, 2, none⟩) sz).trans u2
        have vf : ∀ o, wr.frozen? ⟨w.heap.size + 1, o, none⟩ = false := fun o => (hb.frozen (p := ⟨w.heap.size + 1, o, none⟩) sz).trans (uf o)
        have vf0 := vf 0
        have vf1 := vf 1
        have vf2 := vf 2
        have x0 : wr.cell? ⟨B, 0, none⟩ = some (.slice va k vcap) := by simp [World.cell?, hC.hB]
        have x1 : wr.cell? ⟨B, 1, none⟩ = some (.slice ea' ens.length ecap') := by simp [World.cell?, hC.hB]
        have x2 : wr.cell? ⟨B, 2, none⟩ = some (.slice qa' qus.length qcap') := by simp [World.cell?, hC.hB]
        have HB : Hid (Below W2.heap.size W2 wr) := hb
        obtain ⟨W9, hW9⟩ : ∃ W9, Hid (W9 = ((wr.setCell ⟨w.heap.size + 1, 0, none⟩ (.slice va k vcap)).setCell ⟨w.heap.size + 1, 1, none⟩ (.slice ea' ens.length ecap')).setCell ⟨w.heap.size + 1, 2, none⟩ (.slice qa' qus.length qcap')) := ⟨_, rfl⟩
        have k0 : W9.cell? ⟨w.heap.size + 1, 0, none⟩ = some (.slice va k vcap) := by
          rw [hW9.out, World.cell?_setCell_other _ _ _ _ (by simp), World.cell?_setCell_other _ _ _ _ (by simp)]
          exact World.cell?_setCell_same _ _ _ v0
        have k1 : W9.cell? ⟨w.heap.size + 1, 1, none⟩ = some (.slice ea' ens.length ecap') := by
          rw [hW9.out, World.cell?_setCell_other _ _ _ _ (by simp)]
          exact World.cell?_setCell_same _ _ _ ((World.cell?_setCell_other _ _ _ _ (by simp)).trans v1)
        have k2 : W9.cell? ⟨w.heap.size + 1, 2, none⟩ = some (.slice qa' qus.length qcap') := by
          rw [hW9.out]
          exact World.cell?_setCell_same _ _ _ ((World.cell?_setCell_other _ _ _ _ (by simp)).trans ((World.cell?_setCell_other _ _ _ _ (by simp)).trans v2))
        have HO : Hid (Owned w.heap.size W9 N) := by
          show Owned _ _ _
          refine (HN.out.2.2.1.keep (fun b hb _ => ?_) (by rw [hW9.out]; simp [World.setCell])).mono (by omega)
          rw [hW9.out, Below.heap_setCell _ _ _ _ (by simp; omega), Below.heap_setCell _ _ _ _ (by simp; omega), Below.heap_setCell _ _ _ _ (by simp; omega)]
        have HQ : Hid (QRow w.heap.size W9 N) := by
          show QRow _ _ _
          refine (HN.out.2.2.2.keep (fun b o s e => ?_)).mono (by omega)
          have := (HN.out.2.2.1.nq b o s e).1
          rw [hW9.out, Below.heap_setCell _ _ _ _ (by simp; omega), Below.heap_setCell _ _ _ _ (by simp; omega), Below.heap_setCell _ _ _ _ (by simp; omega)]
        have HE : Hid (Below w.heap.size w W9) := by
          show Below _ _ _
          rw [hW9.out]
          exact (((BW.out.trans (HB.out.mono (by omega))).setCell (by simp) _).setCell (by simp) _).setCell (by simp) _
        clear u0 u1 u2 uf hN1 hN2 hN3 hN4 hkn hC HC vf hb R2 HM2
        go_wp2
        rw [← hW9.out]
        clear v0 v1 v2 vf0 vf1 vf2 x0 x1 x2
        (try simp only [Exit.inBlock, Exit.then])
        refine bodyPost_ret (by simp [results, Tryd.results24, go_sem, k0, k1, k2]; try rfl) rfl ?_
        exact ⟨N, by have := HN.out.1; unfold Mv.val at this; rw [this], HN.out.2.1, HO.out, HE.out, HQ.out⟩
theorem mcopy_any (M : Mv) (w : World) (hM : MachAt w M) (hF : M.Fits) :
    Calls Tryd.prog 24 #[M.val] w fun e w' => ∃ N : Mv, e = .returned N.val ∧ N.Same M ∧ Owned w.heap.size w' N ∧ Below w.heap.size w w' :=
  (mcopy_own M w hM hF).mono (fun _ _ ⟨N, h1, h2, h3, h4, _⟩ => ⟨N, h1, h2, h3, h4⟩)

end Go.Proofs.YtdbbiibnhgcndaaDoor
