/-
  For every two numbers, NoncesOnce answers true: a quote is taken once, and only if it was made, of who is trusted, and of a nonce that is out. No condition.
-/
import Derived.Test.YtdbbiibnhgcndaaNonceMath
import Derived.Deep.RegionHeld3
import Derived.Lib.SmallJoins
namespace Go.Proofs.Ytdbbiibnhgcndaa
open Go.ChangeShapes Go.WideShapes Go.ChangeAt Go.RowKit Go.Joins
open Go.ChangeMaps (open_string shut_string)
set_option linter.unusedVariables false


set_option maxRecDepth 100000 in
set_option maxHeartbeats 8000000 in
theorem noncesOnce_walk (n m : Int) (w : World) (wn : (Lit.int .i64 n).wf = true) (wm : (Lit.int .i64 m).wf = true) :
    Calls Try.prog 20 #[.int .i64 n, .int .i64 m] w fun x w' => x = .returned (.bool true) ∧ Below w.heap.size w w' := by
  have hp1 := fun w' => picked_any n 20 w' wn (by omega) (by omega)
  have hpl := pick_lt n (many := 20) (by omega)
  obtain ⟨p, hp⟩ : ∃ p : Nat, pick n 20 = (p : Int) := ⟨(pick n 20).toNat, by omega⟩
  rw [hp] at hp1 hpl
  obtain ⟨M, hM⟩ : ∃ M : Nat, Hid (M = p + 1) := ⟨_, rfl⟩
  have hw1 : IntKind.i64.wrap (1 + (p : Int)) = (M : Int) := by rw [IntKind.wrap_i64, hM.out]; omega
  have HM20 : Hid (1 ≤ M ∧ M ≤ 20) := ⟨by rw [hM.out]; omega, by rw [hM.out]; omega⟩
  have hp2 := fun w' => picked_any m (M : Int) w' wm (by have := HM20.out; omega) (by have := HM20.out; omega)
  have hql := pick_lt m (many := (M : Int)) (by have := HM20.out; omega)
  obtain ⟨j, hj⟩ : ∃ j : Nat, pick m (M : Int) = (j : Int) := ⟨(pick m (M : Int)).toNat, by omega⟩
  rw [hj] at hp2 hql
  have HJ : Hid (j < M) := by show j < M; omega
  have hw2 : IntKind.i64.wrap (1 + (j : Int)) = (j : Int) + 1 := by rw [IntKind.wrap_i64]; have := HM20.out; omega
  have hw3 : IntKind.i64.wrap ((M : Int) + 1) = (M : Int) + 1 := by rw [IntKind.wrap_i64]; have := HM20.out; omega
  clear hp hj hM hpl hql wn wm
  go_enter Try.func20, Try.ntmps20
  go_upto_region 2 with fail
  obtain ⟨W1, hW1⟩ : ∃ W1, Hid (W1 = (w.alloc (.cells #[.string tGood] 9)).alloc (.cells #[.slice (some ⟨w.heap.size, 0, none⟩) 1 1, .slice none 0 0] 61)) := ⟨_, rfl⟩
  obtain ⟨B, hB⟩ : ∃ B, Hid (B = w.heap.size + 1) := ⟨_, rfl⟩
  rw [show (⟨#[103, 111, 111, 100]⟩ : ByteArray) = tGood from rfl, ← hW1.out, ← hB.out]
  have BX0 : Hid (∃ N, CBox w W1 B N (cvN 0)) := by
    refine ⟨⟨some ⟨w.heap.size, 0, none⟩, [tGood], 1, none, [], 0⟩, ?_⟩
    have := CBox.new (w := w) (W := w.alloc (.cells #[.string tGood] 9)) (N := ⟨some ⟨w.heap.size, 0, none⟩, [tGood], 1, none, [], 0⟩) (D := cvN 0) (a1B _ _) ⟨.inr ⟨w.heap.size, 0, rfl, fun i hi => by
      obtain rfl : i = 0 := by simpa using hi
      rw [World.cell?_alloc_at _ _ _ _ rfl]; rfl⟩, .inl rfl, ⟨by simp [maxLen], fun s hs => by simp at hs; subst hs; decide, by simp, fun x hx => by simp at hx⟩⟩ ⟨rfl, rfl⟩ 61
    rw [hW1.out, hB.out]
    simpa using this
  clear hW1 hB
  go_wp2_with (go_at_call 58; refine (hp1 _).mono ?_; rintro x w' ⟨rfl, rfl⟩)
  clear hp1
  go_loopw [29] (fun i wr => ∃ k : Nat, k ≤ M ∧ i = .int .i64 k ∧ Hid (∃ N, CBox w wr B N (cvN k))) (fun i _ => M - (intOf i).toNat)
  case atStart => exact ⟨0, Nat.zero_le _, rfl, BX0⟩
  case round =>
    obtain ⟨k, hk, rfl, hbx⟩ := hrel
    clear BX0
    obtain ⟨N, bx⟩ := hbx.out
    have BX : Hid (_) := bx
    clear hbx
    by_cases hlt : k < M
    · obtain ⟨q1, q2, q3⟩ := ask_ok (n := k) (by have := HM20.out; omega)
      have h1 := ask_any N wr bx.at_ (fits_chF (chF_N (by have := HM20.out; omega)) bx.same)
      rw [askE_same bx.same, askN_same bx.same, q1, q2] at h1
      have H3 : Hid ((askC N).Same (cvN (k + 1))) := (askC_same bx.same).trans q3
      have c0 := bx.c0
      have c1 := bx.c1
      unfold Cv.val at h1
      have hw4 : IntKind.i64.wrap ((k : Int) + 1) = (k : Int) + 1 := by rw [IntKind.wrap_i64]; have := HM20.out; omega
      have lt := bx.lt
      obtain ⟨nta, ntr, ntcap, nna, nns, nncap⟩ := N
      dsimp only at h1 c0 c1
      clear bx q1 q2 q3
      go_wp2_with (go_at_call 54; refine h1.mono ?_; clear h1; rintro x w2 ⟨N', rfl, hS, hO, hb⟩; have HS2 : Hid (_) := hS; have HO2 : Hid (_) := hO; have HU2 : Hid (_) := hb; have e0 := (hb.cell (p := ⟨B, 0, none⟩) lt).trans c0; have e1 := (hb.cell (p := ⟨B, 1, none⟩) lt).trans c1; have z0 : w2.frozen? ⟨B, 0, none⟩ = false := (hb.frozen (p := ⟨B, 0, none⟩) lt).trans (BX.out.fz 0); have z1 : w2.frozen? ⟨B, 1, none⟩ = false := (hb.frozen (p := ⟨B, 1, none⟩) lt).trans (BX.out.fz 1); have lt2 := Nat.lt_of_lt_of_le lt hb.size; clear hS hO hb c0 c1 lt; obtain ⟨ata, atr, atcap, ana, ans, ancap⟩ := N'; dsimp only)
      go_roundw
      case rel => exact ⟨k + 1, by omega, by go_num, ⟨⟨ata, atr, atcap, ana, ans, ancap⟩, ((BX.out.store HU2.out HO2.out (HS2.out.trans H3.out)).keep (a1B _ _))⟩⟩
      case measure => simp [intOf]; omega
    · have hge : ¬ ((k : Int) < (M : Int)) := by omega
      obtain rfl : k = M := by omega
      clear bx hk hlt
      go_upto_region 13 with (go_at_call 58; refine (hp2 _).mono ?_; rintro x w' ⟨rfl, rfl⟩)
      obtain ⟨Wm, hWm⟩ : ∃ Wm, Hid (Wm = wr.alloc (.cells #[.string tGood, .int .i64 ((j : Int) + 1), .string tBad, .int .i64 ((j : Int) + 1), .string tGood, .int .i64 ((k : Int) + 1)] 69)) := ⟨_, rfl⟩
      obtain ⟨MB, hMB⟩ : ∃ MB, Hid (MB = wr.heap.size) := ⟨_, rfl⟩
      rw [show (⟨#[103, 111, 111, 100]⟩ : ByteArray) = tGood from rfl, show (⟨#[98, 97, 100]⟩ : ByteArray) = tBad from rfl, ← hWm.out, ← hMB.out]
      obtain ⟨nta, ntr, ntcap, nna, nns, nncap⟩ := N
      have BBWm : Hid (CBox w Wm B ⟨nta, ntr, ntcap, nna, nns, nncap⟩ (cvN k)) := by show CBox _ _ _ _ _; rw [hWm.out]; exact BX.out.keep (a1B _ _)
      have hblk : Wm.heap[MB]? = some (.cells #[.string tGood, .int .i64 ((j : Int) + 1), .string tBad, .int .i64 ((j : Int) + 1), .string tGood, .int .i64 ((k : Int) + 1)] 69 (0, 0)) := by rw [hWm.out, hMB.out]; exact a11 _ _
      have RM : Hid (RowsAt Wm 2 Qu.cells (some ⟨MB, 0, none⟩) (madeQ k j)) := rows_of_block (cells := Qu.cells) (c := 2) (rest := []) (fun _ => rfl) hblk
      have GM : Hid (∀ w2, Below Wm.heap.size Wm w2 → w2.cell? ⟨MB, 0, none⟩ = some (.string tGood) ∧ w2.cell? ⟨MB, 1, none⟩ = some (.int .i64 ((j : Int) + 1)) ∧ w2.cell? ⟨MB, 2, none⟩ = some (.string tBad) ∧ w2.cell? ⟨MB, 3, none⟩ = some (.int .i64 ((j : Int) + 1)) ∧ w2.cell? ⟨MB, 4, none⟩ = some (.string tGood) ∧ w2.cell? ⟨MB, 5, none⟩ = some (.int .i64 ((k : Int) + 1)) ∧ MB < w2.heap.size) := fun w2 h => by
        have lt : MB < Wm.heap.size := (Array.getElem?_eq_some_iff.1 hblk).1
        have key : ∀ i v, Wm.cell? ⟨MB, i, none⟩ = some v → w2.cell? ⟨MB, i, none⟩ = some v := fun i v e => (h.cell (p := ⟨MB, i, none⟩) lt).trans e
        exact ⟨key _ _ (by simp [World.cell?, hblk]), key _ _ (by simp [World.cell?, hblk]), key _ _ (by simp [World.cell?, hblk]), key _ _ (by simp [World.cell?, hblk]), key _ _ (by simp [World.cell?, hblk]), key _ _ (by simp [World.cell?, hblk]), Nat.lt_of_lt_of_le lt h.size⟩
      have HWWm : Hid (Below Wm.heap.size Wm Wm) := Below.refl _ _
      have og : tGood.size ≤ maxLen := by unfold maxLen; decide
      have ob : tBad.size ≤ maxLen := by unfold maxLen; decide
      have oj : (Lit.int .i64 ((j : Int) + 1)).wf = true := by have := HM20.out; have := HJ.out; simp [Lit.wf, IntKind.min, IntKind.max, IntKind.bits, IntKind.signed]; omega
      have ok : (Lit.int .i64 ((k : Int) + 1)).wf = true := by have := HM20.out; simp [Lit.wf, IntKind.min, IntKind.max, IntKind.bits, IntKind.signed]; omega
      have OG : Hid (_) := og
      have OB : Hid (_) := ob
      have OJ : Hid (_) := oj
      have OK : Hid (_) := ok
      clear hblk hWm hMB BX og ob oj ok hp2
      have h := fun w' (h : Below Wm.heap.size Wm w') => look_any ⟨nta, ntr, ntcap, nna, nns, nncap⟩ (some ⟨MB, 0, none⟩) (madeQ k j) 3 ⟨tGood, ((j : Int) + 1)⟩ w' (BBWm.out.keep h).at_ (fits_chF (chF_N HM20.out.2) BBWm.out.same) (show 3 ≤ maxLen by unfold maxLen; omega) (RowsAt.below (cells := Qu.cells) (fun _ => rfl) RM.out (HWWm.out.trans (h.mono HWWm.out.size))) ⟨OG.out, OJ.out⟩
      rw [lookE_same BBWm.out.same, look0 HM20.out.2 HJ.out, show (madeQ k j : List Qu).length = 3 from rfl] at h
      unfold Cv.val at h
      dsimp only at h
      have k0 := BBWm.out.c0
      have k1 := BBWm.out.c1
      dsimp only at k0 k1
      have lb := BBWm.out.lt
      obtain ⟨t0, t1, t2, t3, t4, t5, tl⟩ := GM.out Wm HWWm.out
      have GG : Hid (∀ w2, Below Wm.heap.size Wm w2 → w2.cell? ⟨B, 0, none⟩ = some (.slice nta ntr.length ntcap) ∧ w2.cell? ⟨B, 1, none⟩ = some (.slice nna nns.length nncap) ∧ w2.cell? ⟨MB, 0, none⟩ = some (.string tGood) ∧ w2.cell? ⟨MB, 1, none⟩ = some (.int .i64 ((j : Int) + 1))) := fun w2 h => ⟨(h.cell (p := ⟨B, 0, none⟩) lb).trans k0, (h.cell (p := ⟨B, 1, none⟩) lb).trans k1, (h.cell (p := ⟨MB, 0, none⟩) tl).trans t0, (h.cell (p := ⟨MB, 1, none⟩) tl).trans t1⟩
      have n1 := World.new_ne Wm ⟨B, 0, none⟩ k0
      have n2 := World.new_ne Wm ⟨MB, 0, none⟩ t0
      dsimp only at n1 n2
      go_cut [13, 14] from 60 to 68 (fun sx sy wx => ∃ X, ∃ N1 : Cv, sx = .pointer (some ⟨X, 0, none⟩) ∧ sy = .int .i64 0 ∧ CBox w wx X N1 (cvB k j) ∧ Below Wm.heap.size Wm wx)
      case first =>
        go_region_held3 (fun w' => w'.cell? ⟨B, 0, none⟩ = some (.slice nta ntr.length ntcap) ∧ w'.cell? ⟨B, 1, none⟩ = some (.slice nna nns.length nncap) ∧ w'.cell? ⟨MB, 0, none⟩ = some (.string tGood) ∧ w'.cell? ⟨MB, 1, none⟩ = some (.int .i64 ((j : Int) + 1))) (first | exact ⟨g0, g1, g2, g3⟩ | go_keep) (first
          | (go_at_call 56; refine (h _ (by repeat (first | (with_reducible exact Below.refl _ _) | (with_reducible refine Below.drew ?_) | (with_reducible refine below_alloc ?_ _)))).mono ?_; clear h; rintro x w2 ⟨N1, rfl, hS, hO, hb⟩; have HS2 : Hid (_) := hS; have HO2 : Hid (_) := hO; (first | ((with_reducible_and_instances have hzz := zb_only (w := w) (Wb := Wm) BBWm.out.bel hb); have e0 := hzz.e0; have e1 := hzz.e1; have z0 := hzz.z0; have z1 := hzz.z1; have l2 := hzz.lt; have HST : Hid (_) := hzz.st; clear hzz) | skip); have HBW2 : Hid (Below Wm.heap.size Wm w2) := Below.trans (by repeat (first | (with_reducible exact Below.refl _ _) | (with_reducible refine Below.drew ?_) | (with_reducible refine below_alloc ?_ _))) (hb.mono (by first | exact Nat.le_refl _ | (simp; done) | (simp; omega))); obtain ⟨g0, g1, g2, g3⟩ := GG.out w2 HBW2.out; clear hS hO hb; obtain ⟨ata, atr, atcap, ana, ans, ancap⟩ := N1; dsimp only)
          | fail)
        all_goals
          go_wp2_with fail
          go_meet
          case rel => first
                | exact ⟨_, ⟨ata, atr, atcap, ana, ans, ancap⟩, rfl, rfl, CBox.new (N := ⟨ata, atr, atcap, ana, ans, ancap⟩) (BBWm.out.bel.trans (HBW2.out.mono BBWm.out.bel.size)) HO2.out.at_ (HS2.out.trans ((lookC_same BBWm.out.same _ _).trans (lookC0 HM20.out.2 HJ.out))) _, HBW2.out.alloc HBW2.out.size _⟩
                | exact ⟨_, ⟨ata, atr, atcap, ana, ans, ancap⟩, rfl, rfl, HST.out _ _ HO2.out (HS2.out.trans ((lookC_same BBWm.out.same _ _).trans (lookC0 HM20.out.2 HJ.out))), (HBW2.out.setCell (by dsimp only; omega) _).setCell (by dsimp only; omega) _⟩
      case rest =>
      clear h GG n1 n2 k0 k1 t0 t1 t2 t3 t4 t5 lb tl
      obtain ⟨X1, ⟨xta, xtr, xtcap, xna, xns, xncap⟩, rfl, rfl, bx, hbw⟩ := hcut
      rename World => V1
      have BXXV1 : Hid (_) := bx
      clear bx
      have HWV1 : Hid (Below Wm.heap.size Wm V1) := HWWm.out.trans (hbw.mono HWWm.out.size)
      have BBV1 : Hid (_) := BBWm.out.keep hbw
      clear hbw BBWm HWWm
      go_upto_region 14 with fail
      have h := fun w' (h : Below V1.heap.size V1 w') => look_any ⟨xta, xtr, xtcap, xna, xns, xncap⟩ (some ⟨MB, 0, none⟩) (madeQ k j) 3 ⟨tGood, ((j : Int) + 1)⟩ w' (BXXV1.out.keep h).at_ (fits_chF (chF_B HM20.out.2) BXXV1.out.same) (show 3 ≤ maxLen by unfold maxLen; omega) (RowsAt.below (cells := Qu.cells) (fun _ => rfl) RM.out (HWV1.out.trans (h.mono HWV1.out.size))) ⟨OG.out, OJ.out⟩
      rw [lookE_same BXXV1.out.same, look1 HM20.out.2 HJ.out, show (madeQ k j : List Qu).length = 3 from rfl] at h
      unfold Cv.val at h
      dsimp only at h
      have k0 := BXXV1.out.c0
      have k1 := BXXV1.out.c1
      dsimp only at k0 k1
      have lb := BXXV1.out.lt
      obtain ⟨t0, t1, t2, t3, t4, t5, tl⟩ := GM.out V1 HWV1.out
      have GG : Hid (∀ w2, Below V1.heap.size V1 w2 → w2.cell? ⟨X1, 0, none⟩ = some (.slice xta xtr.length xtcap) ∧ w2.cell? ⟨X1, 1, none⟩ = some (.slice xna xns.length xncap) ∧ w2.cell? ⟨MB, 0, none⟩ = some (.string tGood) ∧ w2.cell? ⟨MB, 1, none⟩ = some (.int .i64 ((j : Int) + 1))) := fun w2 h => ⟨(h.cell (p := ⟨X1, 0, none⟩) lb).trans k0, (h.cell (p := ⟨X1, 1, none⟩) lb).trans k1, (h.cell (p := ⟨MB, 0, none⟩) tl).trans t0, (h.cell (p := ⟨MB, 1, none⟩) tl).trans t1⟩
      have n1 := World.new_ne V1 ⟨X1, 0, none⟩ k0
      have n2 := World.new_ne V1 ⟨MB, 0, none⟩ t0
      dsimp only at n1 n2
      go_cut [15, 16] from 69 to 77 (fun sx sy wx => ∃ X, ∃ N1 : Cv, sx = .pointer (some ⟨X, 0, none⟩) ∧ sy = .int .i64 6 ∧ Below V1.heap.size V1 wx)
      case first =>
        go_region_held3 (fun w' => w'.cell? ⟨X1, 0, none⟩ = some (.slice xta xtr.length xtcap) ∧ w'.cell? ⟨X1, 1, none⟩ = some (.slice xna xns.length xncap) ∧ w'.cell? ⟨MB, 0, none⟩ = some (.string tGood) ∧ w'.cell? ⟨MB, 1, none⟩ = some (.int .i64 ((j : Int) + 1))) (first | exact ⟨g0, g1, g2, g3⟩ | go_keep) (first
          | (go_at_call 56; refine (h _ (by repeat (first | (with_reducible exact Below.refl _ _) | (with_reducible refine Below.drew ?_) | (with_reducible refine below_alloc ?_ _)))).mono ?_; clear h; rintro x w2 ⟨N1, rfl, hS, hO, hb⟩; have HS2 : Hid (_) := hS; have HO2 : Hid (_) := hO; (first | ((with_reducible_and_instances have hzz := zb_only (w := w) (Wb := V1) BXXV1.out.bel hb); have e0 := hzz.e0; have e1 := hzz.e1; have z0 := hzz.z0; have z1 := hzz.z1; have l2 := hzz.lt; have HST : Hid (_) := hzz.st; clear hzz) | skip); have HBW2 : Hid (Below V1.heap.size V1 w2) := Below.trans (by repeat (first | (with_reducible exact Below.refl _ _) | (with_reducible refine Below.drew ?_) | (with_reducible refine below_alloc ?_ _))) (hb.mono (by first | exact Nat.le_refl _ | (simp; done) | (simp; omega))); obtain ⟨g0, g1, g2, g3⟩ := GG.out w2 HBW2.out; clear hS hO hb; obtain ⟨ata, atr, atcap, ana, ans, ancap⟩ := N1; dsimp only)
          | fail)
        all_goals
          go_wp2_with fail
          go_meet
          case rel => first
                | exact ⟨_, ⟨ata, atr, atcap, ana, ans, ancap⟩, rfl, rfl, HBW2.out.alloc HBW2.out.size _⟩
                | exact ⟨_, ⟨ata, atr, atcap, ana, ans, ancap⟩, rfl, rfl, (HBW2.out.setCell (by dsimp only; omega) _).setCell (by dsimp only; omega) _⟩
      case rest =>
      clear h GG n1 n2 k0 k1 t0 t1 t2 t3 t4 t5 lb tl
      obtain ⟨_, _, rfl, rfl, hbw⟩ := hcut
      rename World => V2
      have HWV2 : Hid (Below Wm.heap.size Wm V2) := HWV1.out.trans (hbw.mono HWV1.out.size)
      have BBV2 : Hid (_) := BBV1.out.keep hbw
      have BXXV2 : Hid (_) := BXXV1.out.keep hbw
      clear hbw BBV1 BXXV1 HWV1
      go_upto_region 15 with fail
      have h := fun w' (h : Below V2.heap.size V2 w') => look_any ⟨nta, ntr, ntcap, nna, nns, nncap⟩ (some ⟨MB, 0, none⟩) (madeQ k j) 3 ⟨tBad, ((j : Int) + 1)⟩ w' (BBV2.out.keep h).at_ (fits_chF (chF_N HM20.out.2) BBV2.out.same) (show 3 ≤ maxLen by unfold maxLen; omega) (RowsAt.below (cells := Qu.cells) (fun _ => rfl) RM.out (HWV2.out.trans (h.mono HWV2.out.size))) ⟨OB.out, OJ.out⟩
      rw [lookE_same BBV2.out.same, look2 HM20.out.2 HJ.out, show (madeQ k j : List Qu).length = 3 from rfl] at h
      unfold Cv.val at h
      dsimp only at h
      have k0 := BBV2.out.c0
      have k1 := BBV2.out.c1
      dsimp only at k0 k1
      have lb := BBV2.out.lt
      obtain ⟨t0, t1, t2, t3, t4, t5, tl⟩ := GM.out V2 HWV2.out
      have GG : Hid (∀ w2, Below V2.heap.size V2 w2 → w2.cell? ⟨B, 0, none⟩ = some (.slice nta ntr.length ntcap) ∧ w2.cell? ⟨B, 1, none⟩ = some (.slice nna nns.length nncap) ∧ w2.cell? ⟨MB, 2, none⟩ = some (.string tBad) ∧ w2.cell? ⟨MB, 3, none⟩ = some (.int .i64 ((j : Int) + 1))) := fun w2 h => ⟨(h.cell (p := ⟨B, 0, none⟩) lb).trans k0, (h.cell (p := ⟨B, 1, none⟩) lb).trans k1, (h.cell (p := ⟨MB, 2, none⟩) tl).trans t2, (h.cell (p := ⟨MB, 3, none⟩) tl).trans t3⟩
      have n1 := World.new_ne V2 ⟨B, 0, none⟩ k0
      have n2 := World.new_ne V2 ⟨MB, 0, none⟩ t0
      dsimp only at n1 n2
      go_cut [17, 18] from 78 to 86 (fun sx sy wx => ∃ X, ∃ N1 : Cv, sx = .pointer (some ⟨X, 0, none⟩) ∧ sy = .int .i64 11 ∧ Below V2.heap.size V2 wx)
      case first =>
        go_region_held3 (fun w' => w'.cell? ⟨B, 0, none⟩ = some (.slice nta ntr.length ntcap) ∧ w'.cell? ⟨B, 1, none⟩ = some (.slice nna nns.length nncap) ∧ w'.cell? ⟨MB, 2, none⟩ = some (.string tBad) ∧ w'.cell? ⟨MB, 3, none⟩ = some (.int .i64 ((j : Int) + 1))) (first | exact ⟨g0, g1, g2, g3⟩ | go_keep) (first
          | (go_at_call 56; refine (h _ (by repeat (first | (with_reducible exact Below.refl _ _) | (with_reducible refine Below.drew ?_) | (with_reducible refine below_alloc ?_ _)))).mono ?_; clear h; rintro x w2 ⟨N1, rfl, hS, hO, hb⟩; have HS2 : Hid (_) := hS; have HO2 : Hid (_) := hO; (first | ((with_reducible_and_instances have hzz := zb_only (w := w) (Wb := V2) BBV2.out.bel hb); have e0 := hzz.e0; have e1 := hzz.e1; have z0 := hzz.z0; have z1 := hzz.z1; have l2 := hzz.lt; have HST : Hid (_) := hzz.st; clear hzz) | skip); have HBW2 : Hid (Below V2.heap.size V2 w2) := Below.trans (by repeat (first | (with_reducible exact Below.refl _ _) | (with_reducible refine Below.drew ?_) | (with_reducible refine below_alloc ?_ _))) (hb.mono (by first | exact Nat.le_refl _ | (simp; done) | (simp; omega))); obtain ⟨g0, g1, g2, g3⟩ := GG.out w2 HBW2.out; clear hS hO hb; obtain ⟨ata, atr, atcap, ana, ans, ancap⟩ := N1; dsimp only)
          | fail)
        all_goals
          go_wp2_with fail
          go_meet
          case rel => first
                | exact ⟨_, ⟨ata, atr, atcap, ana, ans, ancap⟩, rfl, rfl, HBW2.out.alloc HBW2.out.size _⟩
                | exact ⟨_, ⟨ata, atr, atcap, ana, ans, ancap⟩, rfl, rfl, (HBW2.out.setCell (by dsimp only; omega) _).setCell (by dsimp only; omega) _⟩
      case rest =>
      clear h GG n1 n2 k0 k1 t0 t1 t2 t3 t4 t5 lb tl
      obtain ⟨_, _, rfl, rfl, hbw⟩ := hcut
      rename World => V3
      have HWV3 : Hid (Below Wm.heap.size Wm V3) := HWV2.out.trans (hbw.mono HWV2.out.size)
      have BBV3 : Hid (_) := BBV2.out.keep hbw
      have BXXV3 : Hid (_) := BXXV2.out.keep hbw
      clear hbw BBV2 BXXV2 HWV2
      go_upto_region 16 with fail
      have h := fun w' (h : Below V3.heap.size V3 w') => look_any ⟨nta, ntr, ntcap, nna, nns, nncap⟩ (some ⟨MB, 0, none⟩) (madeQ k j) 3 ⟨tGood, ((k : Int) + 1)⟩ w' (BBV3.out.keep h).at_ (fits_chF (chF_N HM20.out.2) BBV3.out.same) (show 3 ≤ maxLen by unfold maxLen; omega) (RowsAt.below (cells := Qu.cells) (fun _ => rfl) RM.out (HWV3.out.trans (h.mono HWV3.out.size))) ⟨OG.out, OK.out⟩
      rw [lookE_same BBV3.out.same, look3 HM20.out.2, show (madeQ k j : List Qu).length = 3 from rfl] at h
      unfold Cv.val at h
      dsimp only at h
      have k0 := BBV3.out.c0
      have k1 := BBV3.out.c1
      dsimp only at k0 k1
      have lb := BBV3.out.lt
      obtain ⟨t0, t1, t2, t3, t4, t5, tl⟩ := GM.out V3 HWV3.out
      have GG : Hid (∀ w2, Below V3.heap.size V3 w2 → w2.cell? ⟨B, 0, none⟩ = some (.slice nta ntr.length ntcap) ∧ w2.cell? ⟨B, 1, none⟩ = some (.slice nna nns.length nncap) ∧ w2.cell? ⟨MB, 4, none⟩ = some (.string tGood) ∧ w2.cell? ⟨MB, 5, none⟩ = some (.int .i64 ((k : Int) + 1))) := fun w2 h => ⟨(h.cell (p := ⟨B, 0, none⟩) lb).trans k0, (h.cell (p := ⟨B, 1, none⟩) lb).trans k1, (h.cell (p := ⟨MB, 4, none⟩) tl).trans t4, (h.cell (p := ⟨MB, 5, none⟩) tl).trans t5⟩
      have n1 := World.new_ne V3 ⟨B, 0, none⟩ k0
      have n2 := World.new_ne V3 ⟨MB, 0, none⟩ t0
      dsimp only at n1 n2
      go_cut [19, 20] from 87 to 95 (fun sx sy wx => ∃ X, ∃ N1 : Cv, sx = .pointer (some ⟨X, 0, none⟩) ∧ sy = .int .i64 5 ∧ Below V3.heap.size V3 wx)
      case first =>
        go_region_held3 (fun w' => w'.cell? ⟨B, 0, none⟩ = some (.slice nta ntr.length ntcap) ∧ w'.cell? ⟨B, 1, none⟩ = some (.slice nna nns.length nncap) ∧ w'.cell? ⟨MB, 4, none⟩ = some (.string tGood) ∧ w'.cell? ⟨MB, 5, none⟩ = some (.int .i64 ((k : Int) + 1))) (first | exact ⟨g0, g1, g2, g3⟩ | go_keep) (first
          | (go_at_call 56; refine (h _ (by repeat (first | (with_reducible exact Below.refl _ _) | (with_reducible refine Below.drew ?_) | (with_reducible refine below_alloc ?_ _)))).mono ?_; clear h; rintro x w2 ⟨N1, rfl, hS, hO, hb⟩; have HS2 : Hid (_) := hS; have HO2 : Hid (_) := hO; (first | ((with_reducible_and_instances have hzz := zb_only (w := w) (Wb := V3) BBV3.out.bel hb); have e0 := hzz.e0; have e1 := hzz.e1; have z0 := hzz.z0; have z1 := hzz.z1; have l2 := hzz.lt; have HST : Hid (_) := hzz.st; clear hzz) | skip); have HBW2 : Hid (Below V3.heap.size V3 w2) := Below.trans (by repeat (first | (with_reducible exact Below.refl _ _) | (with_reducible refine Below.drew ?_) | (with_reducible refine below_alloc ?_ _))) (hb.mono (by first | exact Nat.le_refl _ | (simp; done) | (simp; omega))); obtain ⟨g0, g1, g2, g3⟩ := GG.out w2 HBW2.out; clear hS hO hb; obtain ⟨ata, atr, atcap, ana, ans, ancap⟩ := N1; dsimp only)
          | fail)
        all_goals
          go_wp2_with fail
          go_meet
          case rel => first
                | exact ⟨_, ⟨ata, atr, atcap, ana, ans, ancap⟩, rfl, rfl, HBW2.out.alloc HBW2.out.size _⟩
                | exact ⟨_, ⟨ata, atr, atcap, ana, ans, ancap⟩, rfl, rfl, (HBW2.out.setCell (by dsimp only; omega) _).setCell (by dsimp only; omega) _⟩
      case rest =>
      clear h GG n1 n2 k0 k1 t0 t1 t2 t3 t4 t5 lb tl
      obtain ⟨_, _, rfl, rfl, hbw⟩ := hcut
      rename World => V4
      have HWV4 : Hid (Below Wm.heap.size Wm V4) := HWV3.out.trans (hbw.mono HWV3.out.size)
      have BBV4 : Hid (_) := BBV3.out.keep hbw
      have BXXV4 : Hid (_) := BXXV3.out.keep hbw
      clear hbw BBV3 BXXV3 HWV3
      go_upto_region 17 with fail
      have h := fun w' (h : Below V4.heap.size V4 w') => look_any ⟨nta, ntr, ntcap, nna, nns, nncap⟩ (none) ([]) 0 ⟨tGood, ((j : Int) + 1)⟩ w' (BBV4.out.keep h).at_ (fits_chF (chF_N HM20.out.2) BBV4.out.same) (show 0 ≤ maxLen by unfold maxLen; omega) (.inl rfl) ⟨OG.out, OJ.out⟩
      rw [lookE_same BBV4.out.same, look4 HM20.out.2, show ([] : List Qu).length = 0 from rfl] at h
      unfold Cv.val at h
      dsimp only at h
      have k0 := BBV4.out.c0
      have k1 := BBV4.out.c1
      dsimp only at k0 k1
      have lb := BBV4.out.lt
      obtain ⟨t0, t1, t2, t3, t4, t5, tl⟩ := GM.out V4 HWV4.out
      have GG : Hid (∀ w2, Below V4.heap.size V4 w2 → w2.cell? ⟨B, 0, none⟩ = some (.slice nta ntr.length ntcap) ∧ w2.cell? ⟨B, 1, none⟩ = some (.slice nna nns.length nncap) ∧ w2.cell? ⟨MB, 0, none⟩ = some (.string tGood) ∧ w2.cell? ⟨MB, 1, none⟩ = some (.int .i64 ((j : Int) + 1))) := fun w2 h => ⟨(h.cell (p := ⟨B, 0, none⟩) lb).trans k0, (h.cell (p := ⟨B, 1, none⟩) lb).trans k1, (h.cell (p := ⟨MB, 0, none⟩) tl).trans t0, (h.cell (p := ⟨MB, 1, none⟩) tl).trans t1⟩
      have n1 := World.new_ne V4 ⟨B, 0, none⟩ k0
      have n2 := World.new_ne V4 ⟨MB, 0, none⟩ t0
      dsimp only at n1 n2
      go_cut [21, 22] from 96 to 103 (fun sx sy wx => ∃ X, ∃ N1 : Cv, sx = .pointer (some ⟨X, 0, none⟩) ∧ sy = .int .i64 4 ∧ Below V4.heap.size V4 wx)
      case first =>
        go_region_held3 (fun w' => w'.cell? ⟨B, 0, none⟩ = some (.slice nta ntr.length ntcap) ∧ w'.cell? ⟨B, 1, none⟩ = some (.slice nna nns.length nncap) ∧ w'.cell? ⟨MB, 0, none⟩ = some (.string tGood) ∧ w'.cell? ⟨MB, 1, none⟩ = some (.int .i64 ((j : Int) + 1))) (first | exact ⟨g0, g1, g2, g3⟩ | go_keep) (first
          | (go_at_call 56; refine (h _ (by repeat (first | (with_reducible exact Below.refl _ _) | (with_reducible refine Below.drew ?_) | (with_reducible refine below_alloc ?_ _)))).mono ?_; clear h; rintro x w2 ⟨N1, rfl, hS, hO, hb⟩; have HS2 : Hid (_) := hS; have HO2 : Hid (_) := hO; (first | ((with_reducible_and_instances have hzz := zb_only (w := w) (Wb := V4) BBV4.out.bel hb); have e0 := hzz.e0; have e1 := hzz.e1; have z0 := hzz.z0; have z1 := hzz.z1; have l2 := hzz.lt; have HST : Hid (_) := hzz.st; clear hzz) | skip); have HBW2 : Hid (Below V4.heap.size V4 w2) := Below.trans (by repeat (first | (with_reducible exact Below.refl _ _) | (with_reducible refine Below.drew ?_) | (with_reducible refine below_alloc ?_ _))) (hb.mono (by first | exact Nat.le_refl _ | (simp; done) | (simp; omega))); obtain ⟨g0, g1, g2, g3⟩ := GG.out w2 HBW2.out; clear hS hO hb; obtain ⟨ata, atr, atcap, ana, ans, ancap⟩ := N1; dsimp only)
          | fail)
        all_goals
          go_wp2_with fail
          go_meet
          case rel => first
                | exact ⟨_, ⟨ata, atr, atcap, ana, ans, ancap⟩, rfl, rfl, HBW2.out.alloc HBW2.out.size _⟩
                | exact ⟨_, ⟨ata, atr, atcap, ana, ans, ancap⟩, rfl, rfl, (HBW2.out.setCell (by dsimp only; omega) _).setCell (by dsimp only; omega) _⟩
      case rest =>
      clear h GG n1 n2 k0 k1 t0 t1 t2 t3 t4 t5 lb tl
      obtain ⟨_, _, rfl, rfl, hbw⟩ := hcut
      rename World => V5
      have HWV5 : Hid (Below Wm.heap.size Wm V5) := HWV4.out.trans (hbw.mono HWV4.out.size)
      have BBV5 : Hid (_) := BBV4.out.keep hbw
      have BXXV5 : Hid (_) := BXXV4.out.keep hbw
      clear hbw BBV4 BXXV4 HWV4
      have c1 := BXXV5.out.c1
      have lt := BXXV5.out.lt
      have eN := BXXV5.out.same.ns
      have hi := BXXV5.out.at_.ns
      dsimp only [cvB] at c1 eN hi
      subst eN
      have hlen : ((List.replicate k (0 : Int)).set j 1).length = k := by simp
      have hget : ((List.replicate k (0 : Int)).set j 1).getD j 0 = 1 := by simp [List.getD_eq_getElem?_getD, HJ.out]
      rcases hi with e | ⟨nb, no, e, hc⟩
      · have := congrArg List.length e
        rw [hlen] at this
        have := HJ.out
        simp at *
        omega
      have c2 := hc j (by rw [hlen]; exact HJ.out)
      rw [hget] at c2
      rw [hlen] at c1
      subst e
      have hjk : (j : Int) < (k : Int) := by have := HJ.out; omega
      have hwj : IntKind.i64.wrap ((j : Int) + 1 - 1) = (j : Int) := by rw [IntKind.wrap_i64]; have := HM20.out; have := HJ.out; omega
      have hwj2 : wrap64 (j : Int) = (j : Int) := by have := HM20.out; have := HJ.out; unfold wrap64; omega
      have HB : Hid (Below w.heap.size w V5) := BXXV5.out.bel
      clear hc hget hlen hw1 hw2 hw3 BBV5 HWV5 GM RM OG OB OJ OK HM20 HJ
      go_upto_region 18 with fail
      go_wp2
      go_ret
      exact ⟨rfl, HB.out⟩

set_option maxRecDepth 100000 in
theorem noncesOnce_lifted (os : Os) (started : os.Started) (H : Type) (enc : TypeId × Value → H) :
    ReturnsInHanded {} Try.checked os 20 .any (Rows.noncesOnceSpec.pre6 enc Try.prog Try.f20 Rows.noncesOnceRow.domain false) (Rows.noncesOnceSpec.post enc Try.prog Try.f20 false true false false) := by
  refine returnsInHanded_of_change (C := Try.checked) own started (by kernel_rfl) Try.func20
    (ChangeSpec.witness6 (enc := enc) (C := Try.checked) false ⟨#[], #[.int .i64 0, .int .i64 0], []⟩ 8 (by kernel_rfl) (by kernel_rfl) (by kernel_rfl) (by kernel_rfl)) ?_
  intro W base args ds gs before hval0 hW hcnd _
  have hval : ∀ (j : Nat) t v, Try.f20.params[j]? = some t → args[j]? = some v → Value.okWide Try.prog W .any base t v := hval0
  have hW' := hW
  obtain ⟨p, q, hA0, hV, rfl, hfz, hnd⟩ := hW
  have hA : DataW.TrodAll enc Try.prog W 0 (fun _ => true) true Try.f20.params.toList args.toList ds p := hA0
  rw [Try.params20] at hA hval
  obtain ⟨v0, vs0, d0, ds0, p0, q0, hargs, rfl, rfl, h0, r0⟩ := trodAll_cons hA
  obtain ⟨v1, vs1, d1, ds1, p1, q1, rfl, rfl, rfl, h1, r1⟩ := trodAll_cons r0
  obtain ⟨rfl, rfl, rfl⟩ := trodAll_nil r1
  obtain rfl : args = #[v0, v1] := by cases args; simp_all
  obtain ⟨rfl, rfl⟩ := trodVars_none hV
  have k0 := h0
  have lt0 : ∀ x ∈ p0, x.block < W.heap.size := by obtain ⟨m, hm⟩ := k0; exact DataW.trod_lt m _ _ _ hm
  obtain ⟨x0, rfl, rfl, rfl, wx0⟩ := open_int Try.underlying3 (hval 0 3 v0 rfl rfl) h0
  have k1 := h1
  have lt1 : ∀ x ∈ p1, x.block < W.heap.size := by obtain ⟨m, hm⟩ := k1; exact DataW.trod_lt m _ _ _ hm
  obtain ⟨x1, rfl, rfl, rfl, wx1⟩ := open_int Try.underlying3 (hval 1 3 v1 rfl rfl) h1
  clear hA0 hval0
  refine (noncesOnce_walk x0 x1 W wx0 wx1).mono fun e W' ⟨he, bel⟩ => ?_
  subst he
  exact ⟨_, rfl, _, _, _, [], _, [], hW', trodAll_mk1 (shut_bool Try.underlying4 _), (trodAll_cons_mk (Below.trod laidOut (by kernel_rfl) (of_decide_eq_true (by kernel_rfl)) k0 bel lt0) (trodAll_cons_mk (Below.trod laidOut (by kernel_rfl) (of_decide_eq_true (by kernel_rfl)) k1 bel lt1) trodAll_mk0)), rfl, bel.frame _, fun h => by cases h⟩

theorem noncesOnce_holds : Rows.NoncesOnceSaid :=
  OpenClaim.holds_of_wide 20 Try.f20 rfl rfl rfl rfl rfl rfl rfl ⟨rfl, rfl, rfl, rfl, rfl⟩ rfl rfl rfl rfl rfl (by kernel_rfl) Try.func20 (by kernel_rfl)
    (of_decide_eq_true (by kernel_rfl)) (by unfold Func.isWrapper; first | (rw [if_pos (by decide +kernel)]; kernel_rfl) | (rw [if_neg (by decide +kernel)]; exact ⟨rfl, rfl⟩))
    (fun os started H enc _ => noncesOnce_lifted os started H enc)
#print axioms noncesOnce_holds

end Go.Proofs.Ytdbbiibnhgcndaa
