/-
  For every two lists of raw things, every two raw things and two numbers, TopWalls answers true: what an enclave does changes no other one, and of its own pages those alone that may be written. No condition but that the library's tables are as the program's text lays them, which the card ties.
-/
import Derived.Test.YtdngbojbpmdegaaGreatDoorJConcatA
import Derived.Test.YtdngbojbpmdegaaGreatDoorJHasMath
import Derived.Test.YtdngbojbpmdegaaGreatDoorJOpens
namespace Go.Proofs.YtdngbojbpmdegaaGreatDoor
open Go.ChangeShapes Go.WideShapes Go.ChangeAt Go.RowKit
set_option linter.unusedVariables false


theorem raw_box {w V : World} {a b c d : Int} {g : Nat} (h : V.heap[g]? = some (.cells #[.int .i64 a, .int .i64 b, .int .i64 c, .int .i64 d] 61 (0, 0))) :
    V.cell? ⟨g, 0, none⟩ = some (.int .i64 a) ∧ V.cell? ⟨g, 1, none⟩ = some (.int .i64 b) ∧ V.cell? ⟨g, 2, none⟩ = some (.int .i64 c) ∧ V.cell? ⟨g, 3, none⟩ = some (.int .i64 d) ∧ g < V.heap.size :=
  ⟨by simp [World.cell?, h], by simp [World.cell?, h], by simp [World.cell?, h], by simp [World.cell?, h], (Array.getElem?_eq_some_iff.1 h).1⟩
theorem two_raws (X : World) (o p : Obj) : Below X.heap.size X ((X.alloc o).alloc p) ∧ ((X.alloc o).alloc p).heap[X.heap.size]? = some o ∧ ((X.alloc o).alloc p).heap[X.heap.size + 1]? = some p := by
  refine ⟨below_allocR (below_allocR (Below.refl _ _) _) _, ?_, ?_⟩
  · rw [Below.heap_alloc _ _ _ (by simp)]; exact Go.Deep.blk_alloc_new _ _
  · have := Go.Deep.blk_alloc_new (X.alloc o) p
    simpa using this

set_option maxRecDepth 100000 in
set_option maxHeartbeats 8000000 in
theorem topWalls_walk (a : Option Addr) (rs : List Rw) (cap : Nat) (R : Rw) (a2 : Option Addr) (ts : List Rw) (cap2 : Nat) (S : Rw) (wd fu : Int) (w : World) (hl : rs.length ≤ maxLen) (hx : RawsAt w a rs) (hR : R.Ok)
    (hl2 : ts.length ≤ maxLen) (hx2 : RawsAt w a2 ts) (hS : S.Ok) (ww : (Lit.int .i64 wd).wf = true) (wf : (Lit.int .i64 fu).wf = true) (ht : Tab w) :
    Calls Tryz.prog 10 #[.slice a rs.length cap, R.val, .slice a2 ts.length cap2, S.val, .int .i64 wd, .int .i64 fu] w fun e w' => e = .returned (.bool true) ∧ Below w.heap.size w w' := by
  obtain ⟨rk, ra, rb, rc⟩ := R
  obtain ⟨sk, sa, sb, sc⟩ := S
  obtain ⟨W2, hW2⟩ : ∃ W2, Hid (W2 = (w.alloc (.cells #[.int .i64 rk, .int .i64 ra, .int .i64 rb, .int .i64 rc] 61)).alloc (.cells #[.int .i64 sk, .int .i64 sa, .int .i64 sb, .int .i64 sc] 61)) := ⟨_, rfl⟩
  obtain ⟨bw, bR, bS⟩ := two_raws w (.cells #[.int .i64 rk, .int .i64 ra, .int .i64 rb, .int .i64 rc] 61) (.cells #[.int .i64 sk, .int .i64 sa, .int .i64 sb, .int .i64 sc] 61)
  rw [← hW2.out] at bw bR bS
  have B2 : Hid (Below w.heap.size w W2) := bw
  have BS : Hid (_) := bS
  have hI1 := image_any a rs cap ⟨rk, ra, rb, rc⟩ W2 hl (hx.below bw) hR
  have hI2 := fun w' (hb : Below W2.heap.size W2 w') => image_any a2 ts cap2 ⟨sk, sa, sb, sc⟩ w' hl2 (hx2.below (bw.trans (hb.mono bw.size))) hS
  unfold Rw.val at hI1 hI2 ⊢
  dsimp only at hI1 hI2 ⊢
  obtain ⟨r0, r1, r2, r3, rl⟩ := raw_box (w := w) bR
  have HT : Hid (Tab w) := ht
  have hpw := pick_lt wd (many := 65536) (by omega)
  have hpf := pick_lt fu (many := 200) (by omega)
  have hP := fun n many w' h1 h2 h3 => Picked_any n many w' h1 h2 h3
  obtain ⟨n0, hn0⟩ : ∃ n0, Hid (pick wd 65536 = n0) := ⟨_, rfl⟩
  obtain ⟨f0, hf0⟩ : ∃ f0 : Nat, Hid (pick fu 200 = (f0 : Int)) := ⟨(pick fu 200).toNat, show _ = _ by omega⟩
  have HP1 : Hid (∀ w', Calls Tryz.prog 35 #[.int .i64 wd, .int .i64 65536] w' fun e w'' => e = .returned (.int .i64 n0) ∧ w' = w'') := fun w' => by rw [← hn0.out]; exact Picked_any wd 65536 w' ww (by omega) (by omega)
  have HP2 : Hid (∀ w', Calls Tryz.prog 35 #[.int .i64 fu, .int .i64 200] w' fun e w'' => e = .returned (.int .i64 (f0 : Int)) ∧ w' = w'') := fun w' => by rw [← hf0.out]; exact Picked_any fu 200 w' wf (by omega) (by omega)
  rw [hn0.out] at hpw
  rw [hf0.out] at hpf
  clear hx hx2 hR hS ht hn0 hf0 bw bR bS hP ww wf
  go_enter Tryz.func10, Tryz.ntmps10
  go_upto_region 1 with fail
  rw [← hW2.out]
  clear hW2
  go_upto_region 2 with (go_at_call 25; refine hI1.mono ?_; clear hI1; rintro e w1 ⟨b1, ps, cp, rfl, hpa1, hif1, h41, hb1⟩)
  have hI2' := hI2 w1 hb1
  obtain ⟨s0, s1, s2, s3, sl⟩ := raw_box (w := w) ((hb1.block _ (Array.getElem?_eq_some_iff.1 BS.out).1).trans BS.out)
  have HB1 : Hid (Below W2.heap.size W2 w1) := hb1
  have HPA1 : Hid (_) := hpa1
  have HIF1 : Hid (_) := hif1
  clear r0 r1 r2 r3 rl hI2 hb1 hpa1 hif1 BS
  go_upto_region 3 with (go_at_call 25; refine hI2'.mono ?_; clear hI2'; rintro e w2 ⟨b2, qs, cq, rfl, hpa2, hif2, h42, hb2⟩)
  have HB2 : Hid (Below W2.heap.size W2 w2) := show Below _ _ _ from HB1.out.trans (hb2.mono HB1.out.size)
  have hps := image_len HIF1.out
  have hqs := image_len hif2
  have hpl1 := plan_good b1 ps cp 1 0 w2 (by unfold maxLen; omega) (HPA1.out.below hb2) (by unfold planE; rw [if_pos HIF1.out, if_pos]; rw [Bool.and_eq_true]; exact ⟨by decide, inB_iff.2 ⟨by omega, by omega⟩⟩)
  have hpl2 := fun w' (hb : Below w2.heap.size w2 w') => plan_good b2 qs cq 2 10 w' (by unfold maxLen; omega) (hpa2.below hb) (by unfold planE; rw [if_pos hif2, if_pos]; rw [Bool.and_eq_true]; exact ⟨by decide, inB_iff.2 ⟨by omega, by omega⟩⟩)
  have HPA2 : Hid (_) := hpa2
  have HIF2 : Hid (_) := hif2
  clear s0 s1 s2 s3 sl hb2 hpa2 hif2
  go_upto_region 4 with (go_at_call 24; refine hpl1.mono ?_; clear hpl1; rintro e w3 ⟨v1, rfl, hown1, hb3⟩)
  obtain ⟨xa, xc, rfl, hrow1⟩ := acts_row hown1
  have hpl2' := hpl2 w3 hb3
  have hll1 := plan_len HIF1.out 1 0
  have HO1 : Hid (RowsAt w3 7 Ac.cells xa (planL ps 1 0)) := hrow1
  have HB3 : Hid (Below w2.heap.size w2 w3) := hb3
  clear hpl2 hown1 hrow1 hb3
  obtain ⟨PX, hPX⟩ : ∃ PX, Hid (PX = planL ps 1 0) := ⟨_, rfl⟩
  rw [← hPX.out] at HO1 hll1 ⊢
  go_upto_region 5 with (go_at_call 24; refine hpl2'.mono ?_; clear hpl2'; rintro e w4 ⟨v2, rfl, hown2, hb4⟩)
  obtain ⟨ya, yc, rfl, hrow2⟩ := acts_row hown2
  have hll2 := plan_len HIF2.out 2 10
  obtain ⟨PY, hPY⟩ : ∃ PY, Hid (PY = planL qs 2 10) := ⟨_, rfl⟩
  rw [← hPY.out] at hrow2 hll2 ⊢
  have HO2 : Hid (RowsAt w4 7 Ac.cells ya PY) := hrow2
  have HO1' : Hid (RowsAt w4 7 Ac.cells xa PX) := RowsAt.below (cells := Ac.cells) (fun _ => rfl) HO1.out hb4
  have HB4 : Hid (Below W2.heap.size W2 w4) := show Below _ _ _ from (HB2.out.trans (HB3.out.mono HB2.out.size)).trans (hb4.mono (Nat.le_trans HB2.out.size HB3.out.size))
  have HW4 : Hid (Below w.heap.size w w4) := show Below _ _ _ from B2.out.trans (HB4.out.mono B2.out.size)
  have HP4 : Hid (PagesAt w4 b2 qs) := (HPA2.out.below HB3.out).below hb4
  obtain ⟨N, hT2, hN⟩ := two_planned HIF1.out HIF2.out
  rw [← hPX.out, ← hPY.out] at hN
  have HTN : Hid (Two N ps qs) := hT2
  have hst := hN ⟨none, [], 0, none, [], 0⟩
  have e0 : hs0 [] = ⟨newM, ⟨none, [], 0, none, [], 0⟩⟩ := rfl
  obtain ⟨L, hL⟩ : ∃ L, Hid (L = PX ++ PY) := ⟨_, rfl⟩
  have hLl : L.length ≤ 164 := by rw [hL.out, List.length_append]; omega
  rw [← hL.out] at hst
  have HOK : Hid (∀ x ∈ L, x.Ok) := fun x hx => by
    rw [hL.out, hPX.out, hPY.out] at hx
    rcases List.mem_append.1 hx with h | h
    · exact plan_ok HIF1.out ⟨by omega, by omega⟩ ⟨by omega, by omega⟩ x h
    · exact plan_ok HIF2.out ⟨by omega, by omega⟩ ⟨by omega, by omega⟩ x h
  have HRUN : Hid (∀ la lc w', RowsAt w' 7 Ac.cells la L → Below w.heap.size w w' → Calls Tryz.prog 13 #[.slice none 0 0, .slice la L.length lc] w' fun y w'' => ∃ aa acap n, ∃ M : Mv, ∃ C : Cv, y = .returned (.tuple #[.slice aa n acap, M.val, C.val, .int .i64 0]) ∧ M.Same N ∧ Owned w'.heap.size w'' M ∧ Below w'.heap.size w' w'') := fun la lc w' hrow hb => by
    have hrun := runH_any none [] 0 la L lc w' (.inl rfl) ⟨by simp [maxLen], fun s hs => by simp at hs, by simp, fun x hx => by simp at hx⟩ hrow (by unfold maxLen; omega) HOK.out (HT.out.below hb)
    have hR0 := runF_nil (l := L) (by omega)
    unfold HostSaid at hrun
    rw [hR0, if_pos rfl, if_pos rfl, if_pos rfl, e0, hst.1] at hrun
    refine hrun.mono ?_
    rintro y w'' ⟨aa, acap, zs, M, C, rfl, hzr, rfl, hMs, hCs, hO, hCO, hb3⟩
    exact ⟨aa, acap, _, M, C, rfl, hMs, hO, hb3⟩
  have HCON : Hid (∀ w', w'.heap[w4.heap.size]? = some (.cells #[.slice xa PX.length xc, .slice ya PY.length yc] 23 (0, 0)) → Below w4.heap.size w4 w' → Calls Tryz.prog 36 #[.slice (some ⟨w4.heap.size, 0, none⟩) 2 2] w' fun e w'' => ∃ v, e = .returned v ∧ Owns w'' w'.heap.size v L ∧ Below w'.heap.size w' w'') := fun w' hblk hb => by
    have h := concat_acts (some ⟨w4.heap.size, 0, none⟩) [⟨xa, PX, xc⟩, ⟨ya, PY, yc⟩] 2 w' (by simp) (by
      refine .inr ⟨w4.heap.size, 0, rfl, fun j hj i hi => ?_⟩
      match j, hj, i, hi with
      | 0, _, 0, _ => simp [World.cell?, hblk, Pt.cells]
      | 1, _, 0, _ => simp [World.cell?, hblk, Pt.cells]) (fun p hp => by
      simp only [List.mem_cons, List.not_mem_nil, or_false] at hp
      rcases hp with rfl | rfl
      · exact RowsAt.below (cells := Ac.cells) (fun _ => rfl) HO1'.out hb
      · exact RowsAt.below (cells := Ac.cells) (fun _ => rfl) HO2.out hb) (by simp; omega)
    have e2 : [(⟨xa, PX, xc⟩ : Pt), ⟨ya, PY, yc⟩].flatMap Pt.l = L := by rw [hL.out]; simp
    rw [e2] at h
    exact h
  clear hown2 hrow2 hb4 hst hN hT2 e0 HO1 HO2
  have hB0 := HB4.out
  have HCB : Hid (Below w4.heap.size w4 (w4.alloc (.cells #[.slice xa PX.length xc, .slice ya PY.length yc] 23))) := (Below.refl _ _).alloc (Nat.le_refl _) _
  have hcon := HCON.out (w4.alloc (.cells #[.slice xa PX.length xc, .slice ya PY.length yc] 23)) (Go.Deep.blk_alloc_new _ _) HCB.out
  go_upto_region 6 with (first
    | (go_at_call 36; refine hcon.mono ?_; clear hcon; rintro e w5 ⟨v5, rfl, hown5, hb5⟩; (obtain ⟨la, lc, rfl, hrow5⟩ := acts_row hown5); have HB5 : Hid (Below w4.heap.size w4 w5) := HCB.out.trans (hb5.mono HCB.out.size); have hrun := HRUN.out la lc w5 hrow5 (HW4.out.trans (HB5.out.mono HW4.out.size)); clear hown5 hb5 hrow5)
    | (go_at_call 13; refine hrun.mono ?_; clear hrun; rintro y w6 ⟨aa, acap, n6, M, C, rfl, hMs, hO, hb6⟩; unfold Mv.val Cv.val))
  obtain ⟨W6, hW6⟩ : ∃ W6, Hid (W6 = (w6.alloc (.cells #[.slice M.fa M.frs.length M.fcap, .slice M.ea M.ens.length M.ecap, .slice M.qa M.qus.length M.qcap] 29)).alloc (.cells #[.slice C.ta C.tr.length C.tcap, .slice C.na C.ns.length C.ncap] 32)) := ⟨_, rfl⟩
  rw [← hW6.out]
  obtain ⟨bx, aB, _⟩ := two_raws w6 (.cells #[.slice M.fa M.frs.length M.fcap, .slice M.ea M.ens.length M.ecap, .slice M.qa M.qus.length M.qcap] 29) (.cells #[.slice C.ta C.tr.length C.tcap, .slice C.na C.ns.length C.ncap] 32)
  rw [← hW6.out] at bx aB
  obtain ⟨P, hP⟩ : ∃ P, Hid (P = w6.heap.size) := ⟨_, rfl⟩
  obtain ⟨P2, hP2⟩ : ∃ P2, Hid (P2 = w6.heap.size + 1) := ⟨_, rfl⟩
  rw [← hP2.out, ← hP.out]
  rw [← hP.out] at aB
  have B56 : Hid (Below w5.heap.size w5 W6) := show Below _ _ _ from hb6.trans (bx.mono hb6.size)
  have BW6 : Hid (Below w.heap.size w W6) := show Below _ _ _ from (HW4.out.trans (HB5.out.mono HW4.out.size)).trans (B56.out.mono (Nat.le_trans HW4.out.size HB5.out.size))
  have HP6 : Hid (PagesAt W6 b2 qs) := (HP4.out.below HB5.out).below B56.out
  have MB : Hid (MBox w5.heap.size W6 P M) := show MBox _ _ _ _ from MBox.of_block (t := 29) (hO.below bx) aB (fun q => by have h1 := (Mine.fresh hO q).2; have h2 := hP.out; omega)
  have HMS : Hid (M.Same N) := hMs
  obtain ⟨hz0, hwall⟩ := wall_run HTN.out HIF2.out (word := n0) (by omega) (f := f0) (by omega)
  have HWALL : Hid (_) := hwall
  have hEn := fun w' (hb : Below W6.heap.size W6 w') => enter_any M 1 n0 (f0 : Int) w' ((MB.out.own.below hb).at_) (fits_goodH HTN.out.good HMS.out)
  rw [entF_same HMS.out, hz0] at hEn
  obtain ⟨nd, hnd⟩ : ∃ nd, Hid (nd = entD M 1 n0 (f0 : Int)) := ⟨_, rfl⟩
  obtain ⟨vv, hvv⟩ : ∃ vv, Hid (vv = entV M 1 n0 (f0 : Int)) := ⟨_, rfl⟩
  obtain ⟨T, hT⟩ : ∃ T, Hid (T = entM M 1 n0 (f0 : Int)) := ⟨_, rfl⟩
  rw [← hnd.out, ← hvv.out, ← hT.out] at hEn
  unfold Mv.val at hEn
  have c0 := MB.out.c0
  have c1 := MB.out.c1
  have c2 := MB.out.c2
  have lP := MB.out.lt
  have hP1 := HP1.out
  have hP2' := HP2.out
  have n1 := World.new_ne W6 ⟨P, 0, none⟩ c0
  dsimp only at n1
  have n2 : ¬ P = W6.heap.size + 1 := by omega
  have n3 : ¬ W6.heap.size + 1 = P := by omega
  have LP : Hid (P < W6.heap.size) := lP
  have GG : Hid (∀ w', Below W6.heap.size W6 w' → w'.cell? ⟨P, 0, none⟩ = some (.slice M.fa M.frs.length M.fcap) ∧ w'.cell? ⟨P, 1, none⟩ = some (.slice M.ea M.ens.length M.ecap) ∧ w'.cell? ⟨P, 2, none⟩ = some (.slice M.qa M.qus.length M.qcap)) := fun w' hb => by
    have h := MB.out.keep hb
    exact ⟨h.c0, h.c1, h.c2⟩
  clear hW6 bx aB hP hP2 hb6 hO hMs hz0 hwall hB0 HRUN HCON
  go_cut [23, 24, 25] (fun p q z wx => ∃ (X : Mv) (g1 g2 : Nat), p = .pointer (some ⟨g1, 0, none⟩) ∧ q = .pointer (some ⟨g2, 0, none⟩) ∧ z = .int .i64 0 ∧ X.Same T ∧ MadeR 0 W6 wx X g1 g2 nd vv)
  case first =>
    go_region_held3 (fun w' => w'.cell? ⟨P, 0, none⟩ = some (.slice M.fa M.frs.length M.fcap) ∧ w'.cell? ⟨P, 1, none⟩ = some (.slice M.ea M.ens.length M.ecap) ∧ w'.cell? ⟨P, 2, none⟩ = some (.slice M.qa M.qus.length M.qcap)) (first | (with_reducible exact ⟨c0, c1, c2⟩) | (with_reducible exact ⟨d0, d1, d2⟩) | go_keep)
      (first
      | (go_at_call 35; refine (hP1 _).mono ?_; clear hP1; rintro e w7 ⟨rfl, rfl⟩)
      | (go_at_call 35; refine (hP2' _).mono ?_; clear hP2'; rintro e w7 ⟨rfl, rfl⟩)
      | (go_at_call 21; refine (hEn _ (by repeat (first | (with_reducible exact Below.refl _ _) | (with_reducible refine Below.drew ?_) | (with_reducible refine below_alloc ?_ _)))).mono ?_; clear hEn; rintro e w7 ⟨X, rfl, hSX, hOX, hb7⟩; unfold Mv.val; have HB7 : Hid (Below W6.heap.size W6 w7) := Below.trans (by repeat (first | (with_reducible exact Below.refl _ _) | (with_reducible refine Below.drew ?_) | (with_reducible refine below_alloc ?_ _))) (hb7.mono (by first | exact Nat.le_refl _ | (simp; done) | (simp; omega))); obtain ⟨d0, d1, d2⟩ := GG.out w7 HB7.out; have HMX : Hid (∀ c, Mine X c → _ ≤ c ∧ c < w7.heap.size) := (fun c hc => Mine.fresh hOX hc); have HOX : Hid (Owned 0 w7 X) := hOX.mono (Nat.zero_le _); have HSX : Hid (X.Same T) := hSX; have n4 : ¬ P = w7.heap.size := (by have h1 := LP.out; have h2 := HB7.out.size; omega); have n5 : ¬ w7.heap.size = P := (by have h1 := LP.out; have h2 := HB7.out.size; omega); have n6 : ¬ P = w7.heap.size + 1 := (by have h1 := LP.out; have h2 := HB7.out.size; omega); have n7 : ¬ w7.heap.size + 1 = P := (by have h1 := LP.out; have h2 := HB7.out.size; omega); (first | ((with_reducible_and_instances have zz := zAB hb7); obtain ⟨zm, zo⟩ := zz; have ZMM : Hid (_) := zm; have ZOO : Hid (_) := zo; have m0 := zm.c0; have m1 := zm.c1; have m2 := zm.c2; have y0 := zm.fz 0; have y1 := zm.fz 1; have y2 := zm.fz 2; have lm := zm.lt; clear zm; have o0 := zo.c0; have o1 := zo.c1; have y3 := zo.fz 0; have y4 := zo.fz 1; have lo := zo.lt; clear zo) | ((with_reducible_and_instances have zz := zBA hb7); obtain ⟨zo, zm⟩ := zz; have ZMM : Hid (_) := zm; have ZOO : Hid (_) := zo; have m0 := zm.c0; have m1 := zm.c1; have m2 := zm.c2; have y0 := zm.fz 0; have y1 := zm.fz 1; have y2 := zm.fz 2; have lm := zm.lt; clear zm; have o0 := zo.c0; have o1 := zo.c1; have y3 := zo.fz 0; have y4 := zo.fz 1; have lo := zo.lt; clear zo) | ((with_reducible_and_instances have zm := zA hb7); have ZMM : Hid (_) := zm; have m0 := zm.c0; have m1 := zm.c1; have m2 := zm.c2; have y0 := zm.fz 0; have y1 := zm.fz 1; have y2 := zm.fz 2; have lm := zm.lt; clear zm) | ((with_reducible_and_instances have zo := zB hb7); have ZOO : Hid (_) := zo; have o0 := zo.c0; have o1 := zo.c1; have y3 := zo.fz 0; have y4 := zo.fz 1; have lo := zo.lt; clear zo) | skip); clear hb7 hOX hSX)
      | fail)
    all_goals
      go_wp2_with fail
      go_meet
      case rel =>
        refine ⟨X, _, _, rfl, rfl, rfl, HSX.out, ?_⟩
        first
        | (with_reducible refine madeR5 HOX.out HB7.out)
        | (with_reducible refine madeR6 HOX.out HB7.out)
        | (with_reducible refine madeR3 ZMM.out HOX.out ?_ HB7.out ?_) <;> first | omega | (intro q; have h1 := (HMX.out _ q).1; simp at h1; omega)
        | (with_reducible refine madeR4 ZOO.out HOX.out ?_ HB7.out ?_) <;> first | omega | (intro q; have h1 := (HMX.out _ q).1; simp at h1; omega)
        | (with_reducible refine madeR1 ZMM.out ZOO.out HOX.out ?_ ?_ ?_ HB7.out ?_ ?_) <;> first | omega | (intro q; have h1 := (HMX.out _ q).1; simp at h1; omega)
  case rest =>
  obtain ⟨X, g1, g2, rfl, rfl, rfl, hXT, hmade⟩ := hcut
  rename World => W7
  have HB7 : Hid (Below W6.heap.size W6 W7) := hmade.2.2
  have XB : Hid (MBox 0 W7 g1 X) := hmade.1
  have MB7 : Hid (MBox w5.heap.size W7 P M) := show MBox _ _ _ _ from MB.out.keep HB7.out
  have hX0 : X.Same (entM N 1 n0 (f0 : Int)) := hXT.trans (by rw [hT.out]; exact entM_same HMS.out _ _ _)
  have HX0 : Hid (_) := hX0
  have hg := good_iff.1 HTN.out.good
  have hX24 : X.frs.length = 24 := hX0.len.trans (HWALL.out.len.trans hg.s1)
  have hM24 : M.frs.length = 24 := HMS.out.len.trans hg.s1
  have hXe : X.ens.length = 4 := (congrArg List.length hX0.en).trans (HWALL.out.elen.trans hg.s2)
  have hMe : M.ens.length = 4 := (congrArg List.length HMS.out.en).trans hg.s2
  have he1 : X.ens.getD 1 default = M.ens.getD 1 default := by rw [hX0.en, HWALL.out.e1, HMS.out.en]
  have he0 : (X.ens.getD 0 default).log = (M.ens.getD 0 default).log := by rw [hX0.en, HWALL.out.log, HMS.out.en]
  have hHas : hasB X.frs 2 qs = true := hasB_same hX0 HWALL.out.has
  have hH := fun w' (hb : Below W7.heap.size W7 w') => has_any X 2 b2 qs cq w' (XB.out.own.below hb).at_ hX24 (by omega) ((HP6.out.below HB7.out).below hb)
  rw [hHas] at hH
  unfold Mv.val at hH
  obtain ⟨xb, xo, hxa, x0, x1, x2, x3, x4, x5, x6⟩ := XB.out.own.at_.enclave (j := 1) (by omega)
  obtain ⟨mb, mo, hma, m0, m1, m2, m3, m4, m5, m6⟩ := MB7.out.own.at_.enclave (j := 1) (by omega)
  obtain ⟨xb', xo', hxa', _, y1, _⟩ := XB.out.own.at_.enclave (j := 0) (by omega)
  obtain ⟨mb', mo', hma', _, n1, _⟩ := MB7.out.own.at_.enclave (j := 0) (by omega)
  obtain ⟨rfl, rfl⟩ : xb = xb' ∧ xo = xo' := by have h := hxa.symm.trans hxa'; simp only [Option.some.injEq, Addr.mk.injEq, and_true] at h; exact h
  obtain ⟨rfl, rfl⟩ : mb = mb' ∧ mo = mo' := by have h := hma.symm.trans hma'; simp only [Option.some.injEq, Addr.mk.injEq, and_true] at h; exact h
  rw [he1] at x0 x1 x2 x3 x4 x5 x6
  rw [he0] at y1
  generalize M.ens.getD 1 default = E1 at x0 x1 x2 x3 x4 x5 x6 m0 m1 m2 m3 m4 m5 m6
  generalize (M.ens.getD 0 default).log = lg0 at y1 n1
  obtain ⟨st, lg, pc, q0, q1, q2, q3⟩ := E1
  dsimp only at x0 x1 x2 x3 x4 x5 x6 m0 m1 m2 m3 m4 m5 m6
  simp only [Nat.zero_mul, Nat.one_mul, Nat.add_zero] at x0 x1 x2 x3 x4 x5 x6 m0 m1 m2 m3 m4 m5 m6 y1 n1
  have hE : ∀ w', (Op.equalIn 10000 58 (.agg #[.int .i64 st, .string lg, .int .i64 pc, .int .i64 q0, .int .i64 q1, .int .i64 q2, .int .i64 q3]) (.agg #[.int .i64 st, .string lg, .int .i64 pc, .int .i64 q0, .int .i64 q1, .int .i64 q2, .int .i64 q3])).run Tryz.prog w' = .ok true w' := fun w' => by
    have := eq_enclave 9997 st pc q0 q1 q2 q3 st pc q0 q1 q2 q3 lg lg w'
    simpa using this
  have hq : (lg0.toList == lg0.toList) = true := beq_self_eq_true _
  have p0 := XB.out.c0
  have p1 := XB.out.c1
  have p2 := XB.out.c2
  have c1 := MB7.out.c1
  rw [hXe, hxa] at p1
  rw [hMe, hma] at c1
  rw [hX24] at p0 hH
  rw [hXe, hxa] at hH
  clear hX24 hM24 he1 he0 hHas hXT hmade
  have GG : Hid (∀ w', Below W7.heap.size W7 w' → w'.cell? ⟨g1, 0, none⟩ = some (.slice X.fa 24 X.fcap) ∧ w'.cell? ⟨g1, 1, none⟩ = some (.slice (some ⟨xb, xo, none⟩) 4 X.ecap) ∧ w'.cell? ⟨g1, 2, none⟩ = some (.slice X.qa X.qus.length X.qcap) ∧ w'.cell? ⟨P, 1, none⟩ = some (.slice (some ⟨mb, mo, none⟩) 4 M.ecap) ∧ w'.cell? ⟨xb, xo + 7, none⟩ = some (.int .i64 st) ∧ w'.cell? ⟨xb, xo + 7 + 1, none⟩ = some (.string lg) ∧ w'.cell? ⟨xb, xo + 7 + 2, none⟩ = some (.int .i64 pc) ∧ w'.cell? ⟨xb, xo + 7 + 3, none⟩ = some (.int .i64 q0) ∧ w'.cell? ⟨xb, xo + 7 + 4, none⟩ = some (.int .i64 q1) ∧ w'.cell? ⟨xb, xo + 7 + 5, none⟩ = some (.int .i64 q2) ∧ w'.cell? ⟨xb, xo + 7 + 6, none⟩ = some (.int .i64 q3) ∧ w'.cell? ⟨mb, mo + 7, none⟩ = some (.int .i64 st) ∧ w'.cell? ⟨mb, mo + 7 + 1, none⟩ = some (.string lg) ∧ w'.cell? ⟨mb, mo + 7 + 2, none⟩ = some (.int .i64 pc) ∧ w'.cell? ⟨mb, mo + 7 + 3, none⟩ = some (.int .i64 q0) ∧ w'.cell? ⟨mb, mo + 7 + 4, none⟩ = some (.int .i64 q1) ∧ w'.cell? ⟨mb, mo + 7 + 5, none⟩ = some (.int .i64 q2) ∧ w'.cell? ⟨mb, mo + 7 + 6, none⟩ = some (.int .i64 q3) ∧ w'.cell? ⟨xb, xo + 1, none⟩ = some (.string lg0) ∧ w'.cell? ⟨mb, mo + 1, none⟩ = some (.string lg0)) := fun w' hb => ⟨(hb.cell (p := ⟨g1, 0, none⟩) (lt_of_cell p0)).trans p0, (hb.cell (p := ⟨g1, 1, none⟩) (lt_of_cell p1)).trans p1, (hb.cell (p := ⟨g1, 2, none⟩) (lt_of_cell p2)).trans p2, (hb.cell (p := ⟨P, 1, none⟩) (lt_of_cell c1)).trans c1, (hb.cell (p := ⟨xb, xo + 7, none⟩) (lt_of_cell x0)).trans x0, (hb.cell (p := ⟨xb, xo + 7 + 1, none⟩) (lt_of_cell x1)).trans x1, (hb.cell (p := ⟨xb, xo + 7 + 2, none⟩) (lt_of_cell x2)).trans x2, (hb.cell (p := ⟨xb, xo + 7 + 3, none⟩) (lt_of_cell x3)).trans x3, (hb.cell (p := ⟨xb, xo + 7 + 4, none⟩) (lt_of_cell x4)).trans x4, (hb.cell (p := ⟨xb, xo + 7 + 5, none⟩) (lt_of_cell x5)).trans x5, (hb.cell (p := ⟨xb, xo + 7 + 6, none⟩) (lt_of_cell x6)).trans x6, (hb.cell (p := ⟨mb, mo + 7, none⟩) (lt_of_cell m0)).trans m0, (hb.cell (p := ⟨mb, mo + 7 + 1, none⟩) (lt_of_cell m1)).trans m1, (hb.cell (p := ⟨mb, mo + 7 + 2, none⟩) (lt_of_cell m2)).trans m2, (hb.cell (p := ⟨mb, mo + 7 + 3, none⟩) (lt_of_cell m3)).trans m3, (hb.cell (p := ⟨mb, mo + 7 + 4, none⟩) (lt_of_cell m4)).trans m4, (hb.cell (p := ⟨mb, mo + 7 + 5, none⟩) (lt_of_cell m5)).trans m5, (hb.cell (p := ⟨mb, mo + 7 + 6, none⟩) (lt_of_cell m6)).trans m6, (hb.cell (p := ⟨xb, xo + 1, none⟩) (lt_of_cell y1)).trans y1, (hb.cell (p := ⟨mb, mo + 1, none⟩) (lt_of_cell n1)).trans n1⟩
  have hG0 := GG.out W7 (Below.refl _ _)
  obtain ⟨p0, p1, p2, c1, x0, x1, x2, x3, x4, x5, x6, m0, m1, m2, m3, m4, m5, m6, y1, n1⟩ := hG0
  have lg1 := XB.out.lt
  have lpp := MB7.out.lt
  go_upto_region 7 with fail
  go_region_held3 (fun w' => w'.cell? ⟨g1, 0, none⟩ = some (.slice X.fa 24 X.fcap) ∧ w'.cell? ⟨g1, 1, none⟩ = some (.slice (some ⟨xb, xo, none⟩) 4 X.ecap) ∧ w'.cell? ⟨g1, 2, none⟩ = some (.slice X.qa X.qus.length X.qcap) ∧ w'.cell? ⟨P, 1, none⟩ = some (.slice (some ⟨mb, mo, none⟩) 4 M.ecap) ∧ w'.cell? ⟨xb, xo + 7, none⟩ = some (.int .i64 st) ∧ w'.cell? ⟨xb, xo + 7 + 1, none⟩ = some (.string lg) ∧ w'.cell? ⟨xb, xo + 7 + 2, none⟩ = some (.int .i64 pc) ∧ w'.cell? ⟨xb, xo + 7 + 3, none⟩ = some (.int .i64 q0) ∧ w'.cell? ⟨xb, xo + 7 + 4, none⟩ = some (.int .i64 q1) ∧ w'.cell? ⟨xb, xo + 7 + 5, none⟩ = some (.int .i64 q2) ∧ w'.cell? ⟨xb, xo + 7 + 6, none⟩ = some (.int .i64 q3) ∧ w'.cell? ⟨mb, mo + 7, none⟩ = some (.int .i64 st) ∧ w'.cell? ⟨mb, mo + 7 + 1, none⟩ = some (.string lg) ∧ w'.cell? ⟨mb, mo + 7 + 2, none⟩ = some (.int .i64 pc) ∧ w'.cell? ⟨mb, mo + 7 + 3, none⟩ = some (.int .i64 q0) ∧ w'.cell? ⟨mb, mo + 7 + 4, none⟩ = some (.int .i64 q1) ∧ w'.cell? ⟨mb, mo + 7 + 5, none⟩ = some (.int .i64 q2) ∧ w'.cell? ⟨mb, mo + 7 + 6, none⟩ = some (.int .i64 q3) ∧ w'.cell? ⟨xb, xo + 1, none⟩ = some (.string lg0) ∧ w'.cell? ⟨mb, mo + 1, none⟩ = some (.string lg0)) (first | (with_reducible exact ⟨p0, p1, p2, c1, x0, x1, x2, x3, x4, x5, x6, m0, m1, m2, m3, m4, m5, m6, y1, n1⟩) | (with_reducible exact hG1) | go_keep)
    (first
    | (go_at_call 34; refine (hH _ (by repeat (first | (with_reducible exact Below.refl _ _) | (with_reducible refine Below.drew ?_)))).mono ?_; clear hH; rintro e w8 ⟨rfl, hb8⟩; have HB8 : Hid (Below W7.heap.size W7 w8) := Below.trans (by repeat (first | (with_reducible exact Below.refl _ _) | (with_reducible refine Below.drew ?_))) hb8; have hG1 := GG.out w8 HB8.out; clear hb8)
    | fail)
  clear hq hE hG1 p0 p1 p2 c1 x0 x1 x2 x3 x4 x5 x6 m0 m1 m2 m3 m4 m5 m6 y1 n1 lpp lg1 GG
  have hGM : Good M := good_iff.1 ((machF_same HMS.out).trans HTN.out.good)
  have XB8 : Hid (MBox 0 w8 g1 X) := show MBox _ _ _ _ from XB.out.keep HB8.out
  have MB8 : Hid (MBox w5.heap.size w8 P M) := show MBox _ _ _ _ from MB7.out.keep HB8.out
  have hM24 : M.frs.length = 24 := hGM.s1
  have hX24 : X.frs.length = 24 := HX0.out.len.trans (HWALL.out.len.trans (good_iff.1 HTN.out.good).s1)
  have p0 := XB8.out.c0
  have c0 := MB8.out.c0
  rw [hX24] at p0
  rw [hM24] at c0
  have lg1 := XB8.out.lt
  have lpp := MB8.out.lt
  have HGM : Hid (_) := hGM
  have HXL : Hid (_) := hX24
  have HML : Hid (_) := hM24
  clear hGM hX24 hM24
  go_upto_region 10 with fail
  go_loopw [112] (fun i wr => ∃ j : Nat, j ≤ 24 ∧ i = .int .i64 j ∧ Below w8.heap.size w8 wr) (fun i _ => 24 - (intOf i).toNat)
  case atStart => exact ⟨0, Nat.zero_le _, rfl, Below.refl _ _⟩
  case round =>
    obtain ⟨j, hj, rfl, hbel⟩ := hrel
    have XBR : Hid (MBox 0 wr g1 X) := show MBox _ _ _ _ from XB8.out.keep hbel
    have MBR : Hid (MBox w5.heap.size wr P M) := show MBox _ _ _ _ from MB8.out.keep hbel
    clear p0 c0 lg1 lpp
    by_cases hlt : j < 24
    · have p0 := XBR.out.c0
      have lg1 := XBR.out.lt
      rw [HXL.out] at p0
      obtain ⟨xb, xo, hxa, x0, x1, x2, x3⟩ := XBR.out.own.at_.frame (j := j) (by rw [HXL.out]; exact hlt)
      obtain ⟨mb, mo, hma, m0, m1, m2, m3⟩ := MBR.out.own.at_.frame (j := j) (by rw [HML.out]; exact hlt)
      rw [hxa] at p0
      rw [hma]
      have okX := XBR.out.own.at_.frok j (by rw [HXL.out]; exact hlt)
      have okM := MBR.out.own.at_.frok j (by rw [HML.out]; exact hlt)
      have hoo : (X.frs.getD j default).o = (M.frs.getD j default).o := by rw [same_o HX0.out, HWALL.out.own, ← same_o HMS.out]
      have hww : (M.frs.getD j default).o = 1 → hasR (M.frs.getD j default).r 2 = false → (M.frs.getD j default).ws = (X.frs.getD j default).ws := fun h1 h2 => by
        rw [same_ws HX0.out, HWALL.out.ws j (by rw [← same_o HMS.out]; exact h1) (by rw [← same_r HMS.out]; intro q; unfold hasR at h2; rw [if_neg (by decide), if_pos rfl, q] at h2; exact absurd h2 (by decide)), same_ws HMS.out]
      have r7 := inB_iff.1 (goodFr_iff.1 (HGM.out.fr j hlt)).2.2.2.1
      have hand := and_has r7.1 r7.2 (right := 2) (by omega)
      have hEq0 := fun w' (hb : Below wr.heap.size wr w') => equal_any (M.frs.getD j default).a (X.frs.getD j default).a (M.frs.getD j default).ws (X.frs.getD j default).ws (M.frs.getD j default).cap (X.frs.getD j default).cap w' okM.len okX.len (okM.ints.below hb) (okX.ints.below hb)
      rw [hoo] at x0
      have lx := lt_of_cell x0
      have lm := lt_of_cell m0
      have hjI : (j : Int) < 24 := by omega
      have hj0 : (0 : Int) ≤ (j : Int) := by omega
      clear okX okM hoo hxa hma r7
      generalize X.frs.getD j default = F1 at x0 x1 x2 x3 hww hEq0
      generalize M.frs.getD j default = F2 at x0 m0 m1 m2 m3 hww hEq0 hand
      obtain ⟨o1, at1, r1, pa1, ws1, cap1⟩ := F1
      obtain ⟨o2, at2, r2, pa2, ws2, cap2⟩ := F2
      dsimp only at x0 x1 x2 x3 m0 m1 m2 m3 hww hEq0 hand
      by_cases ho : o2 = 1
      · cases hr : hasR r2 2 with
        | false =>
          have hw := hww ho hr
          subst hw
          rw [show decide (ws2 = ws2) = true from decide_eq_true rfl] at hEq0
          rw [hr] at hand
          have hEq := hEq0
          generalize ws2.length = nw at *
          have to_ : (o2 == 1) = true := by simpa using ho
          clear hww hEq0 hr ho
          go_wp2_with (go_at_call 30; refine (hEq _ (by repeat (first | (with_reducible exact Below.refl _ _) | (with_reducible refine Below.drew ?_) | (with_reducible refine below_alloc ?_ _)))).mono ?_; clear hEq; rintro e w9 ⟨rfl, n9, rfl⟩)
          go_roundw
          case rel => exact ⟨j + 1, by omega, by go_num, by first | exact below_drewN (below_alloc (below_alloc hbel _) _) _ | exact below_alloc (below_alloc hbel _) _⟩
          case measure => simp [intOf]; omega
        | true =>
          rw [hr] at hand
          have to_ : (o2 == 1) = true := by simpa using ho
          generalize ws2.length = nw2 at *
          generalize ws1.length = nw1 at *
          clear hww hEq0 hr ho
          go_wp2
          go_roundw
          case rel => exact ⟨j + 1, by omega, by go_num, by first | exact below_drewN (below_alloc (below_alloc hbel _) _) _ | exact below_alloc (below_alloc hbel _) _⟩
          case measure => simp [intOf]; omega
      · have to_ : (o2 == 1) = false := by simpa using ho
        generalize ws2.length = nw2 at *
        generalize ws1.length = nw1 at *
        clear hww hEq0 ho hand
        go_wp2
        go_roundw
        case rel => exact ⟨j + 1, by omega, by go_num, by first | exact below_drewN (below_alloc (below_alloc hbel _) _) _ | exact below_alloc (below_alloc hbel _) _⟩
        case measure => simp [intOf]; omega
    · have hge : ¬ ((j : Int) < 24) := by omega
      clear hlt
      go_wp2
      go_ret
      exact ⟨rfl, (BW6.out.trans ((HB7.out.trans (HB8.out.mono HB7.out.size)).mono BW6.out.size)).trans (hbel.mono (Nat.le_trans BW6.out.size (Nat.le_trans HB7.out.size HB8.out.size)))⟩

set_option maxRecDepth 100000 in
theorem topWalls_contract (H : Type) (enc : TypeId × Value → H) (W : World) (base : Nat) (args : Array Value) (ds gs : List (DataW H)) (before : List MemPlace)
    (hval0 : ∀ (j : Nat) t v, Tryz.f10.params[j]? = some t → args[j]? = some v → Value.okWide Tryz.prog W .any base t v)
    (hW : DataW.Whole enc Tryz.prog Tryz.f10.params.toList Rows.topWallsSpec.vars false W args.toList ds gs before) (hL : laidMetH Tryz.prog listed W)
    (hsz0 : (DataW.weightsEach Tryz.prog (Tryz.f10.params.toList ++ []) (ds ++ gs)).all (· ≤ reachBytes) = true) :
    Calls Tryz.prog 10 args W fun e W' => ∃ v, e = .returned v ∧ Rows.topWallsSpec.post enc Tryz.prog Tryz.f10 false true false false W args v W' := by
  have hval := hval0
  have hsz := hsz0
  have hW' := hW
  obtain ⟨p, q, hA0, hV, rfl, hfz, hnd⟩ := hW
  have hA : DataW.TrodAll enc Tryz.prog W 0 (fun _ => true) true Tryz.f10.params.toList args.toList ds p := hA0
  rw [Tryz.params10] at hA hval hsz
  obtain ⟨v0, vs0, d0, ds0, p0, q0, hargs, rfl, rfl, h0, r0⟩ := trodAll_cons hA
  obtain ⟨v1, vs1, d1, ds1, p1, q1, rfl, rfl, rfl, h1, r1⟩ := trodAll_cons r0
  obtain ⟨v2, vs2, d2, ds2, p2, q2, rfl, rfl, rfl, h2, r2⟩ := trodAll_cons r1
  obtain ⟨v3, vs3, d3, ds3, p3, q3, rfl, rfl, rfl, h3, r3⟩ := trodAll_cons r2
  obtain ⟨v4, vs4, d4, ds4, p4, q4, rfl, rfl, rfl, h4, r4⟩ := trodAll_cons r3
  obtain ⟨v5, vs5, d5, ds5, p5, q5, rfl, rfl, rfl, h5, r5⟩ := trodAll_cons r4
  obtain ⟨rfl, rfl, rfl⟩ := trodAll_nil r5
  obtain rfl : args = #[v0, v1, v2, v3, v4, v5] := by cases args; simp_all
  obtain ⟨rfl, rfl⟩ := trodVars_none hV
  have k0 := h0
  have lt0 : ∀ x ∈ p0, x.block < W.heap.size := by obtain ⟨m, hm⟩ := k0; exact DataW.trod_lt m _ _ _ hm
  obtain ⟨a0, len0, cap0, rfl⟩ := okWide_slice Tryz.underlying59 (hval 0 59 v0 rfl rfl)
  obtain ⟨rs0, hlen0, hmax0, hx0⟩ := open_raws h0
  subst hlen0
  have k1 := h1
  have lt1 : ∀ x ∈ p1, x.block < W.heap.size := by obtain ⟨m, hm⟩ := k1; exact DataW.trod_lt m _ _ _ hm
  obtain ⟨rw1, rfl, hr1⟩ := open_raw (hval 1 61 v1 rfl rfl) h1
  have k2 := h2
  have lt2 : ∀ x ∈ p2, x.block < W.heap.size := by obtain ⟨m, hm⟩ := k2; exact DataW.trod_lt m _ _ _ hm
  obtain ⟨a2, len2, cap2, rfl⟩ := okWide_slice Tryz.underlying59 (hval 2 59 v2 rfl rfl)
  obtain ⟨rs2, hlen2, hmax2, hx2⟩ := open_raws h2
  subst hlen2
  have k3 := h3
  have lt3 : ∀ x ∈ p3, x.block < W.heap.size := by obtain ⟨m, hm⟩ := k3; exact DataW.trod_lt m _ _ _ hm
  obtain ⟨rw3, rfl, hr3⟩ := open_raw (hval 3 61 v3 rfl rfl) h3
  have k4 := h4
  have lt4 : ∀ x ∈ p4, x.block < W.heap.size := by obtain ⟨m, hm⟩ := k4; exact DataW.trod_lt m _ _ _ hm
  obtain ⟨x4, rfl, rfl, rfl, wx4⟩ := open_int Tryz.underlying3 (hval 4 3 v4 rfl rfl) h4
  have k5 := h5
  have lt5 : ∀ x ∈ p5, x.block < W.heap.size := by obtain ⟨m, hm⟩ := k5; exact DataW.trod_lt m _ _ _ hm
  obtain ⟨x5, rfl, rfl, rfl, wx5⟩ := open_int Tryz.underlying3 (hval 5 3 v5 rfl rfl) h5
  clear hA0 hval0
  refine (topWalls_walk a0 rs0 cap0 rw1 a2 rs2 cap2 rw3 x4 x5 W hmax0 hx0 hr1 hmax2 hx2 hr3 wx4 wx5 (tab_of hL)).mono fun e W' ⟨he, bel⟩ => ?_
  subst he
  exact ⟨_, rfl, _, _, _, [], _, [], hW', trodAll_mk1 (shut_bool Tryz.underlying4 _), (trodAll_cons_mk (Below.trod laidOut (by kernel_rfl) (of_decide_eq_true (by kernel_rfl)) k0 bel lt0) (trodAll_cons_mk (Below.trod laidOut (by kernel_rfl) (of_decide_eq_true (by kernel_rfl)) k1 bel lt1) (trodAll_cons_mk (Below.trod laidOut (by kernel_rfl) (of_decide_eq_true (by kernel_rfl)) k2 bel lt2) (trodAll_cons_mk (Below.trod laidOut (by kernel_rfl) (of_decide_eq_true (by kernel_rfl)) k3 bel lt3) (trodAll_cons_mk (Below.trod laidOut (by kernel_rfl) (of_decide_eq_true (by kernel_rfl)) k4 bel lt4) (trodAll_cons_mk (Below.trod laidOut (by kernel_rfl) (of_decide_eq_true (by kernel_rfl)) k5 bel lt5) trodAll_mk0)))))), rfl, bel.frame _, fun h => by cases h⟩

theorem topWalls_laid (os : Os) : laidMet Tryz.prog listed ((laidWorld os).forCall (fun _ _ => 0) ⟨#[], #[.slice none 0 0, .agg #[.int .i64 0, .int .i64 0, .int .i64 0, .int .i64 0], .slice none 0 0, .agg #[.int .i64 0, .int .i64 0, .int .i64 0, .int .i64 0], .int .i64 0, .int .i64 0], []⟩).memory :=
  laidMet_of_run' 8 (by kernel_rfl) (by kernel_rfl)
theorem topWalls_reads (os : Os) {H : Type} (enc : TypeId × Value → H) : ∃ places, DataW.whole enc Tryz.prog ((laidWorld os).forCall (fun _ _ => 0) ⟨#[], #[.slice none 0 0, .agg #[.int .i64 0, .int .i64 0, .int .i64 0, .int .i64 0], .slice none 0 0, .agg #[.int .i64 0, .int .i64 0, .int .i64 0, .int .i64 0], .int .i64 0, .int .i64 0], []⟩).memory Tryz.f10.params.toList Rows.topWallsSpec.vars false (#[.slice none 0 0, .agg #[.int .i64 0, .int .i64 0, .int .i64 0, .int .i64 0], .slice none 0 0, .agg #[.int .i64 0, .int .i64 0, .int .i64 0, .int .i64 0], .int .i64 0, .int .i64 0] : Array Value).toList 8 = some ([.nil, .agg [.lit (.int .i64 0), .lit (.int .i64 0), .lit (.int .i64 0), .lit (.int .i64 0)], .nil, .agg [.lit (.int .i64 0), .lit (.int .i64 0), .lit (.int .i64 0), .lit (.int .i64 0)], .lit (.int .i64 0), .lit (.int .i64 0)], [], places) :=
  ⟨[], by kernel_rfl⟩

set_option maxRecDepth 100000 in
theorem topWalls_lifted (os : Os) (started : os.Started) (H : Type) (enc : TypeId × Value → H) (F : Stop.Interp) :
    ReturnsInHanded {} Tryz.checked os 10 .any ((OpenSpec.ofChange Rows.topWallsSpec).preRow enc Tryz.prog Tryz.f10 Rows.topWallsRow.domain false Rows.topWallsRow.laid) (((OpenSpec.ofChange Rows.topWallsSpec).at F).post enc Tryz.prog Tryz.f10 false true false false) := by
  obtain ⟨places, hx⟩ := topWalls_reads os enc
  refine returnsInHanded_of_row (C := Tryz.checked) (s := (OpenSpec.ofChange Rows.topWallsSpec)) own started (by kernel_rfl) Tryz.func10
    (witness_row_at (enc := enc) (C := Tryz.checked) false (laidWorld os) #[.slice none 0 0, .agg #[.int .i64 0, .int .i64 0, .int .i64 0, .int .i64 0], .slice none 0 0, .agg #[.int .i64 0, .int .i64 0, .int .i64 0, .int .i64 0], .int .i64 0, .int .i64 0] rfl (by kernel_rfl) (by kernel_rfl) (by kernel_rfl)
      (OpenSpec.preRow_of_cond 8 hx (by kernel_rfl) (fun k hk => by cases hk) (by kernel_rfl) (topWalls_laid os))) ?_
  intro W base args ds gs before hval hW _ hcond hsz hL _ _
  exact topWalls_contract H enc W base args ds gs before hval hW hL hsz

theorem topWalls_said : Rows.TopWallsSaid :=
  OpenClaim.holds_of_cond 10 Tryz.f10 rfl rfl rfl rfl rfl rfl rfl ⟨rfl, rfl, rfl, rfl, rfl⟩ rfl rfl rfl rfl rfl (by kernel_rfl) Tryz.func10 (by kernel_rfl)
    (of_decide_eq_true (by kernel_rfl)) (by unfold Func.isWrapper; first | (rw [if_pos (by decide +kernel)]; kernel_rfl) | (rw [if_neg (by decide +kernel)]; exact ⟨rfl, rfl⟩))
    (fun os started H enc _ F => by rw [OpenClaim.pre_eq_preRow]; exact topWalls_lifted os started H enc F)

theorem topWalls_plain (f : FuncId) (fn : Func) (hf : Tryz.pinned.checked.prog.funcNamed "riddle/riddletop.TopWalls" = some f) (hfn : Tryz.pinned.checked.prog.funcs[f]? = some fn) :
    false = Tryz.pinned.checked.prog.looks [] ∧ ∀ (j : Nat) t, fn.params[j]? = some t → Tryz.pinned.checked.prog.wantsStandIn t = false := by
  obtain rfl : f = 10 := Option.some.inj ((show Tryz.prog.funcNamed "riddle/riddletop.TopWalls" = some 10 by kernel_rfl).symm.trans hf) |>.symm
  obtain rfl : fn = Tryz.f10 := (Option.some.inj (Tryz.func10.symm.trans hfn)).symm
  refine ⟨by kernel_rfl, fun j t ht => ?_⟩
  rw [Tryz.params10] at ht
  have hm : t = 59 ∨ t = 61 ∨ t = 3 := by have h := Array.mem_of_getElem? ht; simp at h; rcases h with h | h | h | h | h <;> simp [h]
  rcases hm with rfl | rfl | rfl
  · exact (show Tryz.prog.wantsStandIn 59 = false by kernel_rfl)
  · exact (show Tryz.prog.wantsStandIn 61 = false by kernel_rfl)
  · exact (show Tryz.prog.wantsStandIn 3 = false by kernel_rfl)

theorem topWalls_card : Rows.TopWallsCardSaid :=
  Claim7.holds_tied_plain_at .later [] _ _ _ _ topWalls_said (fun _ h => by cases h) (by kernel_rfl) (fun _ h => by cases h) topWalls_row_tie rfl ⟨rfl, rfl⟩ (by kernel_rfl) rfl topWalls_plain (by kernel_rfl)
#print axioms topWalls_card

end Go.Proofs.YtdngbojbpmdegaaGreatDoor
