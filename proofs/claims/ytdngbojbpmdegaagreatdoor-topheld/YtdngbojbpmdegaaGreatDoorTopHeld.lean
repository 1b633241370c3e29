/-
  For every list of raw things, every raw thing, two numbers and a list of numbers, TopHeld answers true: who is interrupted goes on as if it were not, however often. No condition but that the library's tables are as the program's text lays them, which the card ties.
-/
import Derived.Test.YtdngbojbpmdegaaGreatDoorJStarted
import Derived.Test.YtdngbojbpmdegaaGreatDoorJEqRows
import Derived.Test.YtdngbojbpmdegaaGreatDoorJOpens
namespace Go.Proofs.YtdngbojbpmdegaaGreatDoor
open Go.ChangeShapes Go.WideShapes Go.ChangeAt Go.RowKit
set_option linter.unusedVariables false


/-- what the runs of an enclave that is Ready answer: entered with so much fuel, and gone on with so much more -/
theorem held_runs {M : Mv} (hz : machF M = 0) (hs : (M.ens.getD 0 default).st = 2) {n0 : Int} (hw : 0 ≤ n0 ∧ n0 ≤ 65535) : ∃ (RD RV : Nat → Int) (RM : Nat → Mv),
    (∀ (f : Nat) (w' : World), f ≤ 5000 → MachAt w' M → Calls Tryz.prog 21 #[M.val, .int .i64 1, .int .i64 n0, .int .i64 (f : Int)] w' (RunSaid (RD f) (RV f) 0 (RM f) w')) ∧
    (∀ (u k : Nat) (Y : Mv) (w' : World), RD u = 2 → k ≤ 5000 → Y.Same (RM u) → MachAt w' Y → Calls Tryz.prog 23 #[Y.val, .int .i64 1, .int .i64 (k : Int)] w' (RunSaid (RD (u + k)) (RV (u + k)) 0 (RM (u + k)) w')) ∧
    (∀ u b, u ≤ b → RD u ≠ 2 → RD b = RD u ∧ RV b = RV u ∧ RM b = RM u) := by
  refine ⟨fun u => (runR u M 0 0 [n0, 0, 0, 0] xorR).nd, fun u => (runR u M 0 0 [n0, 0, 0, 0] xorR).v, fun u => leftM (runR u M 0 0 [n0, 0, 0, 0] xorR) 0, fun f w' hf hM => ?_, fun u k Y w' hd hk hY hM => ?_, fun u b hb hd => ?_⟩
  · obtain ⟨_, h1, h2, h3, h4⟩ := ent_ready hz (m := 0) (by omega) hs hw hf
    have e1 : ((0 : Nat) : Int) + 1 = 1 := rfl
    rw [e1] at h1 h2 h3 h4
    have h := enter_any M 1 n0 (f : Int) w' hM (fits_goodH hz (Mv.Same.refl M))
    rw [h1, h2, h3, h4] at h
    exact h
  · dsimp only at hd hY ⊢
    obtain ⟨hr, _⟩ := ent_ready hz (m := 0) (by omega) hs hw (f := 0) (by omega)
    obtain ⟨h1, h2, h3, h4⟩ := res_more hr hd hk
    have e1 : ((0 : Nat) : Int) + 1 = 1 := rfl
    rw [e1] at h1 h2 h3 h4
    have hg := good_iff.2 (left_good (runR_end u hr) hr.m4 (.inr (.inl hd)))
    have h := resume_any Y 1 (k : Int) w' hM (fits_goodH hg hY)
    rw [fuelF_same hY, resD_same hY, resV_same hY, h1, h3, h4] at h
    refine h.mono ?_
    rintro e w2 ⟨N, rfl, hS, hO, hb⟩
    exact ⟨N, rfl, by rw [← h2]; exact hS.trans (resM_same hY 1 (k : Int)), hO, hb⟩
  · dsimp only at hd ⊢
    rw [run_more hd hb]
    exact ⟨rfl, rfl, rfl⟩

set_option maxRecDepth 100000 in
set_option maxHeartbeats 8000000 in
theorem topHeld_walk (a : Option Addr) (rs : List Rw) (cap : Nat) (R : Rw) (wd fu : Int) (b5 : Option Addr) (cs : List Int) (cap5 : Nat) (w : World) (hl : rs.length ≤ maxLen) (hx : RawsAt w a rs) (hR : R.Ok)
    (ww : (Lit.int .i64 wd).wf = true) (wf : (Lit.int .i64 fu).wf = true) (hl5 : cs.length ≤ maxLen) (hx5 : Ints w b5 cs) (hw5 : ∀ n ∈ cs, (Lit.int .i64 n).wf = true) (ht : Tab w) :
    Calls Tryz.prog 11 #[.slice a rs.length cap, R.val, .int .i64 wd, .int .i64 fu, .slice b5 cs.length cap5] w fun e w' => e = .returned (.bool true) ∧ Below w.heap.size w w' := by
  obtain ⟨rk, ra, rb, rc⟩ := R
  obtain ⟨W2, hW2⟩ : ∃ W2, Hid (W2 = w.alloc (.cells #[.int .i64 rk, .int .i64 ra, .int .i64 rb, .int .i64 rc] 61)) := ⟨_, rfl⟩
  have B2 : Hid (Below w.heap.size w W2) := show Below _ _ _ by rw [hW2.out]; exact (Below.refl _ _).alloc (Nat.le_refl _) _
  have hS := started_ok a rs cap ⟨rk, ra, rb, rc⟩ 3 W2 hl (hx.below B2.out) hR (by decide) (ht.below B2.out)
  unfold Rw.val at hS ⊢
  dsimp only at hS ⊢
  have r0 : W2.cell? ⟨w.heap.size, 0, none⟩ = some (.int .i64 rk) := by rw [hW2.out, World.cell?_alloc_at _ _ _ _ rfl]; rfl
  have r1 : W2.cell? ⟨w.heap.size, 1, none⟩ = some (.int .i64 ra) := by rw [hW2.out, World.cell?_alloc_at _ _ _ _ rfl]; rfl
  have r2 : W2.cell? ⟨w.heap.size, 2, none⟩ = some (.int .i64 rb) := by rw [hW2.out, World.cell?_alloc_at _ _ _ _ rfl]; rfl
  have r3 : W2.cell? ⟨w.heap.size, 3, none⟩ = some (.int .i64 rc) := by rw [hW2.out, World.cell?_alloc_at _ _ _ _ rfl]; rfl
  have lt0 := lt_of_cell r0
  have HX5 : Hid (Ints w b5 cs) := hx5
  have HW5 : Hid (∀ n ∈ cs, (Lit.int .i64 n).wf = true) := hw5
  have hpw := pick_lt wd (many := 65536) (by omega)
  have hpf := pick_lt fu (many := 200) (by omega)
  have hP1 := fun w' => Picked_any wd 65536 w' ww (by omega) (by omega)
  have hP2 := fun w' => Picked_any fu 200 w' wf (by omega) (by omega)
  obtain ⟨n0, hn0⟩ : ∃ n0, pick wd 65536 = n0 := ⟨_, rfl⟩
  obtain ⟨f0, hf0⟩ : ∃ f0 : Nat, pick fu 200 = (f0 : Int) := ⟨(pick fu 200).toNat, by omega⟩
  rw [hn0] at hP1 hpw
  rw [hf0] at hP2 hpf
  clear hx hR ht hx5 hw5 hn0 hf0 wf ww
  unfold StartSaid at hS
  unfold maxLen at hl5
  go_enter Tryz.func11, Tryz.ntmps11
  go_upto_region 1 with fail
  rw [← hW2.out]
  clear hW2
  go_upto_region 2 with (go_at_call 32; refine hS.mono ?_; clear hS; rintro e w3 ⟨b, ps, c, M, N, rfl, hpa, hif, h4, hMs, hPN, hTN, hO, hb3⟩; unfold Mv.val)
  have hzM : machF M = 0 := (machF_same hMs).trans hPN.good
  have hsM : (M.ens.getD 0 default).st = 2 := by rw [hMs.en, hPN.ens]; rfl
  obtain ⟨RD, RV, RM, hEn, hRe, hMo⟩ := held_runs hzM hsM (n0 := n0) (by omega)
  have HRE : Hid (_) := hRe
  have HMO : Hid (_) := hMo
  obtain ⟨W4, hW4⟩ : ∃ W4, Hid (W4 = w3.alloc (.cells #[.slice M.fa M.frs.length M.fcap, .slice M.ea M.ens.length M.ecap, .slice M.qa M.qus.length M.qcap] 29)) := ⟨_, rfl⟩
  have B4 : Hid (Below w3.heap.size w3 W4) := show Below _ _ _ by rw [hW4.out]; exact (Below.refl _ _).alloc (Nat.le_refl _) _
  have BW : Hid (Below w.heap.size w W4) := show Below _ _ _ from (B2.out.trans (hb3.mono B2.out.size)).trans (B4.out.mono (Nat.le_trans B2.out.size hb3.size))
  obtain ⟨P, hP⟩ : ∃ P, Hid (P = w3.heap.size) := ⟨_, rfl⟩
  have MB4 : Hid (MBox W2.heap.size W4 P M) := show MBox _ _ _ _ from MBox.of_block (t := 29) (hO.below B4.out) (by rw [hW4.out, hP.out]; exact Go.Deep.blk_alloc_new _ _) (fun q => by have h1 := (Mine.fresh hO q).2; have h2 := hP.out; omega)
  rw [← hW4.out, ← hP.out]
  have hE4 := hEn f0 W4 (by omega) MB4.out.own.at_
  have hE5 := fun w' (hm : MachAt w' M) => hEn 0 w' (by omega) hm
  rw [show ((0 : Nat) : Int) = 0 from rfl] at hE5
  unfold Mv.val at hE4 hE5
  have d0 := MB4.out.c0
  have d1 := MB4.out.c1
  have d2 := MB4.out.c2
  have ltP := MB4.out.lt
  have hps : ps.length ≤ 8 := image_len hif
  clear hW4 hP hMs hO hPN hTN hpa hb3 r0 r1 r2 r3 hzM hsM hEn hRe hMo lt0 hif
  generalize ps.length = np at *
  go_upto_region 3 with (go_at_call 35; refine (hP1 _).mono ?_; rintro e w' ⟨rfl, rfl⟩)
  clear hP1
  go_upto_region 4 with (go_at_call 35; refine (hP2 _).mono ?_; rintro e w' ⟨rfl, rfl⟩)
  clear hP2
  go_upto_region 5 with (go_at_call 21; refine hE4.mono ?_; clear hE4; rintro e w5 ⟨X, rfl, hSX, hOX, hb5⟩; unfold Mv.val)
  obtain ⟨W5, hW5⟩ : ∃ W5, Hid (W5 = (w5.alloc (.cells #[.slice X.fa X.frs.length X.fcap, .slice X.ea X.ens.length X.ecap, .slice X.qa X.qus.length X.qcap] 29)).alloc (.cells #[.int .i64 (RD f0), .int .i64 (RV f0)] 47)) := ⟨_, rfl⟩
  rw [← hW5.out]
  obtain ⟨bx, aB, oB⟩ := boxes2 w5 (.slice X.fa X.frs.length X.fcap) (.slice X.ea X.ens.length X.ecap) (.slice X.qa X.qus.length X.qcap) (.int .i64 (RD f0)) (.int .i64 (RV f0)) 29 47
  rw [← hW5.out] at bx aB oB
  have B45 : Hid (Below W4.heap.size W4 W5) := show Below _ _ _ from hb5.trans (bx.mono hb5.size)
  obtain ⟨X16, hX16⟩ : ∃ X16, Hid (X16 = w5.heap.size) := ⟨_, rfl⟩
  obtain ⟨X17, hX17⟩ : ∃ X17, Hid (X17 = w5.heap.size + 1) := ⟨_, rfl⟩
  rw [← hX17.out, ← hX16.out]
  rw [← hX16.out] at aB
  rw [← hX17.out] at oB
  have XB : Hid (MBox W4.heap.size W5 X16 X) := show MBox _ _ _ _ from MBox.of_block (t := 29) (hOX.below bx) aB (fun q => by have h1 := (Mine.fresh hOX q).2; have h2 := hX16.out; omega)
  have XO : Hid (OBox W5 X17 (RD f0) (RV f0)) := show OBox _ _ _ _ from OBox.of_block oB
  have XS : Hid (X.Same (RM f0)) := hSX
  have MB5 : Hid (MBox W2.heap.size W5 P M) := show MBox _ _ _ _ from MB4.out.keep B45.out
  have hE5' := hE5 W5 MB5.out.own.at_
  clear d0 d1 d2 ltP hW5 bx aB oB hX16 hX17 hb5 hOX hSX hE5
  have d0 := MB5.out.c0
  have d1 := MB5.out.c1
  have d2 := MB5.out.c2
  have ltP := MB5.out.lt
  go_upto_region 6 with (go_at_call 21; refine hE5'.mono ?_; clear hE5'; rintro e w6 ⟨Y, rfl, hSY, hOY, hb6⟩; unfold Mv.val)
  obtain ⟨W6, hW6⟩ : ∃ W6, Hid (W6 = (w6.alloc (.cells #[.slice Y.fa Y.frs.length Y.fcap, .slice Y.ea Y.ens.length Y.ecap, .slice Y.qa Y.qus.length Y.qcap] 29)).alloc (.cells #[.int .i64 (RD 0), .int .i64 (RV 0)] 47)) := ⟨_, rfl⟩
  rw [← hW6.out]
  obtain ⟨bx, aB, oB⟩ := boxes2 w6 (.slice Y.fa Y.frs.length Y.fcap) (.slice Y.ea Y.ens.length Y.ecap) (.slice Y.qa Y.qus.length Y.qcap) (.int .i64 (RD 0)) (.int .i64 (RV 0)) 29 47
  rw [← hW6.out] at bx aB oB
  have B56 : Hid (Below W5.heap.size W5 W6) := show Below _ _ _ from hb6.trans (bx.mono hb6.size)
  obtain ⟨Y19, hY19⟩ : ∃ Y19, Hid (Y19 = w6.heap.size) := ⟨_, rfl⟩
  obtain ⟨Y20, hY20⟩ : ∃ Y20, Hid (Y20 = w6.heap.size + 1) := ⟨_, rfl⟩
  rw [← hY20.out, ← hY19.out]
  rw [← hY19.out] at aB
  rw [← hY20.out] at oB
  have hYB : MBox W5.heap.size W6 Y19 Y := MBox.of_block (t := 29) (hOY.below bx) aB (fun q => by have h1 := (Mine.fresh hOY q).2; have h2 := hY19.out; omega)
  have hYO : OBox W6 Y20 (RD 0) (RV 0) := OBox.of_block oB
  have YGE : Hid (W5.heap.size ≤ Y19 ∧ W5.heap.size ≤ Y20 ∧ Y19 ≠ Y20) := by have h1 := hY19.out; have h2 := hY20.out; have h3 := hb6.size; exact ⟨by omega, by omega, by omega⟩
  clear d0 d1 d2 ltP hW6 bx aB oB hY19 hY20 hb6 hOY
  have HY : Hid (_) := And.intro hYB (And.intro hYO hSY)
  clear hYB hYO hSY
  have HMO2 : Hid (∀ u, u ≤ f0 → RD u ≠ 2 → RD f0 = RD u ∧ RV f0 = RV u ∧ RM f0 = RM u) := fun u h1 h2 => HMO.out u f0 h1 h2
  go_upto_region 7 with fail
  go_loopw [15, 21, 22] (fun lf ff ii wr => ∃ (k u : Nat) (Z : Mv), k ≤ 10 ∧ u ≤ f0 ∧ ii = .int .i64 k ∧ lf = .int .i64 ((f0 : Int) - (u : Int)) ∧ ff = .int .i64 0 ∧ Hid (MBox W5.heap.size wr Y19 Z) ∧ Hid (OBox wr Y20 (RD u) (RV u)) ∧ Hid (Z.Same (RM u)) ∧ Hid (Below W5.heap.size W5 wr)) (fun _ _ i _ => 10 - (intOf i).toNat)
  case atStart => exact ⟨0, 0, Y, by omega, by omega, rfl, by simp, rfl, HY.out.1, HY.out.2.1, HY.out.2.2, B56.out⟩
  case round =>
    obtain ⟨k, u, Z, hk, hu, rfl, rfl, rfl, hZB, hZO, hZS, hbel⟩ := hrel
    clear HY
    have o0 := hZO.out.c0
    have ol := hZO.out.lt
    obtain ⟨nd, hnd⟩ : ∃ nd, Hid (nd = RD u) := ⟨_, rfl⟩
    rw [← hnd.out] at o0
    go_upto_region 7 with fail
    obtain ⟨gb, hgb⟩ : ∃ gb : Bool, Hid (gb = decide (((k : Int) < (cs.length : Int) ∧ (k : Int) < 10) ∧ nd = 2)) := ⟨_, rfl⟩
    go_cut [67] (fun cb wx => cb = .bool gb ∧ wx = wr)
    case first =>
      by_cases h1 : (k : Int) < (cs.length : Int)
      · by_cases h2 : (k : Int) < 10
        · by_cases h3 : nd = 2
          · have t3 : (nd == 2) = true := by simpa using h3
            have tg : Hid (decide (((k : Int) < (cs.length : Int) ∧ (k : Int) < 10) ∧ nd = 2) = true) := show _ = _ from decide_eq_true ⟨⟨h1, h2⟩, h3⟩
            clear h3
            go_wp2
            go_meet
            exact ⟨congrArg Value.bool (hgb.out.trans tg.out).symm, rfl⟩
          · have t3 : (nd == 2) = false := by simpa using h3
            have tg : Hid (decide (((k : Int) < (cs.length : Int) ∧ (k : Int) < 10) ∧ nd = 2) = false) := show _ = _ from decide_eq_false (fun q => h3 q.2)
            clear h3
            go_wp2
            go_meet
            exact ⟨congrArg Value.bool (hgb.out.trans tg.out).symm, rfl⟩
        · have tg : Hid (decide (((k : Int) < (cs.length : Int) ∧ (k : Int) < 10) ∧ nd = 2) = false) := show _ = _ from decide_eq_false (fun q => h2 q.1.2)
          go_wp2
          go_meet
          exact ⟨congrArg Value.bool (hgb.out.trans tg.out).symm, rfl⟩
      · have tg : Hid (decide (((k : Int) < (cs.length : Int) ∧ (k : Int) < 10) ∧ nd = 2) = false) := show _ = _ from decide_eq_false (fun q => h1 q.1.1)
        go_wp2
        go_meet
        exact ⟨congrArg Value.bool (hgb.out.trans tg.out).symm, rfl⟩
    case rest =>
      obtain ⟨rfl, rfl⟩ := hcut
      have HBW : Hid (Below w.heap.size w wc) := show Below _ _ _ from (BW.out.trans (B45.out.mono BW.out.size)).trans (hbel.out.mono (Nat.le_trans BW.out.size B45.out.size))
      by_cases hgo : ((k : Int) < (cs.length : Int) ∧ (k : Int) < 10) ∧ nd = 2
      · have tg : gb = true := hgb.out.trans (decide_eq_true hgo)
        subst tg
        clear hgb
        obtain ⟨⟨h1, h2⟩, h3⟩ := hgo
        have hk1 : k < cs.length := by omega
        have HND : Hid (RD u = 2) := show _ = _ from hnd.out.symm.trans h3
        rcases HX5.out with h0 | ⟨bb, off, rfl, hc5⟩
        · rw [h0] at hk1; simp at hk1
        · have c5 := (HBW.out.cell (p := ⟨bb, off + k, none⟩) (lt_of_cell (hc5 k hk1))).trans (hc5 k hk1)
          have lb5 := lt_of_cell c5
          have wz := HW5.out (cs.getD k 0) (getD_mem hk1)
          generalize cs.getD k 0 = z at c5 wz
          have hpz := pick_lt z (many := 20) (by omega)
          have hPz := fun w' => Picked_any z 20 w' wz (by omega) (by omega)
          obtain ⟨q, hq⟩ : ∃ q : Nat, pick z 20 = (q : Int) := ⟨(pick z 20).toNat, by omega⟩
          rw [hq] at hPz hpz
          obtain ⟨lv, hlv⟩ : ∃ lv : Nat, (f0 : Int) - (u : Int) = (lv : Int) := ⟨f0 - u, by omega⟩
          rw [hlv]
          have HLV : Hid (f0 = u + lv) := show _ = _ by omega
          clear hq hlv hc5 h3
          go_upto_region 10 with (go_at_call 35; refine (hPz _).mono ?_; rintro e w' ⟨rfl, rfl⟩)
          obtain ⟨d, hd⟩ : ∃ d : Nat, min (lv : Int) (q : Int) = (d : Int) := ⟨min lv q, by omega⟩
          rw [hd]
          have hdl : d ≤ lv ∧ d ≤ 5000 := by omega
          have hwd : IntKind.i64.wrap ((lv : Int) - (d : Int)) = (lv : Int) - (d : Int) := by rw [IntKind.wrap_i64]; have := hpf.2; have := HLV.out; omega
          have hR := HRE.out u d Z wc HND.out hdl.2 hZS.out hZB.out.own.at_
          unfold Mv.val at hR
          have y0 := hZB.out.c0
          have y1 := hZB.out.c1
          have y2 := hZB.out.c2
          have yl := hZB.out.lt
          have hne : ¬ Y19 = Y20 := YGE.out.2.2
          have hne' : ¬ Y20 = Y19 := fun e => YGE.out.2.2 e.symm
          clear hPz hd c5 lb5 o0
          go_upto_region 8 with (go_at_call 23; refine hR.mono ?_; clear hR; rintro e w7 ⟨Z2, rfl, hS7, hO7, hb7⟩; unfold Mv.val; have ZB7 : Hid (_) := hZB.out.keep hb7; have ZO7 : Hid (_) := hZO.out.keep hb7; have HB7 : Hid (_) := hb7; have HS7 : Hid (_) := hS7; have HO7 : Hid (_) := hO7; clear y0 y1 y2 hb7 hS7 hO7; have y0 := ZB7.out.c0; have y1 := ZB7.out.c1; have y2 := ZB7.out.c2; have x0 := ZB7.out.fz 0; have x1 := ZB7.out.fz 1; have x2 := ZB7.out.fz 2; have p0 := ZO7.out.c0; have p1 := ZO7.out.c1; have v0 := ZO7.out.fz 0; have v1 := ZO7.out.fz 1; have yl7 := ZB7.out.lt; have ol7 := ZO7.out.lt)
          obtain ⟨V, hV⟩ : ∃ V, Hid (V = ((((w7.setCell ⟨Y19, 0, none⟩ (.slice Z2.fa Z2.frs.length Z2.fcap)).setCell ⟨Y19, 1, none⟩ (.slice Z2.ea Z2.ens.length Z2.ecap)).setCell ⟨Y19, 2, none⟩ (.slice Z2.qa Z2.qus.length Z2.qcap)).setCell ⟨Y20, 0, none⟩ (.int .i64 (RD (u + d)))).setCell ⟨Y20, 1, none⟩ (.int .i64 (RV (u + d)))) := ⟨_, rfl⟩
          rw [← hV.out]
          obtain ⟨g1, g2, g3⟩ := both_put ZB7.out ZO7.out HO7.out (fun m => by have h1 := (Mine.fresh HO7.out m).1; have h2 := hZB.out.lt; omega) (fun m => by have h1 := (Mine.fresh HO7.out m).1; have h2 := hZO.out.lt; omega) YGE.out.2.2 hV.out
          have G1 : Hid (MBox W5.heap.size V Y19 Z2) := g1.mono (hbel.out.size)
          have G2 : Hid (OBox V Y20 (RD (u + d)) (RV (u + d))) := g2
          have G3 : Hid (Below W5.heap.size W5 V) := (hbel.out.trans (HB7.out.mono hbel.out.size)).trans (g3 _ YGE.out.1 YGE.out.2.1)
          clear g1 g2 g3 hV y0 y1 y2 x0 x1 x2 p0 p1 v0 v1 yl7 ol7
          go_wp2
          go_roundw
          case rel => exact ⟨k + 1, u + d, Z2, by omega, by have := HLV.out; omega, by go_num, by (have := HLV.out; congr 1; omega), rfl, G1, G2, HS7.out, G3⟩
          case measure => simp [intOf]; omega
      · have tg : gb = false := hgb.out.trans (decide_eq_false hgo)
        subst tg
        clear hgb
        have lwc := hZB.out.lt
        go_upto_region 12 with fail
        by_cases h3 : nd = 2
        · have t3 : (nd == 2) = true := by simpa using h3
          have HND : Hid (RD u = 2) := show _ = _ from hnd.out.symm.trans h3
          obtain ⟨lv, hlv⟩ : ∃ lv : Nat, (f0 : Int) - (u : Int) = (lv : Int) := ⟨f0 - u, by omega⟩
          rw [hlv]
          have HLV : Hid (f0 = u + lv) := show _ = _ by omega
          have hR := HRE.out u lv Z wc HND.out (by omega) hZS.out hZB.out.own.at_
          rw [← HLV.out] at hR
          unfold Mv.val at hR
          have y0 := hZB.out.c0
          have y1 := hZB.out.c1
          have y2 := hZB.out.c2
          have yl := hZB.out.lt
          have hne : ¬ Y19 = Y20 := YGE.out.2.2
          have hne' : ¬ Y20 = Y19 := fun e => YGE.out.2.2 e.symm
          clear hlv h3
          go_upto_region 14 with (go_at_call 23; refine hR.mono ?_; clear hR; rintro e w7 ⟨Zf, rfl, hS7, hO7, hb7⟩; unfold Mv.val; have ZB7 : Hid (_) := hZB.out.keep hb7; have ZO7 : Hid (_) := hZO.out.keep hb7; have HB7 : Hid (_) := hb7; have GS : Hid (_) := hS7; have HO7 : Hid (_) := hO7; clear y0 y1 y2 hb7 hS7 hO7 o0; have y0 := ZB7.out.c0; have y1 := ZB7.out.c1; have y2 := ZB7.out.c2; have x0 := ZB7.out.fz 0; have x1 := ZB7.out.fz 1; have x2 := ZB7.out.fz 2; have p0 := ZO7.out.c0; have p1 := ZO7.out.c1; have v0 := ZO7.out.fz 0; have v1 := ZO7.out.fz 1; have yl7 := ZB7.out.lt; have ol7 := ZO7.out.lt)
          obtain ⟨V, hV⟩ : ∃ V, Hid (V = ((((w7.setCell ⟨Y19, 0, none⟩ (.slice Zf.fa Zf.frs.length Zf.fcap)).setCell ⟨Y19, 1, none⟩ (.slice Zf.ea Zf.ens.length Zf.ecap)).setCell ⟨Y19, 2, none⟩ (.slice Zf.qa Zf.qus.length Zf.qcap)).setCell ⟨Y20, 0, none⟩ (.int .i64 (RD f0))).setCell ⟨Y20, 1, none⟩ (.int .i64 (RV f0))) := ⟨_, rfl⟩
          rw [← hV.out]
          obtain ⟨g1, g2, g3⟩ := both_put ZB7.out ZO7.out HO7.out (fun m => by have h1 := (Mine.fresh HO7.out m).1; have h2 := hZB.out.lt; omega) (fun m => by have h1 := (Mine.fresh HO7.out m).1; have h2 := hZO.out.lt; omega) YGE.out.2.2 hV.out
          have G1 : Hid (MBox W5.heap.size V Y19 Zf) := g1.mono (hbel.out.size)
          have G2 : Hid (OBox V Y20 (RD f0) (RV f0)) := g2
          have G3 : Hid (Below W5.heap.size W5 V) := (hbel.out.trans (HB7.out.mono hbel.out.size)).trans (g3 _ YGE.out.1 YGE.out.2.1)
          clear g1 g2 g3 hV y0 y1 y2 x0 x1 x2 p0 p1 v0 v1 yl7 ol7 yl hne hne' t3
          have hBWV : Hid (Below w.heap.size w V) := show Below _ _ _ from (BW.out.trans (B45.out.mono BW.out.size)).trans (G3.out.mono (Nat.le_trans BW.out.size B45.out.size))
          have XBV : Hid (MBox W4.heap.size V X16 X) := show MBox _ _ _ _ from XB.out.keepH (fun c hc => G3.out.block c (XB.out.old hc)) G3.out.size
          have XOV : Hid (OBox V X17 (RD f0) (RV f0)) := show OBox _ _ _ _ from XO.out.keepH (G3.out.block _ XO.out.lt) G3.out.size
          have SXZ : Hid (X.Same Zf) := show X.Same Zf from XS.out.trans GS.out.symm
          have x1 := XBV.out.c1
          have x2 := XBV.out.c2
          have z1 := G1.out.c1
          have z2 := G1.out.c2
          have o0 := XOV.out.c0
          have o1 := XOV.out.c1
          have p0 := G2.out.c0
          have p1 := G2.out.c1
          have l1 := XBV.out.lt
          have l2 := G1.out.lt
          have l3 := XOV.out.lt
          have l4 := G2.out.lt
          have hE : ∀ w', (Op.equalIn 10000 47 (.agg #[.int .i64 (RD f0), .int .i64 (RV f0)]) (.agg #[.int .i64 (RD f0), .int .i64 (RV f0)])).run Tryz.prog w' = .ok true w' := fun w' => by
            have := eqv_outcome 9998 (RD f0) (RV f0) (RD f0) (RV f0) w'
            simpa using this
          have hQ1 := eqEns_any X Zf V XBV.out.own.at_ G1.out.own.at_ SXZ.out.en
          have hQ2 := fun n => eqQus_any X Zf (V.drewN n) (XBV.out.own.at_.below (below_drewN (Below.refl _ _) n)) (G1.out.own.at_.below (below_drewN (Below.refl _ _) n)) SXZ.out.qu
          go_upto_region 16 with (first | (go_at_call 31; refine hQ1.mono ?_; clear hQ1; rintro e w8 ⟨rfl, n8, rfl⟩) | (go_at_call 39; refine (hQ2 _).mono ?_; clear hQ2; rintro e w9 ⟨rfl, n9, rfl⟩))
          generalize n8 + n9 = n89 at *
          clear x1 x2 z1 z2 o0 o1 p0 p1 l3 l4 hE
          have x0 := XBV.out.c0
          have z0 := G1.out.c0
          have hfl := XBV.out.own.at_.frl
          unfold maxLen at hfl
          obtain ⟨nf, hnf⟩ : ∃ nf, Hid (nf = X.frs.length) := ⟨_, rfl⟩
          rw [← SXZ.out.len, ← hnf.out] at z0
          rw [← hnf.out] at x0 hfl
          go_wp2
          go_loopw [135] (fun i wr => ∃ j : Nat, j ≤ nf ∧ i = .int .i64 j ∧ ∃ n, wr = V.drewN n) (fun i _ => nf - (intOf i).toNat)
          case atStart => exact ⟨0, Nat.zero_le _, rfl, _, rfl⟩
          case round =>
            obtain ⟨j, hj, rfl, n, hwr⟩ := hrel
            have HWR : Hid (wr = V.drewN n) := hwr
            have HBR : Hid (Below V.heap.size V wr) := show Below _ _ _ by rw [hwr]; exact below_drewN (Below.refl _ _) _
            have XBR : Hid (_) := XBV.out.keep HBR.out
            have GBR : Hid (_) := G1.out.keep HBR.out
            clear x0 z0 hwr
            have x0 := XBR.out.c0
            have z0 := GBR.out.c0
            have l5 := XBR.out.lt
            have l6 := GBR.out.lt
            rw [← SXZ.out.len, ← hnf.out] at z0
            rw [← hnf.out] at x0
            by_cases hlt : j < nf
            · obtain ⟨xb, xo, hxa, c0, c1, c2, c3⟩ := XBR.out.own.at_.frame (j := j) (by rw [← hnf.out]; exact hlt)
              obtain ⟨yb, yo, hya, e0, e1, e2, e3⟩ := GBR.out.own.at_.frame (j := j) (by rw [← SXZ.out.len, ← hnf.out]; exact hlt)
              rw [hxa] at x0
              rw [hya] at z0
              have okX := XBR.out.own.at_.frok j (by rw [← hnf.out]; exact hlt)
              have okZ := GBR.out.own.at_.frok j (by rw [← SXZ.out.len, ← hnf.out]; exact hlt)
              have hws : (X.frs.getD j default).ws = (Zf.frs.getD j default).ws := (SXZ.out.fr j (by rw [← hnf.out]; exact hlt)).2.2.2
              have hEq := fun m => equal_any (X.frs.getD j default).a (Zf.frs.getD j default).a (X.frs.getD j default).ws (Zf.frs.getD j default).ws (X.frs.getD j default).cap (Zf.frs.getD j default).cap (wr.drewN m) okX.len okZ.len (okX.ints.below (below_drewN (Below.refl _ _) m)) (okZ.ints.below (below_drewN (Below.refl _ _) m))
              rw [← hws] at hEq e3
              have lx := lt_of_cell c3
              have lz := lt_of_cell e3
              have hjI : (j : Int) < (nf : Int) := by omega
              clear okX okZ hws c0 c1 c2 e0 e1 e2
              generalize X.frs.getD j default = F1 at c3 e3 hEq
              generalize Zf.frs.getD j default = F2 at e3 hEq
              obtain ⟨o1, at1, r1, pa1, ws1, cap1⟩ := F1
              obtain ⟨o2, at2, r2, pa2, ws2, cap2⟩ := F2
              dsimp only at c3 e3 hEq
              rw [show decide (ws1 = ws1) = true from decide_eq_true rfl] at hEq
              generalize ws1.length = nw at *
              go_upto_region 19 with fail
              go_quiet ((go_at_call 30; exact Calls.quiet_of (hEq _)))
              go_wp2
              go_roundw
              case rel => exact ⟨j + 1, by omega, by go_num, _, by rw [HWR.out, World.drewN_drewN]⟩
              case measure => simp [intOf]; omega
            · have hge : ¬ ((j : Int) < (nf : Int)) := by omega
              clear hlt
              go_wp2
              go_ret
              exact ⟨rfl, hBWV.out.trans (HBR.out.mono hBWV.out.size)⟩
        · have t3 : (nd == 2) = false := by simpa using h3
          obtain ⟨m1, m2, m3⟩ := HMO2.out u hu (fun q => h3 (hnd.out.trans q))
          clear h3
          go_upto_region 14 with fail
          obtain ⟨V, hV⟩ : ∃ V, V = wc := ⟨_, rfl⟩
          obtain ⟨Zf, hZf⟩ : ∃ Zf, Zf = Z := ⟨_, rfl⟩
          rw [← hV]
          have G1 : Hid (MBox W5.heap.size V Y19 Zf) := show MBox _ _ _ _ by rw [hV, hZf]; exact hZB.out
          have G2 : Hid (OBox V Y20 (RD f0) (RV f0)) := show OBox _ _ _ _ by rw [hV, m1, m2]; exact hZO.out
          have G3 : Hid (Below W5.heap.size W5 V) := show Below _ _ _ by rw [hV]; exact hbel.out
          have GS : Hid (Zf.Same (RM f0)) := show Zf.Same _ by rw [hZf, m3]; exact hZS.out
          clear m1 m2 m3 t3 o0 hV hZf
          have hBWV : Hid (Below w.heap.size w V) := show Below _ _ _ from (BW.out.trans (B45.out.mono BW.out.size)).trans (G3.out.mono (Nat.le_trans BW.out.size B45.out.size))
          have XBV : Hid (MBox W4.heap.size V X16 X) := show MBox _ _ _ _ from XB.out.keepH (fun c hc => G3.out.block c (XB.out.old hc)) G3.out.size
          have XOV : Hid (OBox V X17 (RD f0) (RV f0)) := show OBox _ _ _ _ from XO.out.keepH (G3.out.block _ XO.out.lt) G3.out.size
          have SXZ : Hid (X.Same Zf) := show X.Same Zf from XS.out.trans GS.out.symm
          have x1 := XBV.out.c1
          have x2 := XBV.out.c2
          have z1 := G1.out.c1
          have z2 := G1.out.c2
          have o0 := XOV.out.c0
          have o1 := XOV.out.c1
          have p0 := G2.out.c0
          have p1 := G2.out.c1
          have l1 := XBV.out.lt
          have l2 := G1.out.lt
          have l3 := XOV.out.lt
          have l4 := G2.out.lt
          have hE : ∀ w', (Op.equalIn 10000 47 (.agg #[.int .i64 (RD f0), .int .i64 (RV f0)]) (.agg #[.int .i64 (RD f0), .int .i64 (RV f0)])).run Tryz.prog w' = .ok true w' := fun w' => by
            have := eqv_outcome 9998 (RD f0) (RV f0) (RD f0) (RV f0) w'
            simpa using this
          have hQ1 := eqEns_any X Zf V XBV.out.own.at_ G1.out.own.at_ SXZ.out.en
          have hQ2 := fun n => eqQus_any X Zf (V.drewN n) (XBV.out.own.at_.below (below_drewN (Below.refl _ _) n)) (G1.out.own.at_.below (below_drewN (Below.refl _ _) n)) SXZ.out.qu
          go_upto_region 16 with (first | (go_at_call 31; refine hQ1.mono ?_; clear hQ1; rintro e w8 ⟨rfl, n8, rfl⟩) | (go_at_call 39; refine (hQ2 _).mono ?_; clear hQ2; rintro e w9 ⟨rfl, n9, rfl⟩))
          generalize n8 + n9 = n89 at *
          clear x1 x2 z1 z2 o0 o1 p0 p1 l3 l4 hE
          have x0 := XBV.out.c0
          have z0 := G1.out.c0
          have hfl := XBV.out.own.at_.frl
          unfold maxLen at hfl
          obtain ⟨nf, hnf⟩ : ∃ nf, Hid (nf = X.frs.length) := ⟨_, rfl⟩
          rw [← SXZ.out.len, ← hnf.out] at z0
          rw [← hnf.out] at x0 hfl
          go_wp2
          go_loopw [135] (fun i wr => ∃ j : Nat, j ≤ nf ∧ i = .int .i64 j ∧ ∃ n, wr = V.drewN n) (fun i _ => nf - (intOf i).toNat)
          case atStart => exact ⟨0, Nat.zero_le _, rfl, _, rfl⟩
          case round =>
            obtain ⟨j, hj, rfl, n, hwr⟩ := hrel
            have HWR : Hid (wr = V.drewN n) := hwr
            have HBR : Hid (Below V.heap.size V wr) := show Below _ _ _ by rw [hwr]; exact below_drewN (Below.refl _ _) _
            have XBR : Hid (_) := XBV.out.keep HBR.out
            have GBR : Hid (_) := G1.out.keep HBR.out
            clear x0 z0 hwr
            have x0 := XBR.out.c0
            have z0 := GBR.out.c0
            have l5 := XBR.out.lt
            have l6 := GBR.out.lt
            rw [← SXZ.out.len, ← hnf.out] at z0
            rw [← hnf.out] at x0
            by_cases hlt : j < nf
            · obtain ⟨xb, xo, hxa, c0, c1, c2, c3⟩ := XBR.out.own.at_.frame (j := j) (by rw [← hnf.out]; exact hlt)
              obtain ⟨yb, yo, hya, e0, e1, e2, e3⟩ := GBR.out.own.at_.frame (j := j) (by rw [← SXZ.out.len, ← hnf.out]; exact hlt)
              rw [hxa] at x0
              rw [hya] at z0
              have okX := XBR.out.own.at_.frok j (by rw [← hnf.out]; exact hlt)
              have okZ := GBR.out.own.at_.frok j (by rw [← SXZ.out.len, ← hnf.out]; exact hlt)
              have hws : (X.frs.getD j default).ws = (Zf.frs.getD j default).ws := (SXZ.out.fr j (by rw [← hnf.out]; exact hlt)).2.2.2
              have hEq := fun m => equal_any (X.frs.getD j default).a (Zf.frs.getD j default).a (X.frs.getD j default).ws (Zf.frs.getD j default).ws (X.frs.getD j default).cap (Zf.frs.getD j default).cap (wr.drewN m) okX.len okZ.len (okX.ints.below (below_drewN (Below.refl _ _) m)) (okZ.ints.below (below_drewN (Below.refl _ _) m))
              rw [← hws] at hEq e3
              have lx := lt_of_cell c3
              have lz := lt_of_cell e3
              have hjI : (j : Int) < (nf : Int) := by omega
              clear okX okZ hws c0 c1 c2 e0 e1 e2
              generalize X.frs.getD j default = F1 at c3 e3 hEq
              generalize Zf.frs.getD j default = F2 at e3 hEq
              obtain ⟨o1, at1, r1, pa1, ws1, cap1⟩ := F1
              obtain ⟨o2, at2, r2, pa2, ws2, cap2⟩ := F2
              dsimp only at c3 e3 hEq
              rw [show decide (ws1 = ws1) = true from decide_eq_true rfl] at hEq
              generalize ws1.length = nw at *
              go_upto_region 19 with fail
              go_quiet ((go_at_call 30; exact Calls.quiet_of (hEq _)))
              go_wp2
              go_roundw
              case rel => exact ⟨j + 1, by omega, by go_num, _, by rw [HWR.out, World.drewN_drewN]⟩
              case measure => simp [intOf]; omega
            · have hge : ¬ ((j : Int) < (nf : Int)) := by omega
              clear hlt
              go_wp2
              go_ret
              exact ⟨rfl, hBWV.out.trans (HBR.out.mono hBWV.out.size)⟩

set_option maxRecDepth 100000 in
theorem topHeld_contract (H : Type) (enc : TypeId × Value → H) (W : World) (base : Nat) (args : Array Value) (ds gs : List (DataW H)) (before : List MemPlace)
    (hval0 : ∀ (j : Nat) t v, Tryz.f11.params[j]? = some t → args[j]? = some v → Value.okWide Tryz.prog W .any base t v)
    (hW : DataW.Whole enc Tryz.prog Tryz.f11.params.toList Rows.topHeldSpec.vars false W args.toList ds gs before) (hL : laidMetH Tryz.prog listed W)
    (hsz0 : (DataW.weightsEach Tryz.prog (Tryz.f11.params.toList ++ []) (ds ++ gs)).all (· ≤ reachBytes) = true) :
    Calls Tryz.prog 11 args W fun e W' => ∃ v, e = .returned v ∧ Rows.topHeldSpec.post enc Tryz.prog Tryz.f11 false true false false W args v W' := by
  have hval := hval0
  have hsz := hsz0
  have hW' := hW
  obtain ⟨p, q, hA0, hV, rfl, hfz, hnd⟩ := hW
  have hA : DataW.TrodAll enc Tryz.prog W 0 (fun _ => true) true Tryz.f11.params.toList args.toList ds p := hA0
  rw [Tryz.params11] at hA hval hsz
  obtain ⟨v0, vs0, d0, ds0, p0, q0, hargs, rfl, rfl, h0, r0⟩ := trodAll_cons hA
  obtain ⟨v1, vs1, d1, ds1, p1, q1, rfl, rfl, rfl, h1, r1⟩ := trodAll_cons r0
  obtain ⟨v2, vs2, d2, ds2, p2, q2, rfl, rfl, rfl, h2, r2⟩ := trodAll_cons r1
  obtain ⟨v3, vs3, d3, ds3, p3, q3, rfl, rfl, rfl, h3, r3⟩ := trodAll_cons r2
  obtain ⟨v4, vs4, d4, ds4, p4, q4, rfl, rfl, rfl, h4, r4⟩ := trodAll_cons r3
  obtain ⟨rfl, rfl, rfl⟩ := trodAll_nil r4
  obtain rfl : args = #[v0, v1, v2, v3, v4] := by cases args; simp_all
  obtain ⟨rfl, rfl⟩ := trodVars_none hV
  have k0 := h0
  have lt0 : ∀ x ∈ p0, x.block < W.heap.size := by obtain ⟨m, hm⟩ := k0; exact DataW.trod_lt m _ _ _ hm
  obtain ⟨a0, len0, cap0, rfl⟩ := okWide_slice Tryz.underlying59 (hval 0 59 v0 rfl rfl)
  obtain ⟨rs0, hlen0, hmax0, hx0⟩ := open_raws h0
  subst hlen0
  have k1 := h1
  have lt1 : ∀ x ∈ p1, x.block < W.heap.size := by obtain ⟨m, hm⟩ := k1; exact DataW.trod_lt m _ _ _ hm
  obtain ⟨rw1, rfl, hr1⟩ := open_raw (hval 1 61 v1 rfl rfl) h1
  have k2 := h2
  have lt2 : ∀ x ∈ p2, x.block < W.heap.size := by obtain ⟨m, hm⟩ := k2; exact DataW.trod_lt m _ _ _ hm
  obtain ⟨x2, rfl, rfl, rfl, wx2⟩ := open_int Tryz.underlying3 (hval 2 3 v2 rfl rfl) h2
  have k3 := h3
  have lt3 : ∀ x ∈ p3, x.block < W.heap.size := by obtain ⟨m, hm⟩ := k3; exact DataW.trod_lt m _ _ _ hm
  obtain ⟨x3, rfl, rfl, rfl, wx3⟩ := open_int Tryz.underlying3 (hval 3 3 v3 rfl rfl) h3
  have k4 := h4
  have lt4 : ∀ x ∈ p4, x.block < W.heap.size := by obtain ⟨m, hm⟩ := k4; exact DataW.trod_lt m _ _ _ hm
  obtain ⟨a4, len4, cap4, rfl⟩ := okWide_slice Tryz.underlying30 (hval 4 30 v4 rfl rfl)
  obtain ⟨xs4, hlen4, hmax4, hx4, hwf4⟩ := open_row h4
  subst hlen4
  clear hA0 hval0
  refine (topHeld_walk a0 rs0 cap0 rw1 x2 x3 a4 xs4 cap4 W hmax0 hx0 hr1 wx2 wx3 hmax4 hx4 hwf4 (tab_of hL)).mono fun e W' ⟨he, bel⟩ => ?_
  subst he
  exact ⟨_, rfl, _, _, _, [], _, [], hW', trodAll_mk1 (shut_bool Tryz.underlying4 _), (trodAll_cons_mk (Below.trod laidOut (by kernel_rfl) (of_decide_eq_true (by kernel_rfl)) k0 bel lt0) (trodAll_cons_mk (Below.trod laidOut (by kernel_rfl) (of_decide_eq_true (by kernel_rfl)) k1 bel lt1) (trodAll_cons_mk (Below.trod laidOut (by kernel_rfl) (of_decide_eq_true (by kernel_rfl)) k2 bel lt2) (trodAll_cons_mk (Below.trod laidOut (by kernel_rfl) (of_decide_eq_true (by kernel_rfl)) k3 bel lt3) (trodAll_cons_mk (Below.trod laidOut (by kernel_rfl) (of_decide_eq_true (by kernel_rfl)) k4 bel lt4) trodAll_mk0))))), rfl, bel.frame _, fun h => by cases h⟩

theorem topHeld_laid (os : Os) : laidMet Tryz.prog listed ((laidWorld os).forCall (fun _ _ => 0) ⟨#[], #[.slice none 0 0, .agg #[.int .i64 0, .int .i64 0, .int .i64 0, .int .i64 0], .int .i64 0, .int .i64 0, .slice none 0 0], []⟩).memory :=
  laidMet_of_run' 8 (by kernel_rfl) (by kernel_rfl)
theorem topHeld_reads (os : Os) {H : Type} (enc : TypeId × Value → H) : ∃ places, DataW.whole enc Tryz.prog ((laidWorld os).forCall (fun _ _ => 0) ⟨#[], #[.slice none 0 0, .agg #[.int .i64 0, .int .i64 0, .int .i64 0, .int .i64 0], .int .i64 0, .int .i64 0, .slice none 0 0], []⟩).memory Tryz.f11.params.toList Rows.topHeldSpec.vars false (#[.slice none 0 0, .agg #[.int .i64 0, .int .i64 0, .int .i64 0, .int .i64 0], .int .i64 0, .int .i64 0, .slice none 0 0] : Array Value).toList 8 = some ([.nil, .agg [.lit (.int .i64 0), .lit (.int .i64 0), .lit (.int .i64 0), .lit (.int .i64 0)], .lit (.int .i64 0), .lit (.int .i64 0), .nil], [], places) :=
  ⟨[], by kernel_rfl⟩

set_option maxRecDepth 100000 in
theorem topHeld_lifted (os : Os) (started : os.Started) (H : Type) (enc : TypeId × Value → H) (F : Stop.Interp) :
    ReturnsInHanded {} Tryz.checked os 11 .any ((OpenSpec.ofChange Rows.topHeldSpec).preRow enc Tryz.prog Tryz.f11 Rows.topHeldRow.domain false Rows.topHeldRow.laid) (((OpenSpec.ofChange Rows.topHeldSpec).at F).post enc Tryz.prog Tryz.f11 false true false false) := by
  obtain ⟨places, hx⟩ := topHeld_reads os enc
  refine returnsInHanded_of_row (C := Tryz.checked) (s := (OpenSpec.ofChange Rows.topHeldSpec)) own started (by kernel_rfl) Tryz.func11
    (witness_row_at (enc := enc) (C := Tryz.checked) false (laidWorld os) #[.slice none 0 0, .agg #[.int .i64 0, .int .i64 0, .int .i64 0, .int .i64 0], .int .i64 0, .int .i64 0, .slice none 0 0] rfl (by kernel_rfl) (by kernel_rfl) (by kernel_rfl)
      (OpenSpec.preRow_of_cond 8 hx (by kernel_rfl) (fun k hk => by cases hk) (by kernel_rfl) (topHeld_laid os))) ?_
  intro W base args ds gs before hval hW _ hcond hsz hL _ _
  exact topHeld_contract H enc W base args ds gs before hval hW hL hsz

theorem topHeld_said : Rows.TopHeldSaid :=
  OpenClaim.holds_of_cond 11 Tryz.f11 rfl rfl rfl rfl rfl rfl rfl ⟨rfl, rfl, rfl, rfl, rfl⟩ rfl rfl rfl rfl rfl (by kernel_rfl) Tryz.func11 (by kernel_rfl)
    (of_decide_eq_true (by kernel_rfl)) (by unfold Func.isWrapper; first | (rw [if_pos (by decide +kernel)]; kernel_rfl) | (rw [if_neg (by decide +kernel)]; exact ⟨rfl, rfl⟩))
    (fun os started H enc _ F => by rw [OpenClaim.pre_eq_preRow]; exact topHeld_lifted os started H enc F)

theorem topHeld_plain (f : FuncId) (fn : Func) (hf : Tryz.pinned.checked.prog.funcNamed "riddle/riddletop.TopHeld" = some f) (hfn : Tryz.pinned.checked.prog.funcs[f]? = some fn) :
    false = Tryz.pinned.checked.prog.looks [] ∧ ∀ (j : Nat) t, fn.params[j]? = some t → Tryz.pinned.checked.prog.wantsStandIn t = false := by
  obtain rfl : f = 11 := Option.some.inj ((show Tryz.prog.funcNamed "riddle/riddletop.TopHeld" = some 11 by kernel_rfl).symm.trans hf) |>.symm
  obtain rfl : fn = Tryz.f11 := (Option.some.inj (Tryz.func11.symm.trans hfn)).symm
  refine ⟨by kernel_rfl, fun j t ht => ?_⟩
  rw [Tryz.params11] at ht
  have hm : t = 59 ∨ t = 61 ∨ t = 3 ∨ t = 30 := by simpa using Array.mem_of_getElem? ht
  rcases hm with rfl | rfl | rfl | rfl
  · exact (show Tryz.prog.wantsStandIn 59 = false by kernel_rfl)
  · exact (show Tryz.prog.wantsStandIn 61 = false by kernel_rfl)
  · exact (show Tryz.prog.wantsStandIn 3 = false by kernel_rfl)
  · exact (show Tryz.prog.wantsStandIn 30 = false by kernel_rfl)

theorem topHeld_card : Rows.TopHeldCardSaid :=
  Claim7.holds_tied_plain_at .later [] _ _ _ _ topHeld_said (fun _ h => by cases h) (by kernel_rfl) (fun _ h => by cases h) topHeld_row_tie rfl ⟨rfl, rfl⟩ (by kernel_rfl) rfl topHeld_plain (by kernel_rfl)
#print axioms topHeld_card

end Go.Proofs.YtdngbojbpmdegaaGreatDoor
