/-
  For every number, StartsClose answers true: who is started has its pages, and what was measured; no more. No condition but that the library's tables are as the program's text lays them, which the card ties.
-/
import Derived.Test.YteaabfnmnekbpaaDoorKeepJ
import Derived.Test.YteaabfnmnekbpaaDoorLaid
namespace Go.Proofs.YteaabfnmnekbpaaDoor
open Go.ChangeShapes Go.WideShapes Go.ChangeAt Go.RowKit
set_option linter.unusedVariables false


set_option maxRecDepth 100000 in
set_option maxHeartbeats 4000000 in
theorem startsClose_walk (at_ : Int) (w : World) (wat : (Lit.int .i64 at_).wf = true) (ht : Tab w) :
    Calls Tryd.prog 3 #[.int .i64 at_] w fun x w' => x = .returned (.bool true) ∧ Below w.heap.size w w' := by
  have hpk := fun w' => picked_any at_ 8 w' wat (by omega) (by omega)
  have hpr := pick_lt at_ (many := 8) (by omega)
  obtain ⟨a, ha⟩ : ∃ a, pick at_ 8 = a := ⟨_, rfl⟩
  rw [ha] at hpk hpr
  obtain ⟨b, hbm⟩ : ∃ b, Int.tmod (a + 1) 8 = b := ⟨_, rfl⟩
  have hbb : 0 ≤ b ∧ b ≤ 7 ∧ b ≠ a := by
    rw [← hbm, Int.tmod_eq_emod_of_nonneg (by omega)]
    omega
  have hwp : IntKind.i64.wrap (a + 1) = a + 1 := by rw [IntKind.wrap_i64]; omega
  obtain ⟨C1, C2, C3, C4, hC⟩ := close (a := a) (b := b) (inB_iff.2 ⟨by omega, by omega⟩) hbb.2.2
  have wa : (Lit.int .i64 a).wf = true := wf_of (by omega)
  have wb : (Lit.int .i64 b).wf = true := wf_of (by omega)
  have w1 : (Lit.int .i64 1).wf = true := by decide
  have g1 : machF C1 = 0 := by rw [hC.e1]; exact create_good hC.f1
  have g2 : machF C2 = 0 := by rw [hC.e2]; exact put_good hC.f2
  have g3 : machF C3 = 0 := by rw [hC.e3]; exact measure_good hC.f3
  have g4 : machF C4 = 0 := by rw [hC.e4]; exact start_good hC.f4
  have HC : Hid (_) := hC
  have HT : Hid (Tab w) := ht
  have HG : Hid (_) := And.intro g1 (And.intro g2 (And.intro g3 g4))
  have HW : Hid (_) := And.intro wa (And.intro wb w1)
  have hn := new_any w
  unfold Mv.val at hn
  clear hC ht g1 g2 g3 g4 wa wb w1 wat hpr hbb ha
  go_enter Tryd.func3, Tryd.ntmps3
  go_upto_region 2 with (first
    | (go_at_call 5; refine hn.mono ?_; clear hn; rintro x u0 ⟨N0, rfl, hS, hO, hb⟩; have HO0 : Hid (_) := hO; have HS0 : Hid (_) := hS; have HU0 : Hid (_) := hb; have h1 := create_box hb hO.at_ hS new_good HT.out HC.out.n1 HC.out.f1; unfold Mv.val at h1; clear hS hO hb; dsimp only)
    | (go_at_call 4; refine h1.mono ?_; clear h1; rintro x u1 ⟨N1, rfl, hS, hO, hb⟩; have HS1 : Hid (_) := hS; have HO1 : Hid (_) := hO; have HU1 : Hid (_) := hb; clear hS hO hb; dsimp only)
    | fail)
  have BX1 : Hid (Box w _ u1.heap.size N1 C1) := Box.new (HU0.out.trans (HU1.out.mono HU0.out.size)) HO1.out.at_ (by rw [HC.out.e1]; exact HS1.out)
  obtain ⟨W1, hW⟩ : ∃ W1, W1 = (u1.alloc (.cells #[.slice N1.fa N1.frs.length N1.fcap, .slice N1.ea N1.ens.length N1.ecap, .slice N1.qa N1.qus.length N1.qcap] 26)) := ⟨_, rfl⟩
  obtain ⟨B, hB⟩ : ∃ B, B = u1.heap.size := ⟨_, rfl⟩
  rw [← hW, ← hB] at BX1 ⊢
  clear hW hB HU0 HU1 HO0 HO1 HS0 HS1
  go_upto_region 3 with (go_at_call 6; refine (hpk _).mono ?_; rintro x w' ⟨rfl, rfl⟩)
  clear hpk
  have h2 := put_box BX1.out HG.out.1 HT.out 1 3 a 1 HW.out.1 HW.out.2.2 HC.out.f2
  unfold Mv.val at h2
  have c0 := BX1.out.c0
  have c1 := BX1.out.c1
  have c2 := BX1.out.c2
  have lt := BX1.out.lt
  go_upto_region 4 with (go_at_call 7; refine h2.mono ?_; clear h2; rintro x u2 ⟨N2, rfl, hS, hO, hb⟩; have HS2 : Hid (_) := hS; have HO2 : Hid (_) := hO; have HU2 : Hid (_) := hb; have e0 := (hb.cell (p := ⟨B, 0, none⟩) lt).trans c0; have e1 := (hb.cell (p := ⟨B, 1, none⟩) lt).trans c1; have e2 := (hb.cell (p := ⟨B, 2, none⟩) lt).trans c2; have z0 : u2.frozen? ⟨B, 0, none⟩ = false := (hb.frozen (p := ⟨B, 0, none⟩) lt).trans (BX1.out.fz 0); have z1 : u2.frozen? ⟨B, 1, none⟩ = false := (hb.frozen (p := ⟨B, 1, none⟩) lt).trans (BX1.out.fz 1); have z2 : u2.frozen? ⟨B, 2, none⟩ = false := (hb.frozen (p := ⟨B, 2, none⟩) lt).trans (BX1.out.fz 2); have lt2 := Nat.lt_of_lt_of_le lt hb.size; clear hS hO hb c0 c1 c2 lt; dsimp only)
  clear e0 e1 e2 z0 z1 z2 lt2
  have BX2 : Hid (Box w _ B N2 _) := BX1.out.store HU2.out HO2.out HS2.out
  obtain ⟨W2, hW⟩ : ∃ W2, W2 = (((u2.setCell ⟨B, 0, none⟩ (.slice N2.fa N2.frs.length N2.fcap)).setCell ⟨B, 1, none⟩ (.slice N2.ea N2.ens.length N2.ecap)).setCell ⟨B, 2, none⟩ (.slice N2.qa N2.qus.length N2.qcap)) := ⟨_, rfl⟩
  rw [← hW] at BX2 ⊢
  clear hW HU2 HO2 HS2 BX1
  rw [← HC.out.e2] at BX2
  have h3 := measure_box BX2.out HG.out.2.1 HT.out 1 a HW.out.1 HC.out.f3
  unfold Mv.val at h3
  have c0 := BX2.out.c0
  have c1 := BX2.out.c1
  have c2 := BX2.out.c2
  have lt := BX2.out.lt
  go_upto_region 5 with (go_at_call 8; refine h3.mono ?_; clear h3; rintro x u3 ⟨N3, rfl, hS, hO, hb⟩; have HS3 : Hid (_) := hS; have HO3 : Hid (_) := hO; have HU3 : Hid (_) := hb; have e0 := (hb.cell (p := ⟨B, 0, none⟩) lt).trans c0; have e1 := (hb.cell (p := ⟨B, 1, none⟩) lt).trans c1; have e2 := (hb.cell (p := ⟨B, 2, none⟩) lt).trans c2; have z0 : u3.frozen? ⟨B, 0, none⟩ = false := (hb.frozen (p := ⟨B, 0, none⟩) lt).trans (BX2.out.fz 0); have z1 : u3.frozen? ⟨B, 1, none⟩ = false := (hb.frozen (p := ⟨B, 1, none⟩) lt).trans (BX2.out.fz 1); have z2 : u3.frozen? ⟨B, 2, none⟩ = false := (hb.frozen (p := ⟨B, 2, none⟩) lt).trans (BX2.out.fz 2); have lt2 := Nat.lt_of_lt_of_le lt hb.size; clear hS hO hb c0 c1 c2 lt; dsimp only)
  clear e0 e1 e2 z0 z1 z2 lt2
  have BX3 : Hid (Box w _ B N3 _) := BX2.out.store HU3.out HO3.out HS3.out
  obtain ⟨W3, hW⟩ : ∃ W3, W3 = (((u3.setCell ⟨B, 0, none⟩ (.slice N3.fa N3.frs.length N3.fcap)).setCell ⟨B, 1, none⟩ (.slice N3.ea N3.ens.length N3.ecap)).setCell ⟨B, 2, none⟩ (.slice N3.qa N3.qus.length N3.qcap)) := ⟨_, rfl⟩
  rw [← hW] at BX3 ⊢
  clear hW HU3 HO3 HS3 BX2
  rw [← HC.out.e3] at BX3
  have h4 := measure_box BX3.out HG.out.2.2.1 HT.out 1 b HW.out.2.1 HC.out.t3
  unfold Mv.val at h4
  have c0 := BX3.out.c0
  have c1 := BX3.out.c1
  have c2 := BX3.out.c2
  have lt := BX3.out.lt
  go_upto_region 6 with (go_at_call 8; refine h4.mono ?_; clear h4; rintro x u4 ⟨N4, rfl, hS, hO, hb⟩; have HS4 : Hid (_) := hS; have HO4 : Hid (_) := hO; have HU4 : Hid (_) := hb; have e0 := (hb.cell (p := ⟨B, 0, none⟩) lt).trans c0; have e1 := (hb.cell (p := ⟨B, 1, none⟩) lt).trans c1; have e2 := (hb.cell (p := ⟨B, 2, none⟩) lt).trans c2; have z0 : u4.frozen? ⟨B, 0, none⟩ = false := (hb.frozen (p := ⟨B, 0, none⟩) lt).trans (BX3.out.fz 0); have z1 : u4.frozen? ⟨B, 1, none⟩ = false := (hb.frozen (p := ⟨B, 1, none⟩) lt).trans (BX3.out.fz 1); have z2 : u4.frozen? ⟨B, 2, none⟩ = false := (hb.frozen (p := ⟨B, 2, none⟩) lt).trans (BX3.out.fz 2); have lt2 := Nat.lt_of_lt_of_le lt hb.size; clear hS hO hb c0 c1 c2 lt; dsimp only)
  clear e0 e1 e2 z0 z1 z2 lt2
  have BX4 : Hid (Box w _ B _ _) := (BX3.out.keep HU4.out).keep ((Below.refl _ _).alloc (Nat.le_refl _) (.cells #[.slice N4.fa N4.frs.length N4.fcap, .slice N4.ea N4.ens.length N4.ecap, .slice N4.qa N4.qus.length N4.qcap] 26))
  obtain ⟨W4, hW⟩ : ∃ W4, W4 = (u4.alloc (.cells #[.slice N4.fa N4.frs.length N4.fcap, .slice N4.ea N4.ens.length N4.ecap, .slice N4.qa N4.qus.length N4.qcap] 26)) := ⟨_, rfl⟩
  rw [← hW] at BX4 ⊢
  clear hW HU4 HO4 HS4 BX3
  have h5 := start_box BX4.out HG.out.2.2.1 1 HC.out.f4
  unfold Mv.val at h5
  have c0 := BX4.out.c0
  have c1 := BX4.out.c1
  have c2 := BX4.out.c2
  have lt := BX4.out.lt
  go_upto_region 7 with (go_at_call 9; refine h5.mono ?_; clear h5; rintro x u5 ⟨N5, rfl, hS, hO, hb⟩; have HS5 : Hid (_) := hS; have HO5 : Hid (_) := hO; have HU5 : Hid (_) := hb; have e0 := (hb.cell (p := ⟨B, 0, none⟩) lt).trans c0; have e1 := (hb.cell (p := ⟨B, 1, none⟩) lt).trans c1; have e2 := (hb.cell (p := ⟨B, 2, none⟩) lt).trans c2; have z0 : u5.frozen? ⟨B, 0, none⟩ = false := (hb.frozen (p := ⟨B, 0, none⟩) lt).trans (BX4.out.fz 0); have z1 : u5.frozen? ⟨B, 1, none⟩ = false := (hb.frozen (p := ⟨B, 1, none⟩) lt).trans (BX4.out.fz 1); have z2 : u5.frozen? ⟨B, 2, none⟩ = false := (hb.frozen (p := ⟨B, 2, none⟩) lt).trans (BX4.out.fz 2); have lt2 := Nat.lt_of_lt_of_le lt hb.size; clear hS hO hb c0 c1 c2 lt; dsimp only)
  clear e0 e1 e2 z0 z1 z2 lt2
  have BX5 : Hid (Box w _ B N5 _) := BX4.out.store HU5.out HO5.out HS5.out
  obtain ⟨W5, hW⟩ : ∃ W5, W5 = (((u5.setCell ⟨B, 0, none⟩ (.slice N5.fa N5.frs.length N5.fcap)).setCell ⟨B, 1, none⟩ (.slice N5.ea N5.ens.length N5.ecap)).setCell ⟨B, 2, none⟩ (.slice N5.qa N5.qus.length N5.qcap)) := ⟨_, rfl⟩
  rw [← hW] at BX5 ⊢
  clear hW HU5 HO5 HS5 BX4
  rw [← HC.out.e4] at BX5
  have h6 := put_box BX5.out HG.out.2.2.2 HT.out 1 4 b 1 HW.out.2.1 HW.out.2.2 HC.out.p4
  unfold Mv.val at h6
  have c0 := BX5.out.c0
  have c1 := BX5.out.c1
  have c2 := BX5.out.c2
  have lt := BX5.out.lt
  go_upto_region 8 with (go_at_call 7; refine h6.mono ?_; clear h6; rintro x u6 ⟨N6, rfl, hS, hO, hb⟩; have HS6 : Hid (_) := hS; have HO6 : Hid (_) := hO; have HU6 : Hid (_) := hb; have e0 := (hb.cell (p := ⟨B, 0, none⟩) lt).trans c0; have e1 := (hb.cell (p := ⟨B, 1, none⟩) lt).trans c1; have e2 := (hb.cell (p := ⟨B, 2, none⟩) lt).trans c2; have z0 : u6.frozen? ⟨B, 0, none⟩ = false := (hb.frozen (p := ⟨B, 0, none⟩) lt).trans (BX5.out.fz 0); have z1 : u6.frozen? ⟨B, 1, none⟩ = false := (hb.frozen (p := ⟨B, 1, none⟩) lt).trans (BX5.out.fz 1); have z2 : u6.frozen? ⟨B, 2, none⟩ = false := (hb.frozen (p := ⟨B, 2, none⟩) lt).trans (BX5.out.fz 2); have lt2 := Nat.lt_of_lt_of_le lt hb.size; clear hS hO hb c0 c1 c2 lt; dsimp only)
  clear e0 e1 e2 z0 z1 z2 lt2
  have BX6 : Hid (Box w _ B _ _) := (BX5.out.keep HU6.out).keep ((Below.refl _ _).alloc (Nat.le_refl _) (.cells #[.slice N6.fa N6.frs.length N6.fcap, .slice N6.ea N6.ens.length N6.ecap, .slice N6.qa N6.qus.length N6.qcap] 26))
  obtain ⟨W6, hW⟩ : ∃ W6, W6 = (u6.alloc (.cells #[.slice N6.fa N6.frs.length N6.fcap, .slice N6.ea N6.ens.length N6.ecap, .slice N6.qa N6.qus.length N6.qcap] 26)) := ⟨_, rfl⟩
  rw [← hW] at BX6 ⊢
  clear hW HU6 HO6 HS6 BX5
  have h7 := measure_box BX6.out HG.out.2.2.2 HT.out 1 a HW.out.1 HC.out.m4
  unfold Mv.val at h7
  have c0 := BX6.out.c0
  have c1 := BX6.out.c1
  have c2 := BX6.out.c2
  have lt := BX6.out.lt
  go_upto_region 9 with (go_at_call 8; refine h7.mono ?_; clear h7; rintro x u7 ⟨N7, rfl, hS, hO, hb⟩; have HS7 : Hid (_) := hS; have HO7 : Hid (_) := hO; have HU7 : Hid (_) := hb; have e0 := (hb.cell (p := ⟨B, 0, none⟩) lt).trans c0; have e1 := (hb.cell (p := ⟨B, 1, none⟩) lt).trans c1; have e2 := (hb.cell (p := ⟨B, 2, none⟩) lt).trans c2; have z0 : u7.frozen? ⟨B, 0, none⟩ = false := (hb.frozen (p := ⟨B, 0, none⟩) lt).trans (BX6.out.fz 0); have z1 : u7.frozen? ⟨B, 1, none⟩ = false := (hb.frozen (p := ⟨B, 1, none⟩) lt).trans (BX6.out.fz 1); have z2 : u7.frozen? ⟨B, 2, none⟩ = false := (hb.frozen (p := ⟨B, 2, none⟩) lt).trans (BX6.out.fz 2); have lt2 := Nat.lt_of_lt_of_le lt hb.size; clear hS hO hb c0 c1 c2 lt; dsimp only)
  clear e0 e1 e2 z0 z1 z2 lt2
  have BX7 : Hid (Box w _ B _ _) := (BX6.out.keep HU7.out).keep ((Below.refl _ _).alloc (Nat.le_refl _) (.cells #[.slice N7.fa N7.frs.length N7.fcap, .slice N7.ea N7.ens.length N7.ecap, .slice N7.qa N7.qus.length N7.qcap] 26))
  obtain ⟨W7, hW⟩ : ∃ W7, W7 = (u7.alloc (.cells #[.slice N7.fa N7.frs.length N7.fcap, .slice N7.ea N7.ens.length N7.ecap, .slice N7.qa N7.qus.length N7.qcap] 26)) := ⟨_, rfl⟩
  rw [← hW] at BX7 ⊢
  clear hW HU7 HO7 HS7 BX6
  have h8 := start_box BX7.out HG.out.2.2.2 1 HC.out.s4
  unfold Mv.val at h8
  have c0 := BX7.out.c0
  have c1 := BX7.out.c1
  have c2 := BX7.out.c2
  have lt := BX7.out.lt
  go_upto_region 10 with (go_at_call 9; refine h8.mono ?_; clear h8; rintro x u8 ⟨N8, rfl, hS, hO, hb⟩; have HS8 : Hid (_) := hS; have HO8 : Hid (_) := hO; have HU8 : Hid (_) := hb; have e0 := (hb.cell (p := ⟨B, 0, none⟩) lt).trans c0; have e1 := (hb.cell (p := ⟨B, 1, none⟩) lt).trans c1; have e2 := (hb.cell (p := ⟨B, 2, none⟩) lt).trans c2; have z0 : u8.frozen? ⟨B, 0, none⟩ = false := (hb.frozen (p := ⟨B, 0, none⟩) lt).trans (BX7.out.fz 0); have z1 : u8.frozen? ⟨B, 1, none⟩ = false := (hb.frozen (p := ⟨B, 1, none⟩) lt).trans (BX7.out.fz 1); have z2 : u8.frozen? ⟨B, 2, none⟩ = false := (hb.frozen (p := ⟨B, 2, none⟩) lt).trans (BX7.out.fz 2); have lt2 := Nat.lt_of_lt_of_le lt hb.size; clear hS hO hb c0 c1 c2 lt; dsimp only)
  clear e0 e1 e2 z0 z1 z2 lt2
  have BX8 : Hid (Box w _ B _ _) := (BX7.out.keep HU8.out).keep ((Below.refl _ _).alloc (Nat.le_refl _) (.cells #[.slice N8.fa N8.frs.length N8.fcap, .slice N8.ea N8.ens.length N8.ecap, .slice N8.qa N8.qus.length N8.qcap] 26))
  obtain ⟨W8, hW⟩ : ∃ W8, W8 = (u8.alloc (.cells #[.slice N8.fa N8.frs.length N8.fcap, .slice N8.ea N8.ens.length N8.ecap, .slice N8.qa N8.qus.length N8.qcap] 26)) := ⟨_, rfl⟩
  rw [← hW] at BX8 ⊢
  clear hW HU8 HO8 HS8 BX7
  have h9 := start_box BX8.out HG.out.2.2.2 2 HC.out.n4
  unfold Mv.val at h9
  have c0 := BX8.out.c0
  have c1 := BX8.out.c1
  have c2 := BX8.out.c2
  have lt := BX8.out.lt
  go_upto_region 11 with (go_at_call 9; refine h9.mono ?_; clear h9; rintro x u9 ⟨N9, rfl, hS, hO, hb⟩; have HS9 : Hid (_) := hS; have HO9 : Hid (_) := hO; have HU9 : Hid (_) := hb; have e0 := (hb.cell (p := ⟨B, 0, none⟩) lt).trans c0; have e1 := (hb.cell (p := ⟨B, 1, none⟩) lt).trans c1; have e2 := (hb.cell (p := ⟨B, 2, none⟩) lt).trans c2; have z0 : u9.frozen? ⟨B, 0, none⟩ = false := (hb.frozen (p := ⟨B, 0, none⟩) lt).trans (BX8.out.fz 0); have z1 : u9.frozen? ⟨B, 1, none⟩ = false := (hb.frozen (p := ⟨B, 1, none⟩) lt).trans (BX8.out.fz 1); have z2 : u9.frozen? ⟨B, 2, none⟩ = false := (hb.frozen (p := ⟨B, 2, none⟩) lt).trans (BX8.out.fz 2); have lt2 := Nat.lt_of_lt_of_le lt hb.size; clear hS hO hb c0 c1 c2 lt; dsimp only)
  clear e0 e1 e2 z0 z1 z2 lt2
  have BX9 : Hid (Box w _ B _ _) := (BX8.out.keep HU9.out).keep ((Below.refl _ _).alloc (Nat.le_refl _) (.cells #[.slice N9.fa N9.frs.length N9.fcap, .slice N9.ea N9.ens.length N9.ecap, .slice N9.qa N9.qus.length N9.qcap] 26))
  obtain ⟨W9, hW⟩ : ∃ W9, W9 = (u9.alloc (.cells #[.slice N9.fa N9.frs.length N9.fcap, .slice N9.ea N9.ens.length N9.ecap, .slice N9.qa N9.qus.length N9.qcap] 26)) := ⟨_, rfl⟩
  rw [← hW] at BX9 ⊢
  clear hW HU9 HO9 HS9 BX8
  have HB : Hid (Below w.heap.size w W9) := BX9.out.bel
  clear BX9
  go_wp2
  go_ret
  exact ⟨rfl, HB.out⟩

set_option maxRecDepth 100000 in
theorem startsClose_contract (H : Type) (enc : TypeId × Value → H) (W : World) (base : Nat) (args : Array Value) (ds gs : List (DataW H)) (before : List MemPlace)
    (hval0 : ∀ (j : Nat) t v, Tryd.f3.params[j]? = some t → args[j]? = some v → Value.okWide Tryd.prog W .any base t v)
    (hW : DataW.Whole enc Tryd.prog Tryd.f3.params.toList Rows.startsCloseSpec.vars false W args.toList ds gs before) (hL : laidMetH Tryd.prog listed W) :
    Calls Tryd.prog 3 args W fun e W' => ∃ v, e = .returned v ∧ Rows.startsCloseSpec.post enc Tryd.prog Tryd.f3 false true false false W args v W' := by
  have hval := hval0
  have hW' := hW
  obtain ⟨p, q, hA0, hV, rfl, hfz, hnd⟩ := hW
  have hA : DataW.TrodAll enc Tryd.prog W 0 (fun _ => true) true Tryd.f3.params.toList args.toList ds p := hA0
  rw [Tryd.params3] at hA hval
  obtain ⟨v0, vs0, d0, ds0, p0, q0, hargs, rfl, rfl, h0, r0⟩ := trodAll_cons hA
  obtain ⟨rfl, rfl, rfl⟩ := trodAll_nil r0
  obtain rfl : args = #[v0] := by cases args; simp_all
  obtain ⟨rfl, rfl⟩ := trodVars_none hV
  have k0 := h0
  have lt0 : ∀ x ∈ p0, x.block < W.heap.size := by obtain ⟨m, hm⟩ := k0; exact DataW.trod_lt m _ _ _ hm
  obtain ⟨x0, rfl, rfl, rfl, wx0⟩ := open_int Tryd.underlying3 (hval 0 3 v0 rfl rfl) h0
  clear hA0 hval0
  refine (startsClose_walk x0 W wx0 (tab_of hL)).mono fun e W' ⟨he, bel⟩ => ?_
  subst he
  exact ⟨_, rfl, _, _, _, [], _, [], hW', trodAll_mk1 (shut_bool Tryd.underlying4 _), (trodAll_cons_mk (Below.trod laidOut (by kernel_rfl) (of_decide_eq_true (by kernel_rfl)) k0 bel lt0) trodAll_mk0), rfl, bel.frame _, fun h => by cases h⟩

theorem startsClose_laid (os : Os) : laidMet Tryd.prog listed ((laidWorld os).forCall (fun _ _ => 0) ⟨#[], #[.int .i64 0], []⟩).memory :=
  laidMet_of_run' 8 (by kernel_rfl) (by kernel_rfl)
theorem startsClose_reads (os : Os) {H : Type} (enc : TypeId × Value → H) : ∃ places, DataW.whole enc Tryd.prog ((laidWorld os).forCall (fun _ _ => 0) ⟨#[], #[.int .i64 0], []⟩).memory Tryd.f3.params.toList Rows.startsCloseSpec.vars false (#[.int .i64 0] : Array Value).toList 8 = some ([.lit (.int .i64 0)], [], places) :=
  ⟨[], by kernel_rfl⟩

set_option maxRecDepth 100000 in
theorem startsClose_lifted (os : Os) (started : os.Started) (H : Type) (enc : TypeId × Value → H) (F : Stop.Interp) :
    ReturnsInHanded {} Tryd.checked os 3 .any ((OpenSpec.ofChange Rows.startsCloseSpec).preRow enc Tryd.prog Tryd.f3 Rows.startsCloseRow.domain false Rows.startsCloseRow.laid) (((OpenSpec.ofChange Rows.startsCloseSpec).at F).post enc Tryd.prog Tryd.f3 false true false false) := by
  obtain ⟨places, hx⟩ := startsClose_reads os enc
  refine returnsInHanded_of_row (C := Tryd.checked) (s := (OpenSpec.ofChange Rows.startsCloseSpec)) own started (by kernel_rfl) Tryd.func3
    (witness_row_at (enc := enc) (C := Tryd.checked) false (laidWorld os) #[.int .i64 0] rfl (by kernel_rfl) (by kernel_rfl) (by kernel_rfl)
      (OpenSpec.preRow_of_cond 8 hx (by kernel_rfl) (fun k hk => by cases hk) (by kernel_rfl) (startsClose_laid os))) ?_
  intro W base args ds gs before hval hW _ hcond hsz hL _ _
  exact startsClose_contract H enc W base args ds gs before hval hW hL

theorem startsClose_said : Rows.StartsCloseSaid :=
  OpenClaim.holds_of_cond 3 Tryd.f3 rfl rfl rfl rfl rfl rfl rfl ⟨rfl, rfl, rfl, rfl, rfl⟩ rfl rfl rfl rfl rfl (by kernel_rfl) Tryd.func3 (by kernel_rfl)
    (of_decide_eq_true (by kernel_rfl)) (by unfold Func.isWrapper; first | (rw [if_pos (by decide +kernel)]; kernel_rfl) | (rw [if_neg (by decide +kernel)]; exact ⟨rfl, rfl⟩))
    (fun os started H enc _ F => by rw [OpenClaim.pre_eq_preRow]; exact startsClose_lifted os started H enc F)

theorem startsClose_plain (f : FuncId) (fn : Func) (hf : Tryd.pinned.checked.prog.funcNamed "riddle/riddlekeep.StartsClose" = some f) (hfn : Tryd.pinned.checked.prog.funcs[f]? = some fn) :
    false = Tryd.pinned.checked.prog.looks [] ∧ ∀ (j : Nat) t, fn.params[j]? = some t → Tryd.pinned.checked.prog.wantsStandIn t = false := by
  obtain rfl : f = 3 := Option.some.inj ((show Tryd.prog.funcNamed "riddle/riddlekeep.StartsClose" = some 3 by kernel_rfl).symm.trans hf) |>.symm
  obtain rfl : fn = Tryd.f3 := (Option.some.inj (Tryd.func3.symm.trans hfn)).symm
  refine ⟨by kernel_rfl, fun j t ht => ?_⟩
  rw [Tryd.params3] at ht
  have hm : t = 3 := by simpa using Array.mem_of_getElem? ht
  subst hm
  exact (show Tryd.prog.wantsStandIn 3 = false by kernel_rfl)

theorem startsClose_card : Rows.StartsCloseCardSaid :=
  Claim7.holds_tied_plain_at .later [] _ _ _ _ startsClose_said (fun _ h => by cases h) (by kernel_rfl) (fun _ h => by cases h) startsClose_row_tie rfl ⟨rfl, rfl⟩ (by kernel_rfl) rfl startsClose_plain (by kernel_rfl)
#print axioms startsClose_card

end Go.Proofs.YteaabfnmnekbpaaDoor
