/-
  For every number of a frame, of a word and of a place, PagesApart answers true: from without nobody sees, or changes, what is in an enclave; when it is gone nothing of it is left. No condition but that the library's tables are as the program's text lays them, which the card ties.
-/
import Derived.Test.YtdngbojbpmdegaaDoorKeepJ
import Derived.Test.YtdngbojbpmdegaaDoorLaid
import Derived.Deep.RegionHeld3
namespace Go.Proofs.YtdngbojbpmdegaaDoor
open Go.ChangeShapes Go.WideShapes Go.ChangeAt Go.RowKit
set_option linter.unusedVariables false


set_option maxRecDepth 100000 in
set_option maxHeartbeats 4000000 in
theorem pagesApart_walk (f at_ n : Int) (w : World) (wf : (Lit.int .i64 f).wf = true) (wat : (Lit.int .i64 at_).wf = true) (wn : (Lit.int .i64 n).wf = true) (ht : Tab w) :
    Calls Tryd.prog 3 #[.int .i64 f, .int .i64 at_, .int .i64 n] w fun x w' => x = .returned (.bool true) ∧ Below w.heap.size w w' := by
  have wn1 : (Lit.int .i64 (IntKind.i64.wrap (n + 1))).wf = true := wrap_wf _
  have hp1 := fun w' => picked_any f 24 w' wf (by omega) (by omega)
  have hp2 := fun w' => picked_any at_ 8 w' wat (by omega) (by omega)
  have hp3 := fun w' => picked_any n 8 w' wn (by omega) (by omega)
  have hp4 := fun w' => picked_any n 65536 w' wn (by omega) (by omega)
  have hp5 := fun w' => picked_any (IntKind.i64.wrap (n + 1)) 8 w' wn1 (by omega) (by omega)
  obtain ⟨k, hk⟩ : ∃ k : Nat, pick f 24 = (k : Int) := ⟨(pick f 24).toNat, by have := pick_lt f (many := 24) (by omega); omega⟩
  obtain ⟨p, hp⟩ : ∃ p : Nat, pick at_ 8 = (p : Int) := ⟨(pick at_ 8).toNat, by have := pick_lt at_ (many := 8) (by omega); omega⟩
  have hk24 : k < 24 := by have := pick_lt f (many := 24) (by omega); omega
  have hp8 : p < 8 := by have := pick_lt at_ (many := 8) (by omega); omega
  obtain ⟨a, ha⟩ : ∃ a, pick n 8 = a := ⟨_, rfl⟩
  obtain ⟨v, hv⟩ : ∃ v, pick n 65536 = v := ⟨_, rfl⟩
  obtain ⟨a2, ha2⟩ : ∃ a, pick (IntKind.i64.wrap (n + 1)) 8 = a := ⟨_, rfl⟩
  have ra : 0 ≤ a ∧ a < 8 := by rw [← ha]; exact pick_lt n (by omega)
  have rv : 0 ≤ v ∧ v < 65536 := by rw [← hv]; exact pick_lt n (by omega)
  have ra2 : 0 ≤ a2 ∧ a2 < 8 := by rw [← ha2]; exact pick_lt _ (by omega)
  rw [hk] at hp1
  rw [hp] at hp2
  rw [ha] at hp3
  rw [hv] at hp4
  rw [ha2] at hp5
  obtain ⟨n1, hn1⟩ : ∃ n1, IntKind.i64.wrap (n + 1) = n1 := ⟨_, rfl⟩
  rw [hn1] at hp5
  obtain ⟨C1, C2, C3, C4, C5, hC⟩ := apart2 hk24 hp8 (a := a) (v := v) (a2 := a2) (inB_iff.2 ⟨by omega, by omega⟩) (inB_iff.2 ⟨by omega, by omega⟩) (inB_iff.2 ⟨by omega, by omega⟩)
  have g1 : machF C1 = 0 := by rw [hC.e1]; exact poke_good hC.f1
  have g2 : machF C2 = 0 := by rw [hC.e2]; exact create_good hC.f2
  have g3 : machF C3 = 0 := by rw [hC.e3]; exact put_good hC.f3
  have g4 : machF C4 = 0 := by rw [hC.e4]; exact poke_good hC.f4
  have HC : Hid (_) := hC
  have HT : Hid (Tab w) := ht
  have HG : Hid (_) := And.intro g1 (And.intro g2 (And.intro g3 g4))
  have HW : Hid ((Lit.int .i64 a).wf = true ∧ (Lit.int .i64 v).wf = true ∧ (Lit.int .i64 a2).wf = true ∧ (Lit.int .i64 1).wf = true ∧ (Lit.int .i64 0).wf = true ∧ (Lit.int .i64 7).wf = true) := ⟨wf_of (by omega), wf_of (by omega), wf_of (by omega), by decide, by decide, by decide⟩
  have hn := new_any w
  unfold Mv.val at hn
  clear hC ht g1 g2 g3 g4 wf wat wn wn1 hk hp ha hv ha2 ra rv ra2
  have hki : (k : Int) < 24 := by omega
  have hpi : (p : Int) < 8 := by omega
  go_enter Tryd.func3, Tryd.ntmps3
  go_upto_region 2 with (first
    | (go_at_call 4; refine hn.mono ?_; clear hn; rintro x u0 ⟨N0, rfl, hS, hO, hb⟩; have HO0 : Hid (_) := hO; have HS0 : Hid (_) := hS; have HU0 : Hid (_) := hb; clear hS hO hb; dsimp only)
    | fail)
  have BX0 : Hid (Box w _ u0.heap.size N0 newM) := Box.new HU0.out HO0.out.at_ HS0.out
  obtain ⟨W0, hW⟩ : ∃ W0, W0 = (u0.alloc (.cells #[.slice N0.fa N0.frs.length N0.fcap, .slice N0.ea N0.ens.length N0.ecap, .slice N0.qa N0.qus.length N0.qcap] 26)) := ⟨_, rfl⟩
  obtain ⟨B, hB⟩ : ∃ B, B = u0.heap.size := ⟨_, rfl⟩
  rw [← hW, ← hB] at BX0 ⊢
  clear hW hB HU0 HO0 HS0
  go_upto_region 3 with (go_at_call 5; refine (hp1 _).mono ?_; rintro x w' ⟨rfl, rfl⟩)
  clear hp1
  go_upto_region 4 with (go_at_call 5; refine (hp2 _).mono ?_; rintro x w' ⟨rfl, rfl⟩)
  clear hp2
  have h1 := poke_box BX0.out new_good k p 7 HW.out.2.2.2.2.2 HC.out.f1
  unfold Mv.val at h1
  have c0 := BX0.out.c0
  have c1 := BX0.out.c1
  have c2 := BX0.out.c2
  have lt := BX0.out.lt
  go_upto_region 5 with (go_at_call 6; refine h1.mono ?_; clear h1; rintro x u1 ⟨N1, rfl, hS, hO, hb⟩; have HS1 : Hid (_) := hS; have HO1 : Hid (_) := hO; have HU1 : Hid (_) := hb; have e0 := (hb.cell (p := ⟨B, 0, none⟩) lt).trans c0; have e1 := (hb.cell (p := ⟨B, 1, none⟩) lt).trans c1; have e2 := (hb.cell (p := ⟨B, 2, none⟩) lt).trans c2; have z0 : u1.frozen? ⟨B, 0, none⟩ = false := (hb.frozen (p := ⟨B, 0, none⟩) lt).trans (BX0.out.fz 0); have z1 : u1.frozen? ⟨B, 1, none⟩ = false := (hb.frozen (p := ⟨B, 1, none⟩) lt).trans (BX0.out.fz 1); have z2 : u1.frozen? ⟨B, 2, none⟩ = false := (hb.frozen (p := ⟨B, 2, none⟩) lt).trans (BX0.out.fz 2); have lt2 := Nat.lt_of_lt_of_le lt hb.size; clear hS hO hb c0 c1 c2 lt; dsimp only)
  clear e0 e1 e2 z0 z1 z2 lt2
  have BX1 : Hid (Box w _ B N1 _) := BX0.out.store HU1.out HO1.out HS1.out
  obtain ⟨W1, hW⟩ : ∃ W1, W1 = (((u1.setCell ⟨B, 0, none⟩ (.slice N1.fa N1.frs.length N1.fcap)).setCell ⟨B, 1, none⟩ (.slice N1.ea N1.ens.length N1.ecap)).setCell ⟨B, 2, none⟩ (.slice N1.qa N1.qus.length N1.qcap)) := ⟨_, rfl⟩
  rw [← hW] at BX1 ⊢
  clear hW HU1 HO1 HS1 BX0
  rw [← HC.out.e1] at BX1
  have h2 := create_box BX1.out.bel BX1.out.at_ BX1.out.same HG.out.1 HT.out HC.out.n2 HC.out.f2
  unfold Mv.val at h2
  have c0 := BX1.out.c0
  have c1 := BX1.out.c1
  have c2 := BX1.out.c2
  have lt := BX1.out.lt
  go_upto_region 6 with (go_at_call 7; refine h2.mono ?_; clear h2; rintro x u2 ⟨N2, rfl, hS, hO, hb⟩; have HS2 : Hid (_) := hS; have HO2 : Hid (_) := hO; have HU2 : Hid (_) := hb; have e0 := (hb.cell (p := ⟨B, 0, none⟩) lt).trans c0; have e1 := (hb.cell (p := ⟨B, 1, none⟩) lt).trans c1; have e2 := (hb.cell (p := ⟨B, 2, none⟩) lt).trans c2; have z0 : u2.frozen? ⟨B, 0, none⟩ = false := (hb.frozen (p := ⟨B, 0, none⟩) lt).trans (BX1.out.fz 0); have z1 : u2.frozen? ⟨B, 1, none⟩ = false := (hb.frozen (p := ⟨B, 1, none⟩) lt).trans (BX1.out.fz 1); have z2 : u2.frozen? ⟨B, 2, none⟩ = false := (hb.frozen (p := ⟨B, 2, none⟩) lt).trans (BX1.out.fz 2); have lt2 := Nat.lt_of_lt_of_le lt hb.size; clear hS hO hb c0 c1 c2 lt; dsimp only)
  clear e0 e1 e2 z0 z1 z2 lt2
  have BX2 : Hid (Box w _ B N2 _) := BX1.out.store HU2.out HO2.out HS2.out
  obtain ⟨W2, hW⟩ : ∃ W2, W2 = (((u2.setCell ⟨B, 0, none⟩ (.slice N2.fa N2.frs.length N2.fcap)).setCell ⟨B, 1, none⟩ (.slice N2.ea N2.ens.length N2.ecap)).setCell ⟨B, 2, none⟩ (.slice N2.qa N2.qus.length N2.qcap)) := ⟨_, rfl⟩
  rw [← hW] at BX2 ⊢
  clear hW HU2 HO2 HS2 BX1
  rw [← HC.out.e2] at BX2
  go_cut [13] from 42 to 50 (fun s13 wx => s13 = .int .i64 0 ∧ ∃ N3, Box w wx B N3 C3)
  case first =>
    have BXD : Hid (Box w W2.drew B N2 _) := BX2.out.keep (Below.refl _ _).drew
    have h3 := put_box BXD.out HG.out.2.1 HT.out 1 k a 1 HW.out.1 HW.out.2.2.2.1 HC.out.f3
    unfold Mv.val at h3
    have c0 := BX2.out.c0
    have c1 := BX2.out.c1
    have c2 := BX2.out.c2
    have lt := BX2.out.lt
    go_region_law (first
      | (go_simp; go_at_call 5; refine (hp3 _).mono ?_; rintro x w' ⟨rfl, rfl⟩; dsimp only)
      | (go_simp; go_at_call 8; refine h3.mono ?_; clear h3; rintro x u3 ⟨N3, rfl, hS, hO, hb⟩; have HS3 : Hid (_) := hS; have HO3 : Hid (_) := hO; have HU3 : Hid (_) := hb; have e0 := (hb.cell (p := ⟨B, 0, none⟩) lt).trans c0; have e1 := (hb.cell (p := ⟨B, 1, none⟩) lt).trans c1; have e2 := (hb.cell (p := ⟨B, 2, none⟩) lt).trans c2; have z0 : u3.frozen? ⟨B, 0, none⟩ = false := (hb.frozen (p := ⟨B, 0, none⟩) lt).trans (BXD.out.fz 0); have z1 : u3.frozen? ⟨B, 1, none⟩ = false := (hb.frozen (p := ⟨B, 1, none⟩) lt).trans (BXD.out.fz 1); have z2 : u3.frozen? ⟨B, 2, none⟩ = false := (hb.frozen (p := ⟨B, 2, none⟩) lt).trans (BXD.out.fz 2); have lt2 := Nat.lt_of_lt_of_le lt hb.size; clear hS hO hb c0 c1 c2 lt; dsimp only)
      | fail)
    all_goals
      go_wp2_with fail
      go_meet
      case rel => exact ⟨rfl, _, by rw [HC.out.e3]; exact BXD.out.store HU3.out HO3.out HS3.out⟩
  case rest =>
    obtain ⟨rfl, N3, bx⟩ := hcut
    have BX3 : Hid (_) := bx
    clear bx BX2
    have hq := peek_box BX3.out k p HC.out.p3 HC.out.w3
    unfold Mv.val at hq
    have c0 := BX3.out.c0
    have c1 := BX3.out.c1
    have c2 := BX3.out.c2
    have lt := BX3.out.lt
    go_upto_region 10 with (go_at_call 9; refine hq.mono ?_; clear hq; rintro x W4 ⟨rfl, hb⟩; have HU4 : Hid (_) := hb; clear hb c0 c1 c2 lt; dsimp only)
    have BX4 : Hid (_) := BX3.out.keep HU4.out
    clear BX3 HU4
    obtain ⟨N4, hN4⟩ : ∃ N4, N4 = N3 := ⟨_, rfl⟩
    rw [← hN4] at BX4
    clear hN4
    go_cut [16, 17] from 68 to 76 (fun s16 s17 wx => ∃ X N5, s16 = .pointer (some ⟨X, 0, none⟩) ∧ s17 = .int .i64 0 ∧ Box w wx B N4 C3 ∧ Box w wx X N5 C4)
    case first =>
      have BXD : Hid (Box w W4.drew B _ _) := BX4.out.keep (Below.refl _ _).drew
      have BXE : Hid (Box w (W4.alloc (.cells #[.slice none 0 0, .slice none 0 0, .slice none 0 0] 26)).drew B _ _) := BX4.out.keep ((Below.refl _ _).alloc (Nat.le_refl _) _).drew
      have BXZ : Hid (Box w (W4.alloc (.cells #[.slice none 0 0, .slice none 0 0, .slice none 0 0] 26)).drew W4.heap.size noM noM) := (Box.new (N := noM) (C := noM) BX4.out.bel (noM_at _) (Mv.Same.refl _)).keep (Below.refl _ _).drew
      have h5 := poke_box BXD.out HG.out.2.2.1 k p v HW.out.2.1 HC.out.f4
      have k5 := poke_box BXE.out HG.out.2.2.1 k p v HW.out.2.1 HC.out.f4
      unfold Mv.val at h5 k5
      have c0 := BX4.out.c0
      have c1 := BX4.out.c1
      have c2 := BX4.out.c2
      have lt := BX4.out.lt
      go_region_law (first
        | (go_simp; go_at_call 5; refine (hp4 _).mono ?_; rintro x w' ⟨rfl, rfl⟩; dsimp only)
        | (go_simp; go_at_call 6; refine h5.mono ?_; clear h5 k5; rintro x u5 ⟨N5, rfl, hS, hO, hb⟩; have HS5 : Hid (_) := hS; have HO5 : Hid (_) := hO; have HU5 : Hid (_) := hb; clear hS hO hb; dsimp only)
        | (go_simp; go_at_call 6; refine k5.mono ?_; clear h5 k5; rintro x u5 ⟨N5, rfl, hS, hO, hb⟩; have HS5 : Hid (_) := hS; have HO5 : Hid (_) := hO; have HU5 : Hid (_) := hb; have ltz := BXZ.out.lt; have e0 := (hb.cell (p := ⟨W4.heap.size, 0, none⟩) ltz).trans BXZ.out.c0; have e1 := (hb.cell (p := ⟨W4.heap.size, 1, none⟩) ltz).trans BXZ.out.c1; have e2 := (hb.cell (p := ⟨W4.heap.size, 2, none⟩) ltz).trans BXZ.out.c2; dsimp only [noM] at e0 e1 e2; have z0 : u5.frozen? ⟨W4.heap.size, 0, none⟩ = false := (hb.frozen (p := ⟨W4.heap.size, 0, none⟩) ltz).trans (BXZ.out.fz 0); have z1 : u5.frozen? ⟨W4.heap.size, 1, none⟩ = false := (hb.frozen (p := ⟨W4.heap.size, 1, none⟩) ltz).trans (BXZ.out.fz 1); have z2 : u5.frozen? ⟨W4.heap.size, 2, none⟩ = false := (hb.frozen (p := ⟨W4.heap.size, 2, none⟩) ltz).trans (BXZ.out.fz 2); have lt2 := Nat.lt_of_lt_of_le ltz hb.size; clear hS hO hb ltz; dsimp only)
        | fail)
      all_goals
        go_wp2_with fail
        go_meet
        case rel => first
          | exact ⟨_, _, rfl, rfl, (BXD.out.keep HU5.out).keep ((Below.refl _ _).alloc (Nat.le_refl _) _), by rw [HC.out.e4]; exact Box.new (BXD.out.keep HU5.out).bel HO5.out.at_ HS5.out⟩
          | exact ⟨_, _, rfl, rfl, BX4.out.keep (blk3_below (((Below.refl _ _).alloc (Nat.le_refl _) _).drew.trans (HU5.out.mono (by show W4.heap.size ≤ (W4.alloc _).heap.size; simp))) (Nat.le_refl _)), by rw [HC.out.e4]; exact BXZ.out.store HU5.out HO5.out HS5.out⟩
    case rest =>
      obtain ⟨X, N5, rfl, rfl, bx, bx'⟩ := hcut
      have BX5 : Hid (_) := bx
      have BXX : Hid (_) := bx'
      clear bx bx' BX4 hp4
      go_upto_region 11 with fail
      go_cut [18, 19] from 77 to 86 (fun s18 s19 wx => ∃ Y, s18 = .pointer (some ⟨Y, 0, none⟩) ∧ s19 = .int .i64 6 ∧ Box w wx B N4 C3 ∧ Box w wx X N5 C4)
      case first =>
        have BXD : Hid (Box w wc.drew B _ _) := BX5.out.keep (Below.refl _ _).drew
        have BXE : Hid (Box w (wc.alloc (.cells #[.slice none 0 0, .slice none 0 0, .slice none 0 0] 26)).drew B _ _) := BX5.out.keep ((Below.refl _ _).alloc (Nat.le_refl _) _).drew
        have BXZ : Hid (Box w (wc.alloc (.cells #[.slice none 0 0, .slice none 0 0, .slice none 0 0] 26)).drew wc.heap.size noM noM) := (Box.new (N := noM) (C := noM) BX5.out.bel (noM_at _) (Mv.Same.refl _)).keep (Below.refl _ _).drew
        have h6 := put_box BXD.out HG.out.2.2.1 HT.out 1 k a2 0 HW.out.2.2.1 HW.out.2.2.2.2.1 HC.out.t3
        have k6 := put_box BXE.out HG.out.2.2.1 HT.out 1 k a2 0 HW.out.2.2.1 HW.out.2.2.2.2.1 HC.out.t3
        unfold Mv.val at h6 k6
        have c0 := BX5.out.c0
        have c1 := BX5.out.c1
        have c2 := BX5.out.c2
        have lt := BX5.out.lt
        go_region_law (first
          | (go_simp; go_at_call 5; refine (hp5 _).mono ?_; rintro x w' ⟨rfl, rfl⟩; dsimp only)
          | (go_simp; go_at_call 8; refine h6.mono ?_; clear h6 k6; rintro x u6 ⟨N6, rfl, hS, hO, hb⟩; have HS6 : Hid (_) := hS; have HO6 : Hid (_) := hO; have HU6 : Hid (_) := hb; clear hS hO hb; dsimp only)
          | (go_simp; go_at_call 8; refine k6.mono ?_; clear h6 k6; rintro x u6 ⟨N6, rfl, hS, hO, hb⟩; have HS6 : Hid (_) := hS; have HO6 : Hid (_) := hO; have HU6 : Hid (_) := hb; have ltz := BXZ.out.lt; have e0 := (hb.cell (p := ⟨wc.heap.size, 0, none⟩) ltz).trans BXZ.out.c0; have e1 := (hb.cell (p := ⟨wc.heap.size, 1, none⟩) ltz).trans BXZ.out.c1; have e2 := (hb.cell (p := ⟨wc.heap.size, 2, none⟩) ltz).trans BXZ.out.c2; dsimp only [noM] at e0 e1 e2; have z0 : u6.frozen? ⟨wc.heap.size, 0, none⟩ = false := (hb.frozen (p := ⟨wc.heap.size, 0, none⟩) ltz).trans (BXZ.out.fz 0); have z1 : u6.frozen? ⟨wc.heap.size, 1, none⟩ = false := (hb.frozen (p := ⟨wc.heap.size, 1, none⟩) ltz).trans (BXZ.out.fz 1); have z2 : u6.frozen? ⟨wc.heap.size, 2, none⟩ = false := (hb.frozen (p := ⟨wc.heap.size, 2, none⟩) ltz).trans (BXZ.out.fz 2); have lt2 := Nat.lt_of_lt_of_le ltz hb.size; clear hS hO hb ltz; dsimp only)
          | fail)
        all_goals
          go_wp2_with fail
          go_meet
          case rel => first
            | exact ⟨_, rfl, rfl, (BXD.out.keep HU6.out).keep ((Below.refl _ _).alloc (Nat.le_refl _) _), ((BXX.out.keep (Below.refl _ _).drew).keep HU6.out).keep ((Below.refl _ _).alloc (Nat.le_refl _) _)⟩
            | exact ⟨_, rfl, rfl, BX5.out.keep (blk3_below (((Below.refl _ _).alloc (Nat.le_refl _) _).drew.trans (HU6.out.mono (by show wc.heap.size ≤ (wc.alloc _).heap.size; simp))) (Nat.le_refl _)), BXX.out.keep (blk3_below (((Below.refl _ _).alloc (Nat.le_refl _) _).drew.trans (HU6.out.mono (by show wc.heap.size ≤ (wc.alloc _).heap.size; simp))) (Nat.le_refl _))⟩
      case rest =>
        obtain ⟨Y, rfl, rfl, bx, bx'⟩ := hcut
        clear BX5 BXX hp5 hn1
        have BX6 : Hid (_) := bx
        have BXX : Hid (_) := bx'
        clear bx bx'
        have h7 := remove_box BXX.out HG.out.2.2.2 1 HC.out.f5
        unfold Mv.val at h7
        have c0 := BXX.out.c0
        have c1 := BXX.out.c1
        have c2 := BXX.out.c2
        have lt := BXX.out.lt
        go_upto_region 13 with (go_at_call 10; refine h7.mono ?_; clear h7; rintro x u7 ⟨N7, rfl, hS, hO, hb⟩; have HS7 : Hid (_) := hS; have HO7 : Hid (_) := hO; have HU7 : Hid (_) := hb; clear hS hO hb c0 c1 c2 lt; dsimp only)
        have BX7 : Hid (_) := (BX6.out.keep HU7.out).keep ((Below.refl _ _).alloc (Nat.le_refl _) (.cells #[.slice N7.fa N7.frs.length N7.fcap, .slice N7.ea N7.ens.length N7.ecap, .slice N7.qa N7.qus.length N7.qcap] 26))
        have BXX7 : Hid (_) := (BXX.out.keep HU7.out).keep ((Below.refl _ _).alloc (Nat.le_refl _) (.cells #[.slice N7.fa N7.frs.length N7.fcap, .slice N7.ea N7.ens.length N7.ecap, .slice N7.qa N7.qus.length N7.qcap] 26))
        have BXY : Hid (Box w _ u7.heap.size N7 C5) := Box.new (BXX.out.keep HU7.out).bel HO7.out.at_ (by rw [HC.out.e5]; exact HS7.out)
        obtain ⟨W7, hW⟩ : ∃ W7, W7 = (u7.alloc (.cells #[.slice N7.fa N7.frs.length N7.fcap, .slice N7.ea N7.ens.length N7.ecap, .slice N7.qa N7.qus.length N7.qcap] 26)) := ⟨_, rfl⟩
        obtain ⟨Z, hZ⟩ : ∃ Z, Z = u7.heap.size := ⟨_, rfl⟩
        rw [← hW] at BX7 BXX7 BXY ⊢
        rw [← hZ] at BXY ⊢
        clear hW hZ HU7 HO7 HS7 BX6 BXX
        have h8 := peek_box BXY.out k p HC.out.p5 HC.out.w5
        unfold Mv.val at h8
        have c0 := BXY.out.c0
        have c1 := BXY.out.c1
        have c2 := BXY.out.c2
        have lt := BXY.out.lt
        go_cut [22, 23] from 24 (fun s22 s23 wx => s22 = .int .i64 0 ∧ s23 = .int .i64 0 ∧ Below W7.heap.size W7 wx)
        case first =>
          go_wp2_with (go_at_call 9; refine h8.mono ?_; clear h8; rintro x W8 ⟨rfl, hb⟩; have HU8 : Hid (_) := hb; clear hb c0 c1 c2 lt; dsimp only)
          go_meet
          case rel => exact ⟨rfl, rfl, HU8.out⟩
        case rest =>
        obtain ⟨rfl, rfl, hb⟩ := hcut
        obtain ⟨W8, hW8⟩ : ∃ W8, W8 = wc := ⟨_, rfl⟩
        rw [← hW8] at hb ⊢
        have HU8 : Hid (_) := hb
        clear hW8 hb c0 c1 c2 lt h8
        have BX8 : Hid (_) := BX7.out.keep HU8.out
        have BXX8 : Hid (_) := BXX7.out.keep HU8.out
        have BXY8 : Hid (_) := BXY.out.keep HU8.out
        clear BX7 BXX7 BXY HU8
        have hPl := fun W' (h : Below W8.heap.size W8 W') => place_any N4 1 a W' (BX8.out.at_.below h)
        rw [placeOf_same BX8.out.same, HC.out.a3] at hPl
        have hCk := fun W' (h : Below W8.heap.size W8 W') => checkM_any N7 W' (BXY8.out.at_.below h)
        rw [machF_same BXY8.out.same, HC.out.g5] at hCk
        unfold Mv.val at hPl hCk
        have l5 : N5.frs.length = 24 := by rw [BXX8.out.same.len]; exact HC.out.l4.1
        obtain ⟨xb, xo, hxa, _, _, _, t3⟩ := BXX8.out.at_.frame (j := k) (by omega)
        have hws : (N5.frs.getD k default).ws = (C4.frs.getD k default).ws := ws_same BXX8.out.same k
        have w8 : (N5.frs.getD k default).ws.length = 8 := by rw [hws]; exact HC.out.l4.2
        have hints := (BXX8.out.at_.frok k (by omega)).ints
        have x7 : (N5.frs.getD k default).ws.getD p 0 = 7 := by rw [hws]; exact HC.out.x4
        rcases hints with hnil | ⟨vb, vo, hva, hvc⟩
        · rw [hnil] at w8; simp at w8
        · have t4 := hvc p (by omega)
          rw [x7] at t4
          rw [hva, w8] at t3
          generalize (N5.frs.getD k default).cap = vcap at t3
          have q0 := BXX8.out.c0
          rw [hxa, l5] at q0
          have c0 := BX8.out.c0
          have c1 := BX8.out.c1
          have c2 := BX8.out.c2
          have lt := BX8.out.lt
          have y0 := BXY8.out.c0
          have y1 := BXY8.out.c1
          have y2 := BXY8.out.c2
          have ly := BXY8.out.lt
          clear hws w8 x7 hva hvc hxa l5
          have lx := lt_of_cell q0
          have lf := lt_of_cell t3
          have lv := lt_of_cell t4
          have GG : Hid (∀ w', Below W8.heap.size W8 w' → w'.cell? ⟨X, 0, none⟩ = some (.slice (some ⟨xb, xo, none⟩) 24 N5.fcap) ∧ w'.cell? ⟨xb, xo + k * 4 + 3, none⟩ = some (.slice (some ⟨vb, vo, none⟩) 8 vcap) ∧ w'.cell? ⟨vb, vo + p, none⟩ = some (.int .i64 7) ∧ w'.cell? ⟨B, 0, none⟩ = some (.slice N4.fa N4.frs.length N4.fcap) ∧ w'.cell? ⟨B, 1, none⟩ = some (.slice N4.ea N4.ens.length N4.ecap) ∧ w'.cell? ⟨B, 2, none⟩ = some (.slice N4.qa N4.qus.length N4.qcap) ∧ w'.cell? ⟨Z, 0, none⟩ = some (.slice N7.fa N7.frs.length N7.fcap) ∧ w'.cell? ⟨Z, 1, none⟩ = some (.slice N7.ea N7.ens.length N7.ecap) ∧ w'.cell? ⟨Z, 2, none⟩ = some (.slice N7.qa N7.qus.length N7.qcap)) := by
            have d0 := q0
            have d1 := t3
            have d2 := t4
            have d3 := c0
            have d4 := c1
            have d5 := c2
            have d6 := y0
            have d7 := y1
            have d8 := y2
            exact fun w' hb => ⟨(hb.cell lx).trans d0, (hb.cell lf).trans d1, (hb.cell lv).trans d2, (hb.cell (p := ⟨B, 0, none⟩) lt).trans d3, (hb.cell (p := ⟨B, 1, none⟩) lt).trans d4, (hb.cell (p := ⟨B, 2, none⟩) lt).trans d5, (hb.cell (p := ⟨Z, 0, none⟩) ly).trans d6, (hb.cell (p := ⟨Z, 1, none⟩) ly).trans d7, (hb.cell (p := ⟨Z, 2, none⟩) ly).trans d8⟩
          dsimp only at lx lf lv
          go_upto_region 14 with fail
          go_region_held3 (fun w' => w'.cell? ⟨X, 0, none⟩ = some (.slice (some ⟨xb, xo, none⟩) 24 N5.fcap) ∧ w'.cell? ⟨xb, xo + k * 4 + 3, none⟩ = some (.slice (some ⟨vb, vo, none⟩) 8 vcap) ∧ w'.cell? ⟨vb, vo + p, none⟩ = some (.int .i64 7) ∧ w'.cell? ⟨B, 0, none⟩ = some (.slice N4.fa N4.frs.length N4.fcap) ∧ w'.cell? ⟨B, 1, none⟩ = some (.slice N4.ea N4.ens.length N4.ecap) ∧ w'.cell? ⟨B, 2, none⟩ = some (.slice N4.qa N4.qus.length N4.qcap) ∧ w'.cell? ⟨Z, 0, none⟩ = some (.slice N7.fa N7.frs.length N7.fcap) ∧ w'.cell? ⟨Z, 1, none⟩ = some (.slice N7.ea N7.ens.length N7.ecap) ∧ w'.cell? ⟨Z, 2, none⟩ = some (.slice N7.qa N7.qus.length N7.qcap)) (exact GG.out _ (by repeat (first | (with_reducible exact Below.refl _ _) | (with_reducible exact HU10.out) | (with_reducible exact HU9.out) | (with_reducible refine Below.drew ?_)))) (first
            | (go_at_call 5; refine (hp3 _).mono ?_; rintro x w' ⟨rfl, rfl⟩)
            | (go_at_call 11; refine (hPl _ (by repeat (first | (with_reducible exact Below.refl _ _) | (with_reducible exact HU10.out) | (with_reducible exact HU9.out) | (with_reducible refine Below.drew ?_)))).mono ?_; rintro x u9 ⟨rfl, hb⟩; have HU9 : Hid (Below W8.heap.size W8 u9) := (Below.refl _ _).drew.trans hb; clear hb)
            | (go_at_call 12; refine (hCk _ (by repeat (first | (with_reducible exact Below.refl _ _) | (with_reducible exact HU10.out) | (with_reducible exact HU9.out) | (with_reducible refine Below.drew ?_)))).mono ?_; rintro x u10 ⟨rfl, hb⟩; have HU10 : Hid (Below W8.heap.size W8 u10) := HU9.out.trans (hb.mono HU9.out.size); clear hb)
            | fail)
          all_goals
            clear hPl hCk
            go_wp2
            go_ret
            exact ⟨rfl, BX8.out.bel.trans (HU10.out.mono BX8.out.bel.size)⟩

set_option maxRecDepth 100000 in
theorem pagesApart_contract (H : Type) (enc : TypeId × Value → H) (W : World) (base : Nat) (args : Array Value) (ds gs : List (DataW H)) (before : List MemPlace)
    (hval0 : ∀ (j : Nat) t v, Tryd.f3.params[j]? = some t → args[j]? = some v → Value.okWide Tryd.prog W .any base t v)
    (hW : DataW.Whole enc Tryd.prog Tryd.f3.params.toList Rows.pagesApartSpec.vars false W args.toList ds gs before) (hL : laidMetH Tryd.prog listed W) :
    Calls Tryd.prog 3 args W fun e W' => ∃ v, e = .returned v ∧ Rows.pagesApartSpec.post enc Tryd.prog Tryd.f3 false true false false W args v W' := by
  have hval := hval0
  have hW' := hW
  obtain ⟨p, q, hA0, hV, rfl, hfz, hnd⟩ := hW
  have hA : DataW.TrodAll enc Tryd.prog W 0 (fun _ => true) true Tryd.f3.params.toList args.toList ds p := hA0
  rw [Tryd.params3] at hA hval
  obtain ⟨v0, vs0, d0, ds0, p0, q0, hargs, rfl, rfl, h0, r0⟩ := trodAll_cons hA
  obtain ⟨v1, vs1, d1, ds1, p1, q1, rfl, rfl, rfl, h1, r1⟩ := trodAll_cons r0
  obtain ⟨v2, vs2, d2, ds2, p2, q2, rfl, rfl, rfl, h2, r2⟩ := trodAll_cons r1
  obtain ⟨rfl, rfl, rfl⟩ := trodAll_nil r2
  obtain rfl : args = #[v0, v1, v2] := by cases args; simp_all
  obtain ⟨rfl, rfl⟩ := trodVars_none hV
  have k0 := h0
  have lt0 : ∀ x ∈ p0, x.block < W.heap.size := by obtain ⟨m, hm⟩ := k0; exact DataW.trod_lt m _ _ _ hm
  obtain ⟨x0, rfl, rfl, rfl, wx0⟩ := open_int Tryd.underlying3 (hval 0 3 v0 rfl rfl) h0
  have k1 := h1
  have lt1 : ∀ x ∈ p1, x.block < W.heap.size := by obtain ⟨m, hm⟩ := k1; exact DataW.trod_lt m _ _ _ hm
  obtain ⟨x1, rfl, rfl, rfl, wx1⟩ := open_int Tryd.underlying3 (hval 1 3 v1 rfl rfl) h1
  have k2 := h2
  have lt2 : ∀ x ∈ p2, x.block < W.heap.size := by obtain ⟨m, hm⟩ := k2; exact DataW.trod_lt m _ _ _ hm
  obtain ⟨x2, rfl, rfl, rfl, wx2⟩ := open_int Tryd.underlying3 (hval 2 3 v2 rfl rfl) h2
  clear hA0 hval0
  refine (pagesApart_walk x0 x1 x2 W wx0 wx1 wx2 (tab_of hL)).mono fun e W' ⟨he, bel⟩ => ?_
  subst he
  exact ⟨_, rfl, _, _, _, [], _, [], hW', trodAll_mk1 (shut_bool Tryd.underlying4 _), (trodAll_cons_mk (Below.trod laidOut (by kernel_rfl) (of_decide_eq_true (by kernel_rfl)) k0 bel lt0) (trodAll_cons_mk (Below.trod laidOut (by kernel_rfl) (of_decide_eq_true (by kernel_rfl)) k1 bel lt1) (trodAll_cons_mk (Below.trod laidOut (by kernel_rfl) (of_decide_eq_true (by kernel_rfl)) k2 bel lt2) trodAll_mk0))), rfl, bel.frame _, fun h => by cases h⟩

theorem pagesApart_laid (os : Os) : laidMet Tryd.prog listed ((laidWorld os).forCall (fun _ _ => 0) ⟨#[], #[.int .i64 0, .int .i64 0, .int .i64 0], []⟩).memory :=
  laidMet_of_run' 8 (by kernel_rfl) (by kernel_rfl)
theorem pagesApart_reads (os : Os) {H : Type} (enc : TypeId × Value → H) : ∃ places, DataW.whole enc Tryd.prog ((laidWorld os).forCall (fun _ _ => 0) ⟨#[], #[.int .i64 0, .int .i64 0, .int .i64 0], []⟩).memory Tryd.f3.params.toList Rows.pagesApartSpec.vars false (#[.int .i64 0, .int .i64 0, .int .i64 0] : Array Value).toList 8 = some ([.lit (.int .i64 0), .lit (.int .i64 0), .lit (.int .i64 0)], [], places) :=
  ⟨[], by kernel_rfl⟩

set_option maxRecDepth 100000 in
theorem pagesApart_lifted (os : Os) (started : os.Started) (H : Type) (enc : TypeId × Value → H) (F : Stop.Interp) :
    ReturnsInHanded {} Tryd.checked os 3 .any ((OpenSpec.ofChange Rows.pagesApartSpec).preRow enc Tryd.prog Tryd.f3 Rows.pagesApartRow.domain false Rows.pagesApartRow.laid) (((OpenSpec.ofChange Rows.pagesApartSpec).at F).post enc Tryd.prog Tryd.f3 false true false false) := by
  obtain ⟨places, hx⟩ := pagesApart_reads os enc
  refine returnsInHanded_of_row (C := Tryd.checked) (s := (OpenSpec.ofChange Rows.pagesApartSpec)) own started (by kernel_rfl) Tryd.func3
    (witness_row_at (enc := enc) (C := Tryd.checked) false (laidWorld os) #[.int .i64 0, .int .i64 0, .int .i64 0] rfl (by kernel_rfl) (by kernel_rfl) (by kernel_rfl)
      (OpenSpec.preRow_of_cond 8 hx (by kernel_rfl) (fun k hk => by cases hk) (by kernel_rfl) (pagesApart_laid os))) ?_
  intro W base args ds gs before hval hW _ hcond hsz hL _ _
  exact pagesApart_contract H enc W base args ds gs before hval hW hL

theorem pagesApart_said : Rows.PagesApartSaid :=
  OpenClaim.holds_of_cond 3 Tryd.f3 rfl rfl rfl rfl rfl rfl rfl ⟨rfl, rfl, rfl, rfl, rfl⟩ rfl rfl rfl rfl rfl (by kernel_rfl) Tryd.func3 (by kernel_rfl)
    (of_decide_eq_true (by kernel_rfl)) (by unfold Func.isWrapper; first | (rw [if_pos (by decide +kernel)]; kernel_rfl) | (rw [if_neg (by decide +kernel)]; exact ⟨rfl, rfl⟩))
    (fun os started H enc _ F => by rw [OpenClaim.pre_eq_preRow]; exact pagesApart_lifted os started H enc F)

theorem pagesApart_plain (f : FuncId) (fn : Func) (hf : Tryd.pinned.checked.prog.funcNamed "riddle/riddlekeep.PagesApart" = some f) (hfn : Tryd.pinned.checked.prog.funcs[f]? = some fn) :
    false = Tryd.pinned.checked.prog.looks [] ∧ ∀ (j : Nat) t, fn.params[j]? = some t → Tryd.pinned.checked.prog.wantsStandIn t = false := by
  obtain rfl : f = 3 := Option.some.inj ((show Tryd.prog.funcNamed "riddle/riddlekeep.PagesApart" = some 3 by kernel_rfl).symm.trans hf) |>.symm
  obtain rfl : fn = Tryd.f3 := (Option.some.inj (Tryd.func3.symm.trans hfn)).symm
  refine ⟨by kernel_rfl, fun j t ht => ?_⟩
  rw [Tryd.params3] at ht
  have hm : t = 3 := by simpa using Array.mem_of_getElem? ht
  subst hm
  exact (show Tryd.prog.wantsStandIn 3 = false by kernel_rfl)

theorem pagesApart_card : Rows.PagesApartCardSaid :=
  Claim7.holds_tied_plain_at .later [] _ _ _ _ pagesApart_said (fun _ h => by cases h) (by kernel_rfl) (fun _ h => by cases h) pagesApart_row_tie rfl ⟨rfl, rfl⟩ (by kernel_rfl) rfl pagesApart_plain (by kernel_rfl)
#print axioms pagesApart_card

end Go.Proofs.YtdngbojbpmdegaaDoor
