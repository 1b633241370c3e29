/-
  For every challenger, list of quotes and quote, TrustLooks answers true: trust.Look answers what P4.3 says; the arguments read afterwards as before. No condition.
-/
import Derived.Test.YtdbbiibnhgcndaaChalBox
import Derived.Test.YtdbbiibnhgcndaaSameC
import Derived.Deep.RegionHeld3
import Derived.Lib.SmallJoins
namespace Go.Proofs.Ytdbbiibnhgcndaa
open Go.ChangeShapes Go.WideShapes Go.ChangeAt Go.RowKit Go.Joins
open Go.ChangeMaps (open_string shut_string)
set_option linter.unusedVariables false


set_option maxRecDepth 100000 in
set_option maxHeartbeats 8000000 in
theorem trustLooks_walk (C : Cv) (ma : Option Addr) (made : List Qu) (mcap : Nat) (q : Qu) (w : World) (hC : ChalAt w C) (hF : C.Fits) (hml : made.length ≤ maxLen) (hm : RowsAt w 2 Qu.cells ma made) (hmo : ∀ j, j < made.length → (made.getD j default).Ok) (hmf : made.length * 24 ≤ 140737488351232) (hq : q.Ok) :
    Calls Try.prog 19 #[C.val, .slice ma made.length mcap, .agg #[.string q.log, .int .i64 q.data]] w fun x w' => x = .returned (.bool true) ∧ Below w.heap.size w w' := by
  have c1 := fun w' (h : Below w.heap.size w w') => ccopy_any C w' (hC.below h) hF
  have c2 := fun w' (K : Cv) (ma' : Option Addr) (mcap' : Nat) (hK : ChalAt w' K) (hS : K.Same C) (hr : RowsAt w' 2 Qu.cells ma' made) => look_any K ma' made mcap' q w' hK (hF.same hS) hml hr hq
  have c3 := fun w' (h : Below w.heap.size w w') => lookedOf_any C ma made mcap q w' (hC.below h) hF hml (RowsAt.below (cells := Qu.cells) (fun _ => rfl) hm h) hq
  have c4 := fun w' (N1 N2 : Cv) (h1 : ChalAt w' N1) (h2 : ChalAt w' N2) (hs : N1.Same N2) => sameC_any N1 N2 w' h1 h2 hs
  have HC : Hid (∀ w', Below w.heap.size w w' → ChalAt w' C) := fun w' h => hC.below h
  have HM : Hid (∀ w', Below w.heap.size w w' → RowsAt w' 2 Qu.cells ma made) := fun w' h => RowsAt.below (cells := Qu.cells) (fun _ => rfl) hm h
  have hml' := hml
  unfold maxLen at hml'
  have HML : Hid (made.length ≤ maxLen) := hml
  have HMF : Hid (_) := hmf
  obtain ⟨iQ, hiQ, hzQ⟩ := Option.map_eq_some_iff.1 info_q
  simp only [Prod.mk.injEq] at hzQ
  obtain ⟨zQ, sQ, bQ⟩ := hzQ
  have IQ : Hid (_) := hiQ
  have ZQ : Hid (_) := zQ
  have SQ : Hid (_) := sQ
  have YQ : Hid (_) := bQ
  clear hiQ zQ sQ bQ hmo
  obtain ⟨z, hz⟩ : ∃ z, Hid (z = lookE C made q) := ⟨_, rfl⟩
  obtain ⟨D, hD⟩ : ∃ D, Hid (D = lookC C made q) := ⟨_, rfl⟩
  rw [← hz.out, ← hD.out] at c3
  clear hC hm hml
  unfold Cv.val at *
  obtain ⟨ta, tr, tcap, na, ns, ncap⟩ := C
  obtain ⟨ql, qd⟩ := q
  dsimp only at *
  have B2 : ∀ o1 o2, Hid (Below w.heap.size w ((w.alloc o1).alloc o2)) := fun o1 o2 => ((Below.refl _ _).alloc (Nat.le_refl _) _).alloc (by simp) _
  go_enter Try.func19, Try.ntmps19
  go_upto_region 2 with (go_at_call 53; refine (c1 _ (B2 _ _).out).mono ?_; clear c1; rintro x w1 ⟨K, rfl, hS, hO, hb1⟩; have HS1 : Hid (_) := hS; have HO1 : Hid (_) := hO; have HU1 : Hid (_) := hb1; clear hS hO hb1; obtain ⟨kta, ktr, ktcap, kna, kns, kncap⟩ := K; dsimp only)
  have HB1 : Hid (Below w.heap.size w w1) := (B2 _ _).out.trans (HU1.out.mono (by simp; omega))
  obtain ⟨Wb, hWb⟩ : ∃ Wb, Hid (Wb = w1.alloc (.cells #[.slice kta ktr.length ktcap, .slice kna kns.length kncap] 61)) := ⟨_, rfl⟩
  rw [← hWb.out]
  have UB : Hid (Below w1.heap.size w1 Wb) := by show Below _ _ _; rw [hWb.out]; exact (Below.refl _ _).alloc (Nat.le_refl _) _
  have KB : Hid (CBox w Wb w1.heap.size ⟨kta, ktr, ktcap, kna, kns, kncap⟩ ⟨ta, tr, tcap, na, ns, ncap⟩) := by
    show CBox _ _ _ _ _
    rw [hWb.out]
    exact CBox.new (N := ⟨kta, ktr, ktcap, kna, kns, kncap⟩) HB1.out HO1.out.at_ HS1.out _
  have CB : Hid (Wb.cell? ⟨w.heap.size, 0, none⟩ = some (.slice ta tr.length tcap) ∧ Wb.cell? ⟨w.heap.size, 1, none⟩ = some (.slice na ns.length ncap) ∧ Wb.cell? ⟨w.heap.size + 1, 0, none⟩ = some (.string ql) ∧ Wb.cell? ⟨w.heap.size + 1, 1, none⟩ = some (.int .i64 qd) ∧ w.heap.size + 1 < Wb.heap.size) := by
    have h := HU1.out.trans (UB.out.mono HU1.out.size)
    refine ⟨(h.cell (p := ⟨w.heap.size, 0, none⟩) (by simp; omega)).trans ?_, (h.cell (p := ⟨w.heap.size, 1, none⟩) (by simp; omega)).trans ?_, (h.cell (p := ⟨w.heap.size + 1, 0, none⟩) (by simp)).trans ?_, (h.cell (p := ⟨w.heap.size + 1, 1, none⟩) (by simp)).trans ?_, by have := h.size; simp at this; omega⟩
    · rw [World.cell?_alloc_past _ _ _ (by simp), World.cell?_alloc_at _ _ _ _ rfl]; rfl
    · rw [World.cell?_alloc_past _ _ _ (by simp), World.cell?_alloc_at _ _ _ _ rfl]; rfl
    · rw [World.cell?_alloc_at _ _ _ _ (by simp)]; rfl
    · rw [World.cell?_alloc_at _ _ _ _ (by simp)]; rfl
  have HBb : Hid (Below w.heap.size w Wb) := KB.out.bel
  have cL := fun (w' : World) (ma' : Option Addr) (mcap' : Nat) (h : Below Wb.heap.size Wb w') (hr : RowsAt w' 2 Qu.cells ma' made) => c2 w' ⟨kta, ktr, ktcap, kna, kns, kncap⟩ ma' mcap' (KB.out.at_.below h) HS1.out hr
  rw [lookE_same HS1.out, ← hz.out] at cL
  dsimp only at cL
  have RQ : Hid (RowsAt Wb 2 Qu.cells ma made) := HM.out Wb HBb.out
  have HDS : Hid (∀ N : Cv, N.Same (lookC ⟨kta, ktr, ktcap, kna, kns, kncap⟩ made ⟨ql, qd⟩) → N.Same D) := fun N h => by rw [hD.out]; exact h.trans (lookC_same HS1.out _ _)
  obtain ⟨v0, v1, t0, t1, tl⟩ := CB.out
  have v2 := KB.out.c0
  have v3 := KB.out.c1
  dsimp only at v2 v3
  have l0 : w.heap.size < Wb.heap.size := lt_of_cell v0
  have l1 : w1.heap.size < Wb.heap.size := lt_of_cell v2
  have l01 : w.heap.size < Wb.heap.size + 1 := by omega
  have l11 : w1.heap.size < Wb.heap.size + 1 := by omega
  have l21 : w.heap.size + 1 < Wb.heap.size + 1 := by omega
  have l02 : w.heap.size < Wb.heap.size + 1 + 1 := by omega
  have l12 : w1.heap.size < Wb.heap.size + 1 + 1 := by omega
  have l22 : w.heap.size + 1 < Wb.heap.size + 1 + 1 := by omega
  have GG : Hid (∀ w2, Below Wb.heap.size Wb w2 → w2.cell? ⟨w1.heap.size, 0, none⟩ = some (.slice kta ktr.length ktcap) ∧ w2.cell? ⟨w1.heap.size, 1, none⟩ = some (.slice kna kns.length kncap) ∧ w2.cell? ⟨w.heap.size + 1, 0, none⟩ = some (.string ql) ∧ w2.cell? ⟨w.heap.size + 1, 1, none⟩ = some (.int .i64 qd)) := fun w2 h => ⟨(h.cell (p := ⟨w1.heap.size, 0, none⟩) l1).trans v2, (h.cell (p := ⟨w1.heap.size, 1, none⟩) l1).trans v3, (h.cell (p := ⟨w.heap.size + 1, 0, none⟩) tl).trans t0, (h.cell (p := ⟨w.heap.size + 1, 1, none⟩) tl).trans t1⟩
  clear c2 hWb hF HU1 B2 HM hz hD
  go_cut [8, 9] from 14 to 21 (fun s8 s9 wx => ∃ X N1, s8 = .pointer (some ⟨X, 0, none⟩) ∧ s9 = .int .i64 z ∧ CBox w wx X N1 D ∧ Below Wb.heap.size Wb wx)
  case first =>
    clear c3 c4
    have n1 := World.new_ne Wb ⟨w1.heap.size, 0, none⟩ v2
    have n2 := World.new_ne Wb ⟨w1.heap.size, 1, none⟩ v3
    have n3 := World.new_ne Wb ⟨w.heap.size + 1, 0, none⟩ t0
    have n4 := World.new_ne Wb ⟨w.heap.size + 1, 1, none⟩ t1
    have n5 : Wb.heap.size + 1 ≠ w1.heap.size := by omega
    have n6 : Wb.heap.size + 1 ≠ w.heap.size + 1 := by omega
    have n7 : Wb.heap.size ≠ w.heap.size := by omega
    by_cases hq0 : made = []
    · subst hq0
      simp only [List.length_nil] at *
      go_region_held3 (fun w' => w'.cell? ⟨w1.heap.size, 0, none⟩ = some (.slice kta ktr.length ktcap) ∧ w'.cell? ⟨w1.heap.size, 1, none⟩ = some (.slice kna kns.length kncap) ∧ w'.cell? ⟨w.heap.size + 1, 0, none⟩ = some (.string ql) ∧ w'.cell? ⟨w.heap.size + 1, 1, none⟩ = some (.int .i64 qd)) (first | exact ⟨g0, g1, g2, g3⟩ | go_keep) (first
        | (refine step_append_none rfl (.tmp 16) 41 rfl 69 iQ Try.underlying41 IQ.out ma mcap (by first | rfl | simp [Act.eval] | simp [Act.eval, Act.put]) ?_)
        | (go_at_call 56; refine (cL _ _ _ (by repeat (first | (with_reducible exact Below.refl _ _) | (with_reducible refine Below.drew ?_) | (with_reducible refine below_alloc ?_ _))) (.inl rfl)).mono ?_; clear cL; rintro x w2 ⟨N1, rfl, hS, hO, hb⟩; have HS2 : Hid (_) := hS; have HO2 : Hid (_) := hO; have HU2 : Hid (_) := hb; (first | ((with_reducible_and_instances have hzz := zb_only (w := w) (Wb := Wb) HBb.out hb); have e0 := hzz.e0; have e1 := hzz.e1; have z0 := hzz.z0; have z1 := hzz.z1; have l2 := hzz.lt; have HST : Hid (_) := hzz.st; clear hzz) | skip); have HBW2 : Hid (Below Wb.heap.size Wb w2) := Below.trans (by repeat (first | (with_reducible exact Below.refl _ _) | (with_reducible refine Below.drew ?_) | (with_reducible refine below_alloc ?_ _))) (hb.mono (by first | exact Nat.le_refl _ | (simp; done) | (simp; omega) | exact HBX.out.size | (have := HBX.out.size; simp; omega))); obtain ⟨g0, g1, g2, g3⟩ := GG.out w2 HBW2.out; clear hS hO hb; obtain ⟨ata, atr, atcap, ana, ans, ancap⟩ := N1; dsimp only)
        | fail)
      all_goals
        go_wp2_with fail
        go_meet
        case rel => first
          | exact ⟨_, ⟨ata, atr, atcap, ana, ans, ancap⟩, rfl, rfl, CBox.new (N := ⟨ata, atr, atcap, ana, ans, ancap⟩) (HBb.out.trans (HBW2.out.mono HBb.out.size)) HO2.out.at_ (HDS.out _ HS2.out) _, HBW2.out.alloc HBW2.out.size _⟩
          | exact ⟨_, ⟨ata, atr, atcap, ana, ans, ancap⟩, rfl, rfl, HST.out _ _ HO2.out (HDS.out _ HS2.out), (HBW2.out.setCell (by dsimp only; first | omega | (have := HBX.out.size; omega)) _).setCell (by dsimp only; first | omega | (have := HBX.out.size; omega)) _⟩
    · go_region_held3 (fun w' => w'.cell? ⟨w1.heap.size, 0, none⟩ = some (.slice kta ktr.length ktcap) ∧ w'.cell? ⟨w1.heap.size, 1, none⟩ = some (.slice kna kns.length kncap) ∧ w'.cell? ⟨w.heap.size + 1, 0, none⟩ = some (.string ql) ∧ w'.cell? ⟨w.heap.size + 1, 1, none⟩ = some (.int .i64 qd)) (first | exact ⟨g0, g1, g2, g3⟩ | go_keep) (first
        | (refine step_append_gen (cells := Qu.cells) (c := 2) (fun _ => rfl) (by omega) rfl (.tmp 16) 41 rfl 69 iQ _ 24 Try.underlying41 IQ.out ZQ.out SQ.out YQ.out ma mcap made (by first | rfl | simp [Act.eval] | simp [Act.eval, Act.put]) Wb RQ.out (by repeat (first | (with_reducible exact Below.refl _ _) | (with_reducible refine Below.drew ?_) | (with_reducible refine below_alloc ?_ _))) hq0 (by omega) HMF.out rfl qu_one HML.out ?_; intro Wx gQ capQ hbQ hR; have HR : Hid (_) := hR; have HBX : Hid (Below Wb.heap.size Wb Wx) := Below.trans (by repeat (first | (with_reducible exact Below.refl _ _) | (with_reducible refine Below.drew ?_) | (with_reducible refine below_alloc ?_ _))) (hbQ.mono (by first | exact Nat.le_refl _ | (simp; done) | (simp; omega))); (first | ((with_reducible_and_instances have hza := zat_only (w := w) (Wb := Wb) HBb.out hbQ); have HZA : Hid (_) := hza; clear hza) | skip); obtain ⟨g0, g1, g2, g3⟩ := GG.out Wx HBX.out; have q1 := World.new_ne Wx ⟨w1.heap.size, 0, none⟩ g0; have q2 := World.new_ne Wx ⟨w.heap.size + 1, 0, none⟩ g2; clear hR hbQ; dsimp only)
        | (go_at_call 56; refine (cL _ _ _ (by first | exact HBX.out | exact below_alloc HBX.out _) (by first | exact HR.out | exact RowsAt.below (cells := Qu.cells) (fun _ => rfl) HR.out (a1B _ _))).mono ?_; clear cL; rintro x w2 ⟨N1, rfl, hS, hO, hb⟩; have HS2 : Hid (_) := hS; have HO2 : Hid (_) := hO; have HU2 : Hid (_) := hb; (first | (have hzz := HZA.out.box hb; have e0 := hzz.e0; have e1 := hzz.e1; have z0 := hzz.z0; have z1 := hzz.z1; have l2 := hzz.lt; have HST : Hid (_) := hzz.st; clear hzz) | ((with_reducible_and_instances have hzz := zb_alloc (w := w) (Wb := Wx) (HBb.out.trans (HBX.out.mono HBb.out.size)) hb); have e0 := hzz.e0; have e1 := hzz.e1; have z0 := hzz.z0; have z1 := hzz.z1; have l2 := hzz.lt; have HST : Hid (_) := hzz.st; clear hzz) | skip); have HBW2 : Hid (Below Wb.heap.size Wb w2) := Below.trans (by first | exact HBX.out | exact below_alloc HBX.out _) (hb.mono (by first | exact Nat.le_refl _ | (simp; done) | (simp; omega) | exact HBX.out.size | (have := HBX.out.size; simp; omega))); obtain ⟨g0, g1, g2, g3⟩ := GG.out w2 HBW2.out; clear hS hO hb; obtain ⟨ata, atr, atcap, ana, ans, ancap⟩ := N1; dsimp only)
        | fail)
      all_goals
        go_wp2_with fail
        go_meet
        case rel => first
          | exact ⟨_, ⟨ata, atr, atcap, ana, ans, ancap⟩, rfl, rfl, CBox.new (N := ⟨ata, atr, atcap, ana, ans, ancap⟩) (HBb.out.trans (HBW2.out.mono HBb.out.size)) HO2.out.at_ (HDS.out _ HS2.out) _, HBW2.out.alloc HBW2.out.size _⟩
          | exact ⟨_, ⟨ata, atr, atcap, ana, ans, ancap⟩, rfl, rfl, HST.out _ _ HO2.out (HDS.out _ HS2.out), (HBW2.out.setCell (by dsimp only; first | omega | (have := HBX.out.size; omega)) _).setCell (by dsimp only; first | omega | (have := HBX.out.size; omega)) _⟩
  case rest =>
    obtain ⟨X, N1, rfl, rfl, bx, hbw⟩ := hcut
    have XB : Hid (_) := bx
    have HW : Hid (_) := hbw
    clear bx hbw cL GG
    have HBc : Hid (Below w.heap.size w wc) := XB.out.bel
    have KBc : Hid (_) := KB.out.keep HW.out
    have h3 := c3 wc HBc.out
    have o0 : wc.cell? ⟨w.heap.size, 0, none⟩ = some (.slice ta tr.length tcap) := (HW.out.cell (p := ⟨w.heap.size, 0, none⟩) l0).trans v0
    have o1 : wc.cell? ⟨w.heap.size, 1, none⟩ = some (.slice na ns.length ncap) := (HW.out.cell (p := ⟨w.heap.size, 1, none⟩) l0).trans v1
    have p0 : wc.cell? ⟨w.heap.size + 1, 0, none⟩ = some (.string ql) := (HW.out.cell (p := ⟨w.heap.size + 1, 0, none⟩) tl).trans t0
    have p1 : wc.cell? ⟨w.heap.size + 1, 1, none⟩ = some (.int .i64 qd) := (HW.out.cell (p := ⟨w.heap.size + 1, 1, none⟩) tl).trans t1
    have OL : Hid (w.heap.size < wc.heap.size) := lt_of_cell o0
    have O0 : Hid (_) := o0
    have O1 : Hid (_) := o1
    clear c3 v0 v1 v2 v3 t0 t1 tl l0 l1 l01 l11 l21 l02 l12 l22 CB RQ
    go_upto_region 4 with (go_at_call 57; refine h3.mono ?_; clear h3; rintro x w3 ⟨N2, rfl, hS, hO, hb3⟩; have HS3 : Hid (_) := hS; have HO3 : Hid (_) := hO; have HU3 : Hid (_) := hb3; clear hS hO hb3 o0 o1 p0 p1; obtain ⟨bta, btr, btcap, bna, bns, bncap⟩ := N2; dsimp only)
    have U4 : Hid (Below wc.heap.size wc (w3.alloc (.cells #[.slice bta btr.length btcap, .slice bna bns.length bncap] 61))) := HU3.out.alloc HU3.out.size _
    have BB : Hid (CBox w (w3.alloc (.cells #[.slice bta btr.length btcap, .slice bna bns.length bncap] 61)) w3.heap.size ⟨bta, btr, btcap, bna, bns, bncap⟩ D) := CBox.new (N := ⟨bta, btr, btcap, bna, bns, bncap⟩) (HBc.out.trans (HU3.out.mono HBc.out.size)) HO3.out.at_ HS3.out _
    obtain ⟨W4, hW4⟩ : ∃ W4, Hid (W4 = w3.alloc (.cells #[.slice bta btr.length btcap, .slice bna bns.length bncap] 61)) := ⟨_, rfl⟩
    obtain ⟨Y, hY⟩ : ∃ Y, Hid (Y = w3.heap.size) := ⟨_, rfl⟩
    rw [← hW4.out] at U4 BB ⊢
    rw [← hY.out] at BB ⊢
    clear hW4 hY HU3 HO3 HS3
    have XB4 := XB.out.keep U4.out
    have KB4 := KBc.out.keep U4.out
    have BB4 := BB.out
    obtain ⟨xta, xtr, xtcap, xna, xns, xncap⟩ := N1
    have a0 := XB4.c0
    have a1 := XB4.c1
    have b0 := BB4.c0
    have b1 := BB4.c1
    have k0 := KB4.c0
    have k1 := KB4.c1
    have o0 : W4.cell? ⟨w.heap.size, 0, none⟩ = some (.slice ta tr.length tcap) := (U4.out.cell (p := ⟨w.heap.size, 0, none⟩) OL.out).trans O0.out
    have o1 : W4.cell? ⟨w.heap.size, 1, none⟩ = some (.slice na ns.length ncap) := (U4.out.cell (p := ⟨w.heap.size, 1, none⟩) OL.out).trans O1.out
    have d4 := c4 W4 _ _ XB4.at_ BB4.at_ (XB4.same.trans BB4.same.symm)
    have H5 : Hid (∀ w5, Below W4.heap.size W4 w5 → _) := fun w5 (h : Below W4.heap.size W4 w5) => c4 w5 _ _ (KB4.keep h).at_ (HC.out w5 (KB4.keep h).bel) KB4.same
    have HKB : Hid (_) := KB4
    have HL : Hid (w.heap.size < W4.heap.size) := lt_of_cell o0
    have K0 : Hid (_) := k0
    have K1 : Hid (_) := k1
    have P0 : Hid (_) := o0
    have P1 : Hid (_) := o1
    dsimp only at d4 a0 a1 b0 b1 k0 k1
    clear XB4 KB4 BB4 c4 k0 k1 o0 o1
    go_wp2_with (go_at_call 52; refine d4.mono ?_; clear d4; rintro x w5 ⟨rfl, hb5⟩; have HU5 : Hid (_) := hb5; have f0 : w5.cell? ⟨w1.heap.size, 0, none⟩ = some (.slice kta ktr.length ktcap) := (hb5.cell (p := ⟨w1.heap.size, 0, none⟩) HKB.out.lt).trans K0.out; have f1 : w5.cell? ⟨w1.heap.size, 1, none⟩ = some (.slice kna kns.length kncap) := (hb5.cell (p := ⟨w1.heap.size, 1, none⟩) HKB.out.lt).trans K1.out; have f2 : w5.cell? ⟨w.heap.size, 0, none⟩ = some (.slice ta tr.length tcap) := (hb5.cell (p := ⟨w.heap.size, 0, none⟩) HL.out).trans P0.out; have f3 : w5.cell? ⟨w.heap.size, 1, none⟩ = some (.slice na ns.length ncap) := (hb5.cell (p := ⟨w.heap.size, 1, none⟩) HL.out).trans P1.out; clear hb5 a0 a1 b0 b1)
    have d5 := H5.out w5 HU5.out
    (try dsimp only at d5)
    go_wp2_with (go_at_call 52; refine d5.mono ?_; rintro x w6 ⟨rfl, hb6⟩)
    go_ret
    have q := (HKB.out.keep HU5.out).bel
    exact ⟨ret_bool (by first | rfl | simp), q.trans (hb6.mono q.size)⟩

set_option maxRecDepth 100000 in
theorem trustLooks_lifted (os : Os) (started : os.Started) (H : Type) (enc : TypeId × Value → H) :
    ReturnsInHanded {} Try.checked os 19 .any (Rows.trustLooksSpec.pre6 enc Try.prog Try.f19 Rows.trustLooksRow.domain false) (Rows.trustLooksSpec.post enc Try.prog Try.f19 false true false false) := by
  refine returnsInHanded_of_change_sized (C := Try.checked) own started (by kernel_rfl) Try.func19
    (ChangeSpec.witness6 (enc := enc) (C := Try.checked) false ⟨#[], #[.agg #[.slice none 0 0, .slice none 0 0], .slice none 0 0, .agg #[.string ⟨#[]⟩, .int .i64 0]], []⟩ 8 (by kernel_rfl) (by kernel_rfl) (by kernel_rfl) (by kernel_rfl)) ?_
  intro W base args ds gs before hval0 hW hcnd hsz0 _
  have hsz : (DataW.weightsEach Try.prog (Try.f19.params.toList ++ []) (ds ++ gs)).all (· ≤ reachBytes) = true := hsz0
  have hval : ∀ (j : Nat) t v, Try.f19.params[j]? = some t → args[j]? = some v → Value.okWide Try.prog W .any base t v := hval0
  have hW' := hW
  obtain ⟨p, q, hA0, hV, rfl, hfz, hnd⟩ := hW
  have hA : DataW.TrodAll enc Try.prog W 0 (fun _ => true) true Try.f19.params.toList args.toList ds p := hA0
  rw [Try.params19] at hA hval hsz
  obtain ⟨v0, vs0, d0, ds0, p0, q0, hargs, rfl, rfl, h0, r0⟩ := trodAll_cons hA
  obtain ⟨v1, vs1, d1, ds1, p1, q1, rfl, rfl, rfl, h1, r1⟩ := trodAll_cons r0
  obtain ⟨v2, vs2, d2, ds2, p2, q2, rfl, rfl, rfl, h2, r2⟩ := trodAll_cons r1
  obtain ⟨rfl, rfl, rfl⟩ := trodAll_nil r2
  obtain rfl : args = #[v0, v1, v2] := by cases args; simp_all
  obtain ⟨rfl, rfl⟩ := trodVars_none hV
  have k0 := h0
  have lt0 : ∀ x ∈ p0, x.block < W.heap.size := by obtain ⟨m, hm⟩ := k0; exact DataW.trod_lt m _ _ _ hm
  obtain ⟨C0, rfl, hC0, hfit0⟩ := open_challenger (hval 0 61 v0 rfl rfl) h0
  have hF0 := hfit0 fun n hn => by simpa using List.all_eq_true.1 hsz n (DataW.weights_mem_each (j := 0) rfl rfl n hn)
  have k1 := h1
  have lt1 : ∀ x ∈ p1, x.block < W.heap.size := by obtain ⟨m, hm⟩ := k1; exact DataW.trod_lt m _ _ _ hm
  obtain ⟨a1, len1, cap1, rfl⟩ := okWide_slice Try.underlying41 (hval 1 41 v1 rfl rfl)
  obtain ⟨qs1, hlen1, hmax1, hx1, hok1, hfit1⟩ := open_quotes h1
  subst hlen1
  have hF1 := hfit1 fun n hn => by simpa using List.all_eq_true.1 hsz n (DataW.weights_mem_each (j := 1) rfl rfl n hn)
  have k2 := h2
  have lt2 : ∀ x ∈ p2, x.block < W.heap.size := by obtain ⟨m, hm⟩ := k2; exact DataW.trod_lt m _ _ _ hm
  obtain ⟨q2', rfl, hq2⟩ := open_quote_arg (hval 2 69 v2 rfl rfl) h2
  clear hA0 hval0
  refine (trustLooks_walk C0 a1 qs1 cap1 q2' W hC0 hF0 hmax1 hx1 hok1 hF1 hq2).mono fun e W' ⟨he, bel⟩ => ?_
  subst he
  exact ⟨_, rfl, _, _, _, [], _, [], hW', trodAll_mk1 (shut_bool Try.underlying4 _), (trodAll_cons_mk (Below.trod laidOut (by kernel_rfl) (of_decide_eq_true (by kernel_rfl)) k0 bel lt0) (trodAll_cons_mk (Below.trod laidOut (by kernel_rfl) (of_decide_eq_true (by kernel_rfl)) k1 bel lt1) (trodAll_cons_mk (Below.trod laidOut (by kernel_rfl) (of_decide_eq_true (by kernel_rfl)) k2 bel lt2) trodAll_mk0))), rfl, bel.frame _, fun h => by cases h⟩

theorem trustLooks_holds : Rows.TrustLooksSaid :=
  OpenClaim.holds_of_wide 19 Try.f19 rfl rfl rfl rfl rfl rfl rfl ⟨rfl, rfl, rfl, rfl, rfl⟩ rfl rfl rfl rfl rfl (by kernel_rfl) Try.func19 (by kernel_rfl)
    (of_decide_eq_true (by kernel_rfl)) (by unfold Func.isWrapper; first | (rw [if_pos (by decide +kernel)]; kernel_rfl) | (rw [if_neg (by decide +kernel)]; exact ⟨rfl, rfl⟩))
    (fun os started H enc _ => trustLooks_lifted os started H enc)
#print axioms trustLooks_holds

end Go.Proofs.Ytdbbiibnhgcndaa
