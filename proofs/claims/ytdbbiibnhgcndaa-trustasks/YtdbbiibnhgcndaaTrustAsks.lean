/-
  For every challenger, TrustAsks answers true: trust.Ask answers what P4.2 says; the argument reads afterwards as before. No condition.
-/
import Derived.Test.YtdbbiibnhgcndaaAsk
import Derived.Test.YtdbbiibnhgcndaaSameC
import Derived.Lib.SmallJoins
namespace Go.Proofs.Ytdbbiibnhgcndaa
open Go.ChangeShapes Go.WideShapes Go.ChangeAt Go.RowKit Go.Joins
open Go.ChangeMaps (open_string shut_string)
set_option linter.unusedVariables false


set_option maxRecDepth 100000 in
set_option maxHeartbeats 4000000 in
theorem trustAsks_walk (C : Cv) (w : World) (hC : ChalAt w C) (hF : C.Fits) :
    Calls Try.prog 18 #[C.val] w fun x w' => x = .returned (.bool true) ∧ Below w.heap.size w w' := by
  have c1 := fun w' (h : Below w.heap.size w w') => ccopy_any C w' (hC.below h) hF
  have c2 := fun w' (K : Cv) (hK : ChalAt w' K) (hS : K.Same C) => ask_any K w' hK (hF.same hS)
  have c3 := fun w' (h : Below w.heap.size w w') => askedOf_any C w' (hC.below h) hF
  have c4 := fun w' (N1 N2 : Cv) (h1 : ChalAt w' N1) (h2 : ChalAt w' N2) (hs : N1.Same N2) => sameC_any N1 N2 w' h1 h2 hs
  have HC : Hid (∀ w', Below w.heap.size w w' → ChalAt w' C) := fun w' h => hC.below h
  obtain ⟨z, hz⟩ : ∃ z, Hid (z = askE C) := ⟨_, rfl⟩
  obtain ⟨y, hy⟩ : ∃ y, Hid (y = askN C) := ⟨_, rfl⟩
  rw [← hz.out, ← hy.out] at c3
  clear hC
  unfold Cv.val at *
  obtain ⟨ta, tr, tcap, na, ns, ncap⟩ := C
  dsimp only at *
  have B1 : ∀ o, Hid (Below w.heap.size w (w.alloc o)) := fun o => (Below.refl _ _).alloc (Nat.le_refl _) _
  go_enter Try.func18, Try.ntmps18
  go_wp2_with (go_at_call 53; refine (c1 _ (B1 _).out).mono ?_; rintro x w1 ⟨K, rfl, hS, hO, hb1⟩; obtain ⟨m0, m1, ml⟩ := box2 hb1; have HS1 : Hid (_) := hS; have HO1 : Hid (_) := hO; have HB1 : Hid (Below w.heap.size w w1) := (B1 _).out.trans (hb1.mono (by simp)); clear hS hO hb1; obtain ⟨kta, ktr, ktcap, kna, kns, kncap⟩ := K; dsimp only)
  have d2 := fun o => c2 (w1.alloc o) _ (HO1.out.at_.below ((Below.refl _ _).alloc (Nat.le_refl _) o)) HS1.out
  rw [askE_same HS1.out, askN_same HS1.out, ← hz.out, ← hy.out] at d2
  dsimp only at d2
  clear c1 c2 hF hz hy
  go_wp2_with (go_at_call 54; refine (d2 _).mono ?_; rintro x w2 ⟨N1, rfl, hS, hA, hb2⟩; obtain ⟨k0, k1, kl⟩ := box2 hb2; have HB2 : Hid (Below w1.heap.size w1 w2) := ((Below.refl _ _).alloc (Nat.le_refl _) _).trans (hb2.mono (by simp)); have M0 : w2.cell? ⟨w.heap.size, 0, none⟩ = some (.slice ta tr.length tcap) := (HB2.out.cell (p := ⟨w.heap.size, 0, none⟩) ml).trans m0; have M1 : w2.cell? ⟨w.heap.size, 1, none⟩ = some (.slice na ns.length ncap) := (HB2.out.cell (p := ⟨w.heap.size, 1, none⟩) ml).trans m1; have ML : w.heap.size < w2.heap.size := lt_of_cell M0; have HS2 : Hid (_) := hS; have HA2 : Hid (_) := hA.at_; clear hS hA hb2 m0 m1; obtain ⟨ata, atr, atcap, ana, ans, ancap⟩ := N1; dsimp only)
  have BA : ∀ o, Hid (Below w.heap.size w (w2.alloc o)) := fun o => (HB1.out.trans (HB2.out.mono HB1.out.size)).alloc (by have := HB1.out.size; have := HB2.out.size; omega) o
  clear d2
  go_wp2_with (go_at_call 55; refine (c3 _ (BA _).out).mono ?_; rintro x w3 ⟨N2, rfl, hS, hA, hb3⟩; obtain ⟨a0, a1, al⟩ := box2 hb3; have HB3 : Hid (Below w2.heap.size w2 w3) := ((Below.refl _ _).alloc (Nat.le_refl _) _).trans (hb3.mono (by simp)); have Q0 : w3.cell? ⟨w.heap.size, 0, none⟩ = some (.slice ta tr.length tcap) := (HB3.out.cell (p := ⟨w.heap.size, 0, none⟩) ML).trans M0; have Q1 : w3.cell? ⟨w.heap.size, 1, none⟩ = some (.slice na ns.length ncap) := (HB3.out.cell (p := ⟨w.heap.size, 1, none⟩) ML).trans M1; have K0 : w3.cell? ⟨w1.heap.size, 0, none⟩ = some (.slice kta ktr.length ktcap) := (HB3.out.cell (p := ⟨w1.heap.size, 0, none⟩) kl).trans k0; have K1 : w3.cell? ⟨w1.heap.size, 1, none⟩ = some (.slice kna kns.length kncap) := (HB3.out.cell (p := ⟨w1.heap.size, 1, none⟩) kl).trans k1; have QL : w.heap.size < w3.heap.size := lt_of_cell Q0; have KL : w1.heap.size < w3.heap.size := lt_of_cell K0; have HS3 : Hid (_) := hS; have HA3 : Hid (_) := hA.at_; clear hS hA hb3 M0 M1 k0 k1; obtain ⟨bta, btr, btcap, bna, bns, bncap⟩ := N2; dsimp only)
  have HBX : Hid (Below w.heap.size w w3) := (HB1.out.trans (HB2.out.mono HB1.out.size)).trans (HB3.out.mono (by have := HB1.out.size; have := HB2.out.size; omega))
  have d4 := fun o => c4 (w3.alloc o) _ _ ((HA2.out.below HB3.out).below ((Below.refl _ _).alloc (Nat.le_refl _) o)) (HA3.out.below ((Below.refl _ _).alloc (Nat.le_refl _) o)) ((HS2.out.trans (askC_same HS1.out)).trans HS3.out.symm)
  dsimp only at d4
  clear c3
  go_wp2_with (go_at_call 52; refine (d4 _).mono ?_; clear d4; rintro x w4 ⟨rfl, hb4⟩; have HB4 : Hid (Below w3.heap.size w3 w4) := ((Below.refl _ _).alloc (Nat.le_refl _) _).trans (hb4.mono (by simp)); have T0 : w4.cell? ⟨w.heap.size, 0, none⟩ = some (.slice ta tr.length tcap) := (HB4.out.cell (p := ⟨w.heap.size, 0, none⟩) QL).trans Q0; have T1 : w4.cell? ⟨w.heap.size, 1, none⟩ = some (.slice na ns.length ncap) := (HB4.out.cell (p := ⟨w.heap.size, 1, none⟩) QL).trans Q1; have U0 : w4.cell? ⟨w1.heap.size, 0, none⟩ = some (.slice kta ktr.length ktcap) := (HB4.out.cell (p := ⟨w1.heap.size, 0, none⟩) KL).trans K0; have U1 : w4.cell? ⟨w1.heap.size, 1, none⟩ = some (.slice kna kns.length kncap) := (HB4.out.cell (p := ⟨w1.heap.size, 1, none⟩) KL).trans K1; clear hb4)
  have HB5 : Hid (Below w.heap.size w w4) := HBX.out.trans (HB4.out.mono HBX.out.size)
  have d5 := c4 w4 _ _ (((HO1.out.at_.below HB2.out).below HB3.out).below HB4.out) (HC.out w4 HB5.out) HS1.out
  dsimp only at d5
  clear c4
  go_wp2_with (go_at_call 52; refine d5.mono ?_; rintro x w5 ⟨rfl, hb5⟩)
  go_ret
  exact ⟨ret_bool (by first | rfl | simp), HB5.out.trans (hb5.mono HB5.out.size)⟩

set_option maxRecDepth 100000 in
theorem trustAsks_lifted (os : Os) (started : os.Started) (H : Type) (enc : TypeId × Value → H) :
    ReturnsInHanded {} Try.checked os 18 .any (Rows.trustAsksSpec.pre6 enc Try.prog Try.f18 Rows.trustAsksRow.domain false) (Rows.trustAsksSpec.post enc Try.prog Try.f18 false true false false) := by
  refine returnsInHanded_of_change_sized (C := Try.checked) own started (by kernel_rfl) Try.func18
    (ChangeSpec.witness6 (enc := enc) (C := Try.checked) false ⟨#[], #[.agg #[.slice none 0 0, .slice none 0 0]], []⟩ 8 (by kernel_rfl) (by kernel_rfl) (by kernel_rfl) (by kernel_rfl)) ?_
  intro W base args ds gs before hval0 hW hcnd hsz0 _
  have hsz : (DataW.weightsEach Try.prog (Try.f18.params.toList ++ []) (ds ++ gs)).all (· ≤ reachBytes) = true := hsz0
  have hval : ∀ (j : Nat) t v, Try.f18.params[j]? = some t → args[j]? = some v → Value.okWide Try.prog W .any base t v := hval0
  have hW' := hW
  obtain ⟨p, q, hA0, hV, rfl, hfz, hnd⟩ := hW
  have hA : DataW.TrodAll enc Try.prog W 0 (fun _ => true) true Try.f18.params.toList args.toList ds p := hA0
  rw [Try.params18] at hA hval hsz
  obtain ⟨v0, vs0, d0, ds0, p0, q0, hargs, rfl, rfl, h0, r0⟩ := trodAll_cons hA
  obtain ⟨rfl, rfl, rfl⟩ := trodAll_nil r0
  obtain rfl : args = #[v0] := by cases args; simp_all
  obtain ⟨rfl, rfl⟩ := trodVars_none hV
  have k0 := h0
  have lt0 : ∀ x ∈ p0, x.block < W.heap.size := by obtain ⟨m, hm⟩ := k0; exact DataW.trod_lt m _ _ _ hm
  obtain ⟨C0, rfl, hC0, hfit0⟩ := open_challenger (hval 0 61 v0 rfl rfl) h0
  have hF0 := hfit0 fun n hn => by simpa using List.all_eq_true.1 hsz n (DataW.weights_mem_each (j := 0) rfl rfl n hn)
  clear hA0 hval0
  refine (trustAsks_walk C0 W hC0 hF0).mono fun e W' ⟨he, bel⟩ => ?_
  subst he
  exact ⟨_, rfl, _, _, _, [], _, [], hW', trodAll_mk1 (shut_bool Try.underlying4 _), (trodAll_cons_mk (Below.trod laidOut (by kernel_rfl) (of_decide_eq_true (by kernel_rfl)) k0 bel lt0) trodAll_mk0), rfl, bel.frame _, fun h => by cases h⟩

theorem trustAsks_holds : Rows.TrustAsksSaid :=
  OpenClaim.holds_of_wide 18 Try.f18 rfl rfl rfl rfl rfl rfl rfl ⟨rfl, rfl, rfl, rfl, rfl⟩ rfl rfl rfl rfl rfl (by kernel_rfl) Try.func18 (by kernel_rfl)
    (of_decide_eq_true (by kernel_rfl)) (by unfold Func.isWrapper; first | (rw [if_pos (by decide +kernel)]; kernel_rfl) | (rw [if_neg (by decide +kernel)]; exact ⟨rfl, rfl⟩))
    (fun os started H enc _ => trustAsks_lifted os started H enc)
#print axioms trustAsks_holds

end Go.Proofs.Ytdbbiibnhgcndaa
