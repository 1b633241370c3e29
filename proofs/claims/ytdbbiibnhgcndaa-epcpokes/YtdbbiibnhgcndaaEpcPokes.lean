/-
  For every machine, frame, place and number, EpcPokes answers true: epc.Poke answers what P2.6 says; the arguments read afterwards as before. No condition.
-/
import Derived.Test.YtdbbiibnhgcndaaPoke
import Derived.Lib.SmallJoins
namespace Go.Proofs.Ytdbbiibnhgcndaa
open Go.ChangeShapes Go.WideShapes Go.ChangeAt Go.RowKit Go.Joins
open Go.ChangeMaps (open_string shut_string)
set_option linter.unusedVariables false


set_option maxRecDepth 100000 in
set_option maxHeartbeats 4000000 in
theorem epcPokes_walk (M : Mv) (f at_ n : Int) (w : World) (hM : MachAt w M) (hF : M.Fits) (wf : (Lit.int .i64 f).wf = true) (wat_ : (Lit.int .i64 at_).wf = true) (wn : (Lit.int .i64 n).wf = true) :
    Calls Try.prog 15 #[M.val, .int .i64 f, .int .i64 at_, .int .i64 n] w fun x w' => x = .returned (.bool true) ∧ Below w.heap.size w w' := by
  have c1 := fun w' (h : Below w.heap.size w w') => mcopy_any M w' (hM.below h) hF
  have c2 := fun w' (K : Mv) (hK : MachAt w' K) (hS : K.Same M) => poke_any K f at_ n w' hK (fits_same hF hS) wn
  have c3 := fun w' (h : Below w.heap.size w w') => poked_any M f at_ n w' (hM.below h) hF wn
  have c4 := fun w' (N1 N2 : Mv) (h1 : MachAt w' N1) (h2 : MachAt w' N2) (hs : N1.Same N2) => sameMachine_any N1 N2 w' h1 h2 hs
  have HM : Hid (∀ w', Below w.heap.size w w' → MachAt w' M) := fun w' h => hM.below h
  obtain ⟨z, hz⟩ : ∃ z, Hid (z = pokeF M f at_ n) := ⟨_, rfl⟩
  rw [← hz.out] at c3
  clear hM wf wat_ wn
  unfold Mv.val at *
  obtain ⟨fa, frs, fcap, ea, ens, ecap, qa, qus, qcap⟩ := M
  dsimp only at *
  have B1 : ∀ o, Hid (Below w.heap.size w (w.alloc o)) := fun o => (Below.refl _ _).alloc (Nat.le_refl _) _
  go_enter Try.func15, Try.ntmps15
  go_wp2_with (go_at_call 40; refine (c1 _ (B1 _).out).mono ?_; rintro x w1 ⟨K, rfl, hS, hO, hb1⟩; obtain ⟨m0, m1, m2, ml⟩ := box3 hb1; have HS1 : Hid (_) := hS; have HO1 : Hid (_) := hO; have HB1 : Hid (Below w.heap.size w w1) := (B1 _).out.trans (hb1.mono (by simp)); clear hS hO hb1; obtain ⟨kfa, kfrs, kfcap, kea, kens, kecap, kqa, kqus, kqcap⟩ := K; dsimp only)
  have d2 := fun o => c2 (w1.alloc o) _ (HO1.out.at_.below ((Below.refl _ _).alloc (Nat.le_refl _) o)) HS1.out
  rw [pokeF_same HS1.out, ← hz.out] at d2
  dsimp only at d2
  clear c1 c2 hF hz
  go_wp2_with (go_at_call 47; refine (d2 _).mono ?_; rintro x w2 ⟨N1, rfl, hS, hA, hb2⟩; obtain ⟨k0, k1, k2, kl⟩ := box3 hb2; have HB2 : Hid (Below w1.heap.size w1 w2) := ((Below.refl _ _).alloc (Nat.le_refl _) _).trans (hb2.mono (by simp)); have M0 : w2.cell? ⟨w.heap.size, 0, none⟩ = some (.slice fa frs.length fcap) := (HB2.out.cell (p := ⟨w.heap.size, 0, none⟩) ml).trans m0; have M1 : w2.cell? ⟨w.heap.size, 1, none⟩ = some (.slice ea ens.length ecap) := (HB2.out.cell (p := ⟨w.heap.size, 1, none⟩) ml).trans m1; have M2 : w2.cell? ⟨w.heap.size, 2, none⟩ = some (.slice qa qus.length qcap) := (HB2.out.cell (p := ⟨w.heap.size, 2, none⟩) ml).trans m2; have ML : w.heap.size < w2.heap.size := lt_of_cell M0; have HS2 : Hid (_) := hS; have HA2 : Hid (_) := hA.at_; clear hS hA hb2 m0 m1 m2; obtain ⟨afa, afrs, afcap, aea, aens, aecap, aqa, aqus, aqcap⟩ := N1; dsimp only)
  have BA : ∀ o, Hid (Below w.heap.size w (w2.alloc o)) := fun o => (HB1.out.trans (HB2.out.mono HB1.out.size)).alloc (by have := HB1.out.size; have := HB2.out.size; omega) o
  clear d2
  go_wp2_with (go_at_call 48; refine (c3 _ (BA _).out).mono ?_; rintro x w3 ⟨N2, rfl, hS, hA, hb3⟩; obtain ⟨a0, a1, a2, al⟩ := box3 hb3; have HB3 : Hid (Below w2.heap.size w2 w3) := ((Below.refl _ _).alloc (Nat.le_refl _) _).trans (hb3.mono (by simp)); have Q0 : w3.cell? ⟨w.heap.size, 0, none⟩ = some (.slice fa frs.length fcap) := (HB3.out.cell (p := ⟨w.heap.size, 0, none⟩) ML).trans M0; have Q1 : w3.cell? ⟨w.heap.size, 1, none⟩ = some (.slice ea ens.length ecap) := (HB3.out.cell (p := ⟨w.heap.size, 1, none⟩) ML).trans M1; have Q2 : w3.cell? ⟨w.heap.size, 2, none⟩ = some (.slice qa qus.length qcap) := (HB3.out.cell (p := ⟨w.heap.size, 2, none⟩) ML).trans M2; have K0 : w3.cell? ⟨w1.heap.size, 0, none⟩ = some (.slice kfa kfrs.length kfcap) := (HB3.out.cell (p := ⟨w1.heap.size, 0, none⟩) kl).trans k0; have K1 : w3.cell? ⟨w1.heap.size, 1, none⟩ = some (.slice kea kens.length kecap) := (HB3.out.cell (p := ⟨w1.heap.size, 1, none⟩) kl).trans k1; have K2 : w3.cell? ⟨w1.heap.size, 2, none⟩ = some (.slice kqa kqus.length kqcap) := (HB3.out.cell (p := ⟨w1.heap.size, 2, none⟩) kl).trans k2; have QL : w.heap.size < w3.heap.size := lt_of_cell Q0; have KL : w1.heap.size < w3.heap.size := lt_of_cell K0; have HS3 : Hid (_) := hS; have HA3 : Hid (_) := hA.at_; clear hS hA hb3 M0 M1 M2 k0 k1 k2; obtain ⟨bfa, bfrs, bfcap, bea, bens, becap, bqa, bqus, bqcap⟩ := N2; dsimp only)
  have HBX : Hid (Below w.heap.size w w3) := (HB1.out.trans (HB2.out.mono HB1.out.size)).trans (HB3.out.mono (by have := HB1.out.size; have := HB2.out.size; omega))
  have d4 := fun o => c4 (w3.alloc o) _ _ ((HA2.out.below HB3.out).below ((Below.refl _ _).alloc (Nat.le_refl _) o)) (HA3.out.below ((Below.refl _ _).alloc (Nat.le_refl _) o)) ((HS2.out.trans (pokeM_same HS1.out f at_ n)).trans HS3.out.symm)
  dsimp only at d4
  clear c3
  go_wp2_with (go_at_call 34; refine (d4 _).mono ?_; clear d4; rintro x w4 ⟨rfl, hb4⟩; have HB4 : Hid (Below w3.heap.size w3 w4) := ((Below.refl _ _).alloc (Nat.le_refl _) _).trans (hb4.mono (by simp)); have T0 : w4.cell? ⟨w.heap.size, 0, none⟩ = some (.slice fa frs.length fcap) := (HB4.out.cell (p := ⟨w.heap.size, 0, none⟩) QL).trans Q0; have T1 : w4.cell? ⟨w.heap.size, 1, none⟩ = some (.slice ea ens.length ecap) := (HB4.out.cell (p := ⟨w.heap.size, 1, none⟩) QL).trans Q1; have T2 : w4.cell? ⟨w.heap.size, 2, none⟩ = some (.slice qa qus.length qcap) := (HB4.out.cell (p := ⟨w.heap.size, 2, none⟩) QL).trans Q2; have U0 : w4.cell? ⟨w1.heap.size, 0, none⟩ = some (.slice kfa kfrs.length kfcap) := (HB4.out.cell (p := ⟨w1.heap.size, 0, none⟩) KL).trans K0; have U1 : w4.cell? ⟨w1.heap.size, 1, none⟩ = some (.slice kea kens.length kecap) := (HB4.out.cell (p := ⟨w1.heap.size, 1, none⟩) KL).trans K1; have U2 : w4.cell? ⟨w1.heap.size, 2, none⟩ = some (.slice kqa kqus.length kqcap) := (HB4.out.cell (p := ⟨w1.heap.size, 2, none⟩) KL).trans K2; clear hb4)
  have HB5 : Hid (Below w.heap.size w w4) := HBX.out.trans (HB4.out.mono HBX.out.size)
  have d5 := c4 w4 _ _ (((HO1.out.at_.below HB2.out).below HB3.out).below HB4.out) (HM.out w4 HB5.out) HS1.out
  dsimp only at d5
  clear c4
  go_wp2_with (go_at_call 34; refine d5.mono ?_; rintro x w5 ⟨rfl, hb5⟩)
  go_ret
  exact ⟨ret_bool (by first | rfl | simp), HB5.out.trans (hb5.mono HB5.out.size)⟩

set_option maxRecDepth 100000 in
theorem epcPokes_lifted (os : Os) (started : os.Started) (H : Type) (enc : TypeId × Value → H) :
    ReturnsInHanded {} Try.checked os 15 .any (Rows.epcPokesSpec.pre6 enc Try.prog Try.f15 Rows.epcPokesRow.domain false) (Rows.epcPokesSpec.post enc Try.prog Try.f15 false true false false) := by
  refine returnsInHanded_of_change_sized (C := Try.checked) own started (by kernel_rfl) Try.func15
    (ChangeSpec.witness6 (enc := enc) (C := Try.checked) false ⟨#[], #[.agg #[.slice none 0 0, .slice none 0 0, .slice none 0 0], .int .i64 0, .int .i64 0, .int .i64 0], []⟩ 8 (by kernel_rfl) (by kernel_rfl) (by kernel_rfl) (by kernel_rfl)) ?_
  intro W base args ds gs before hval0 hW hcnd hsz0 _
  have hsz : (DataW.weightsEach Try.prog (Try.f15.params.toList ++ []) (ds ++ gs)).all (· ≤ reachBytes) = true := hsz0
  have hval : ∀ (j : Nat) t v, Try.f15.params[j]? = some t → args[j]? = some v → Value.okWide Try.prog W .any base t v := hval0
  have hW' := hW
  obtain ⟨p, q, hA0, hV, rfl, hfz, hnd⟩ := hW
  have hA : DataW.TrodAll enc Try.prog W 0 (fun _ => true) true Try.f15.params.toList args.toList ds p := hA0
  rw [Try.params15] at hA hval hsz
  obtain ⟨v0, vs0, d0, ds0, p0, q0, hargs, rfl, rfl, h0, r0⟩ := trodAll_cons hA
  obtain ⟨v1, vs1, d1, ds1, p1, q1, rfl, rfl, rfl, h1, r1⟩ := trodAll_cons r0
  obtain ⟨v2, vs2, d2, ds2, p2, q2, rfl, rfl, rfl, h2, r2⟩ := trodAll_cons r1
  obtain ⟨v3, vs3, d3, ds3, p3, q3, rfl, rfl, rfl, h3, r3⟩ := trodAll_cons r2
  obtain ⟨rfl, rfl, rfl⟩ := trodAll_nil r3
  obtain rfl : args = #[v0, v1, v2, v3] := by cases args; simp_all
  obtain ⟨rfl, rfl⟩ := trodVars_none hV
  have k0 := h0
  have lt0 : ∀ x ∈ p0, x.block < W.heap.size := by obtain ⟨m, hm⟩ := k0; exact DataW.trod_lt m _ _ _ hm
  obtain ⟨M0, rfl, hM0, hfit0⟩ := open_machine (hval 0 43 v0 rfl rfl) h0
  have hF0 := hfit0 fun n hn => by simpa using List.all_eq_true.1 hsz n (DataW.weights_mem_each (j := 0) rfl rfl n hn)
  have k1 := h1
  have lt1 : ∀ x ∈ p1, x.block < W.heap.size := by obtain ⟨m, hm⟩ := k1; exact DataW.trod_lt m _ _ _ hm
  obtain ⟨x1, rfl, rfl, rfl, wx1⟩ := open_int Try.underlying3 (hval 1 3 v1 rfl rfl) h1
  have k2 := h2
  have lt2 : ∀ x ∈ p2, x.block < W.heap.size := by obtain ⟨m, hm⟩ := k2; exact DataW.trod_lt m _ _ _ hm
  obtain ⟨x2, rfl, rfl, rfl, wx2⟩ := open_int Try.underlying3 (hval 2 3 v2 rfl rfl) h2
  have k3 := h3
  have lt3 : ∀ x ∈ p3, x.block < W.heap.size := by obtain ⟨m, hm⟩ := k3; exact DataW.trod_lt m _ _ _ hm
  obtain ⟨x3, rfl, rfl, rfl, wx3⟩ := open_int Try.underlying3 (hval 3 3 v3 rfl rfl) h3
  clear hA0 hval0
  refine (epcPokes_walk M0 x1 x2 x3 W hM0 hF0 wx1 wx2 wx3).mono fun e W' ⟨he, bel⟩ => ?_
  subst he
  exact ⟨_, rfl, _, _, _, [], _, [], hW', trodAll_mk1 (shut_bool Try.underlying4 _), (trodAll_cons_mk (Below.trod laidOut (by kernel_rfl) (of_decide_eq_true (by kernel_rfl)) k0 bel lt0) (trodAll_cons_mk (Below.trod laidOut (by kernel_rfl) (of_decide_eq_true (by kernel_rfl)) k1 bel lt1) (trodAll_cons_mk (Below.trod laidOut (by kernel_rfl) (of_decide_eq_true (by kernel_rfl)) k2 bel lt2) (trodAll_cons_mk (Below.trod laidOut (by kernel_rfl) (of_decide_eq_true (by kernel_rfl)) k3 bel lt3) trodAll_mk0)))), rfl, bel.frame _, fun h => by cases h⟩

theorem epcPokes_holds : Rows.EpcPokesSaid :=
  OpenClaim.holds_of_wide 15 Try.f15 rfl rfl rfl rfl rfl rfl rfl ⟨rfl, rfl, rfl, rfl, rfl⟩ rfl rfl rfl rfl rfl (by kernel_rfl) Try.func15 (by kernel_rfl)
    (of_decide_eq_true (by kernel_rfl)) (by unfold Func.isWrapper; first | (rw [if_pos (by decide +kernel)]; kernel_rfl) | (rw [if_neg (by decide +kernel)]; exact ⟨rfl, rfl⟩))
    (fun os started H enc _ => epcPokes_lifted os started H enc)
#print axioms epcPokes_holds

end Go.Proofs.Ytdbbiibnhgcndaa
