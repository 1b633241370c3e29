/-
  For every machine, enclave, frame, place and rights, EpcPuts answers true: epc.Put answers what P2.4 says; the arguments read afterwards as before. No condition but that the library's tables are as the program's text lays them, which the card ties.
-/
import Derived.Test.YtdbbiibnhgcndaaDoorPut
import Derived.Test.YtdbbiibnhgcndaaDoorPutOf
import Derived.Test.YtdbbiibnhgcndaaDoorSameM
import Derived.Test.YtdbbiibnhgcndaaDoorLaid
namespace Go.Proofs.YtdbbiibnhgcndaaDoor
open Go.ChangeShapes Go.WideShapes Go.ChangeAt Go.RowKit
set_option linter.unusedVariables false
set_option maxRecDepth 100000


set_option maxRecDepth 100000 in
set_option maxHeartbeats 4000000 in
theorem epcPuts_walk (M : Mv) (e f a r : Int) (w : World) (hM : MachAt w M) (hF : M.Fits) (we : (Lit.int .i64 e).wf = true) (wf : (Lit.int .i64 f).wf = true) (wa : (Lit.int .i64 a).wf = true) (wr : (Lit.int .i64 r).wf = true) (ht : Tab w) :
    Calls Tryd.prog 10 #[M.val, .int .i64 e, .int .i64 f, .int .i64 a, .int .i64 r] w fun x w' => x = .returned (.bool true) ∧ Below w.heap.size w w' := by
  have c1 := fun w' (h : Below w.heap.size w w') => mcopy_any M w' (hM.below h) hF
  have c2 := fun w' (K : Mv) (hb : Below w.heap.size w w') (hK : MachAt w' K) (hS : K.Same M) => put_any K e f a r w' hK (fits_same hF hS) wa wr (ht.below hb)
  have c3 := fun w' (h : Below w.heap.size w w') => putOf_any M e f a r w' (hM.below h) hF wa wr
  have c4 := fun w' (N1 N2 : Mv) (h1 : MachAt w' N1) (h2 : MachAt w' N2) (hs : N1.Same N2) => sameMachine_any N1 N2 w' h1 h2 hs
  have HM : Hid (∀ w', Below w.heap.size w w' → MachAt w' M) := fun w' h => hM.below h
  obtain ⟨z, hz⟩ : ∃ z, Hid (z = putF M e f a r) := ⟨_, rfl⟩
  rw [← hz.out] at c3
  clear hM ht we wf wa wr
  unfold Mv.val at *
  obtain ⟨fa, frs, fcap, ea, ens, ecap, qa, qus, qcap⟩ := M
  dsimp only at *
  have B1 : ∀ o, Hid (Below w.heap.size w (w.alloc o)) := fun o => (Below.refl _ _).alloc (Nat.le_refl _) _
  go_enter Tryd.func10, Tryd.ntmps10
  go_wp2_with (go_at_call 24; refine (c1 _ (B1 _).out).mono ?_; rintro x w1 ⟨K, rfl, hS, hO, hb1⟩; obtain ⟨m0, m1, m2, ml⟩ := box3 hb1; have HS1 : Hid (_) := hS; have HO1 : Hid (_) := hO; have HB1 : Hid (Below w.heap.size w w1) := (B1 _).out.trans (hb1.mono (by simp)); clear hS hO hb1; obtain ⟨kfa, kfrs, kfcap, kea, kens, kecap, kqa, kqus, kqcap⟩ := K; dsimp only)
  have d2 := fun o => c2 (w1.alloc o) _ (HB1.out.alloc HB1.out.size o) (HO1.out.at_.below ((Below.refl _ _).alloc (Nat.le_refl _) o)) HS1.out
  rw [putF_same HS1.out e f a r, ← hz.out] at d2
  dsimp only at d2
  clear c1 c2 hF hz
  go_wp2_with (go_at_call 28; refine (d2 _).mono ?_; rintro x w2 ⟨N1, rfl, hS, hA, hb2⟩; obtain ⟨k0, k1, k2, kl⟩ := box3 hb2; have HB2 : Hid (Below w1.heap.size w1 w2) := ((Below.refl _ _).alloc (Nat.le_refl _) _).trans (hb2.mono (by simp)); have M0 : w2.cell? ⟨w.heap.size, 0, none⟩ = some (.slice fa frs.length fcap) := (HB2.out.cell (p := ⟨w.heap.size, 0, none⟩) ml).trans m0; have M1 : w2.cell? ⟨w.heap.size, 1, none⟩ = some (.slice ea ens.length ecap) := (HB2.out.cell (p := ⟨w.heap.size, 1, none⟩) ml).trans m1; have M2 : w2.cell? ⟨w.heap.size, 2, none⟩ = some (.slice qa qus.length qcap) := (HB2.out.cell (p := ⟨w.heap.size, 2, none⟩) ml).trans m2; have ML : w.heap.size < w2.heap.size := lt_of_cell M0; have HS2 : Hid (_) := hS; have HA2 : Hid (_) := hA.at_; clear hS hA hb2 m0 m1 m2; obtain ⟨afa, afrs, afcap, aea, aens, aecap, aqa, aqus, aqcap⟩ := N1; dsimp only)
  have BA : ∀ o, Hid (Below w.heap.size w (w2.alloc o)) := fun o => (HB1.out.trans (HB2.out.mono HB1.out.size)).alloc (by have := HB1.out.size; have := HB2.out.size; omega) o
  clear d2
  go_wp2_with (go_at_call 29; refine (c3 _ (BA _).out).mono ?_; rintro x w3 ⟨N2, rfl, hS, hA, hb3⟩; obtain ⟨a0, a1, a2, al⟩ := box3 hb3; have HB3 : Hid (Below w2.heap.size w2 w3) := ((Below.refl _ _).alloc (Nat.le_refl _) _).trans (hb3.mono (by simp)); have Q0 : w3.cell? ⟨w.heap.size, 0, none⟩ = some (.slice fa frs.length fcap) := (HB3.out.cell (p := ⟨w.heap.size, 0, none⟩) ML).trans M0; have Q1 : w3.cell? ⟨w.heap.size, 1, none⟩ = some (.slice ea ens.length ecap) := (HB3.out.cell (p := ⟨w.heap.size, 1, none⟩) ML).trans M1; have Q2 : w3.cell? ⟨w.heap.size, 2, none⟩ = some (.slice qa qus.length qcap) := (HB3.out.cell (p := ⟨w.heap.size, 2, none⟩) ML).trans M2; have K0 : w3.cell? ⟨w1.heap.size, 0, none⟩ = some (.slice kfa kfrs.length kfcap) := (HB3.out.cell (p := ⟨w1.heap.size, 0, none⟩) kl).trans k0; have K1 : w3.cell? ⟨w1.heap.size, 1, none⟩ = some (.slice kea kens.length kecap) := (HB3.out.cell (p := ⟨w1.heap.size, 1, none⟩) kl).trans k1; have K2 : w3.cell? ⟨w1.heap.size, 2, none⟩ = some (.slice kqa kqus.length kqcap) := (HB3.out.cell (p := ⟨w1.heap.size, 2, none⟩) kl).trans k2; have QL : w.heap.size < w3.heap.size := lt_of_cell Q0; have KL : w1.heap.size < w3.heap.size := lt_of_cell K0; have HS3 : Hid (_) := hS; have HA3 : Hid (_) := hA.at_; clear hS hA hb3 M0 M1 M2 k0 k1 k2; obtain ⟨bfa, bfrs, bfcap, bea, bens, becap, bqa, bqus, bqcap⟩ := N2; dsimp only)
  have HBX : Hid (Below w.heap.size w w3) := (HB1.out.trans (HB2.out.mono HB1.out.size)).trans (HB3.out.mono (by have := HB1.out.size; have := HB2.out.size; omega))
  have d4 := fun o => c4 (w3.alloc o) _ _ ((HA2.out.below HB3.out).below ((Below.refl _ _).alloc (Nat.le_refl _) o)) (HA3.out.below ((Below.refl _ _).alloc (Nat.le_refl _) o)) ((HS2.out.trans (putM_same HS1.out e f a r)).trans HS3.out.symm)
  dsimp only at d4
  clear c3
  go_wp2_with (go_at_call 27; refine (d4 _).mono ?_; clear d4; rintro x w4 ⟨rfl, hb4⟩; have HB4 : Hid (Below w3.heap.size w3 w4) := ((Below.refl _ _).alloc (Nat.le_refl _) _).trans (hb4.mono (by simp)); have T0 : w4.cell? ⟨w.heap.size, 0, none⟩ = some (.slice fa frs.length fcap) := (HB4.out.cell (p := ⟨w.heap.size, 0, none⟩) QL).trans Q0; have T1 : w4.cell? ⟨w.heap.size, 1, none⟩ = some (.slice ea ens.length ecap) := (HB4.out.cell (p := ⟨w.heap.size, 1, none⟩) QL).trans Q1; have T2 : w4.cell? ⟨w.heap.size, 2, none⟩ = some (.slice qa qus.length qcap) := (HB4.out.cell (p := ⟨w.heap.size, 2, none⟩) QL).trans Q2; have U0 : w4.cell? ⟨w1.heap.size, 0, none⟩ = some (.slice kfa kfrs.length kfcap) := (HB4.out.cell (p := ⟨w1.heap.size, 0, none⟩) KL).trans K0; have U1 : w4.cell? ⟨w1.heap.size, 1, none⟩ = some (.slice kea kens.length kecap) := (HB4.out.cell (p := ⟨w1.heap.size, 1, none⟩) KL).trans K1; have U2 : w4.cell? ⟨w1.heap.size, 2, none⟩ = some (.slice kqa kqus.length kqcap) := (HB4.out.cell (p := ⟨w1.heap.size, 2, none⟩) KL).trans K2; clear hb4)
  have HB5 : Hid (Below w.heap.size w w4) := HBX.out.trans (HB4.out.mono HBX.out.size)
  have d5 := c4 w4 _ _ (((HO1.out.at_.below HB2.out).below HB3.out).below HB4.out) (HM.out w4 HB5.out) HS1.out
  dsimp only at d5
  clear c4
  go_wp2_with (go_at_call 27; refine d5.mono ?_; rintro x w5 ⟨rfl, hb5⟩)
  go_ret
  exact ⟨ret_bool (by first | rfl | simp), HB5.out.trans (hb5.mono HB5.out.size)⟩

set_option maxRecDepth 100000 in
theorem epcPuts_contract (H : Type) (enc : TypeId × Value → H) (W : World) (base : Nat) (args : Array Value) (ds gs : List (DataW H)) (before : List MemPlace)
    (hval0 : ∀ (j : Nat) t v, Tryd.f10.params[j]? = some t → args[j]? = some v → Value.okWide Tryd.prog W .any base t v)
    (hW : DataW.Whole enc Tryd.prog Tryd.f10.params.toList Rows.epcPutsSpec.vars false W args.toList ds gs before) (hL : laidMetH Tryd.prog listed W)
    (hsz0 : (DataW.weightsEach Tryd.prog (Tryd.f10.params.toList ++ []) (ds ++ gs)).all (· ≤ reachBytes) = true) :
    Calls Tryd.prog 10 args W fun e W' => ∃ v, e = .returned v ∧ Rows.epcPutsSpec.post enc Tryd.prog Tryd.f10 false true false false W args v W' := by
  have hval := hval0
  have hsz := hsz0
  have hW' := hW
  obtain ⟨p, q, hA0, hV, rfl, hfz, hnd⟩ := hW
  have hA : DataW.TrodAll enc Tryd.prog W 0 (fun _ => true) true Tryd.f10.params.toList args.toList ds p := hA0
  rw [Tryd.params10] at hA hval hsz
  obtain ⟨v0, vs0, d0, ds0, p0, q0, hargs, rfl, rfl, h0, r0⟩ := trodAll_cons hA
  obtain ⟨v1, vs1, d1, ds1, p1, q1, rfl, rfl, rfl, h1, r1⟩ := trodAll_cons r0
  obtain ⟨v2, vs2, d2, ds2, p2, q2, rfl, rfl, rfl, h2, r2⟩ := trodAll_cons r1
  obtain ⟨v3, vs3, d3, ds3, p3, q3, rfl, rfl, rfl, h3, r3⟩ := trodAll_cons r2
  obtain ⟨v4, vs4, d4, ds4, p4, q4, rfl, rfl, rfl, h4, r4⟩ := trodAll_cons r3
  obtain ⟨rfl, rfl, rfl⟩ := trodAll_nil r4
  obtain rfl : args = #[v0, v1, v2, v3, v4] := by cases args; simp_all
  obtain ⟨rfl, rfl⟩ := trodVars_none hV
  have k0 := h0
  have lt0 : ∀ x ∈ p0, x.block < W.heap.size := by obtain ⟨m, hm⟩ := k0; exact DataW.trod_lt m _ _ _ hm
  obtain ⟨M0, rfl, hM0, hfit0⟩ := open_machine (hval 0 51 v0 rfl rfl) h0
  have hF0 := hfit0 fun n hn => by simpa using List.all_eq_true.1 hsz n (DataW.weights_mem_each (j := 0) rfl rfl n hn)
  have k1 := h1
  have lt1 : ∀ x ∈ p1, x.block < W.heap.size := by obtain ⟨m, hm⟩ := k1; exact DataW.trod_lt m _ _ _ hm
  obtain ⟨x1, rfl, rfl, rfl, wx1⟩ := open_int Tryd.underlying3 (hval 1 3 v1 rfl rfl) h1
  have k2 := h2
  have lt2 : ∀ x ∈ p2, x.block < W.heap.size := by obtain ⟨m, hm⟩ := k2; exact DataW.trod_lt m _ _ _ hm
  obtain ⟨x2, rfl, rfl, rfl, wx2⟩ := open_int Tryd.underlying3 (hval 2 3 v2 rfl rfl) h2
  have k3 := h3
  have lt3 : ∀ x ∈ p3, x.block < W.heap.size := by obtain ⟨m, hm⟩ := k3; exact DataW.trod_lt m _ _ _ hm
  obtain ⟨x3, rfl, rfl, rfl, wx3⟩ := open_int Tryd.underlying3 (hval 3 3 v3 rfl rfl) h3
  have k4 := h4
  have lt4 : ∀ x ∈ p4, x.block < W.heap.size := by obtain ⟨m, hm⟩ := k4; exact DataW.trod_lt m _ _ _ hm
  obtain ⟨x4, rfl, rfl, rfl, wx4⟩ := open_int Tryd.underlying3 (hval 4 3 v4 rfl rfl) h4
  clear hA0 hval0
  refine (epcPuts_walk M0 x1 x2 x3 x4 W hM0 hF0 wx1 wx2 wx3 wx4 (tab_of hL)).mono fun e W' ⟨he, bel⟩ => ?_
  subst he
  exact ⟨_, rfl, _, _, _, [], _, [], hW', trodAll_mk1 (shut_bool Tryd.underlying4 _), (trodAll_cons_mk (Below.trod laidOut (by kernel_rfl) (of_decide_eq_true (by kernel_rfl)) k0 bel lt0) (trodAll_cons_mk (Below.trod laidOut (by kernel_rfl) (of_decide_eq_true (by kernel_rfl)) k1 bel lt1) (trodAll_cons_mk (Below.trod laidOut (by kernel_rfl) (of_decide_eq_true (by kernel_rfl)) k2 bel lt2) (trodAll_cons_mk (Below.trod laidOut (by kernel_rfl) (of_decide_eq_true (by kernel_rfl)) k3 bel lt3) (trodAll_cons_mk (Below.trod laidOut (by kernel_rfl) (of_decide_eq_true (by kernel_rfl)) k4 bel lt4) trodAll_mk0))))), rfl, bel.frame _, fun h => by cases h⟩

theorem epcPuts_laid (os : Os) : laidMet Tryd.prog listed ((laidWorld os).forCall (fun _ _ => 0) ⟨#[], #[.agg #[.slice none 0 0, .slice none 0 0, .slice none 0 0], .int .i64 0, .int .i64 0, .int .i64 0, .int .i64 0], []⟩).memory :=
  laidMet_of_run' 8 (by kernel_rfl) (by kernel_rfl)
theorem epcPuts_reads (os : Os) {H : Type} (enc : TypeId × Value → H) : ∃ places, DataW.whole enc Tryd.prog ((laidWorld os).forCall (fun _ _ => 0) ⟨#[], #[.agg #[.slice none 0 0, .slice none 0 0, .slice none 0 0], .int .i64 0, .int .i64 0, .int .i64 0, .int .i64 0], []⟩).memory Tryd.f10.params.toList Rows.epcPutsSpec.vars false (#[.agg #[.slice none 0 0, .slice none 0 0, .slice none 0 0], .int .i64 0, .int .i64 0, .int .i64 0, .int .i64 0] : Array Value).toList 8 = some ([.agg [.nil, .nil, .nil], .lit (.int .i64 0), .lit (.int .i64 0), .lit (.int .i64 0), .lit (.int .i64 0)], [], places) :=
  ⟨[], by kernel_rfl⟩

set_option maxRecDepth 100000 in
theorem epcPuts_lifted (os : Os) (started : os.Started) (H : Type) (enc : TypeId × Value → H) (F : Stop.Interp) :
    ReturnsInHanded {} Tryd.checked os 10 .any ((OpenSpec.ofChange Rows.epcPutsSpec).preRow enc Tryd.prog Tryd.f10 Rows.epcPutsRow.domain false Rows.epcPutsRow.laid) (((OpenSpec.ofChange Rows.epcPutsSpec).at F).post enc Tryd.prog Tryd.f10 false true false false) := by
  obtain ⟨places, hx⟩ := epcPuts_reads os enc
  refine returnsInHanded_of_row (C := Tryd.checked) (s := (OpenSpec.ofChange Rows.epcPutsSpec)) own started (by kernel_rfl) Tryd.func10
    (witness_row_at (enc := enc) (C := Tryd.checked) false (laidWorld os) #[.agg #[.slice none 0 0, .slice none 0 0, .slice none 0 0], .int .i64 0, .int .i64 0, .int .i64 0, .int .i64 0] rfl (by kernel_rfl) (by kernel_rfl) (by kernel_rfl)
      (OpenSpec.preRow_of_cond 8 hx (by kernel_rfl) (fun k hk => by cases hk) (by kernel_rfl) (epcPuts_laid os))) ?_
  intro W base args ds gs before hval hW _ hcond hsz hL _ _
  exact epcPuts_contract H enc W base args ds gs before hval hW hL hsz

theorem epcPuts_said : Rows.EpcPutsSaid :=
  OpenClaim.holds_of_cond 10 Tryd.f10 rfl rfl rfl rfl rfl rfl rfl ⟨rfl, rfl, rfl, rfl, rfl⟩ rfl rfl rfl rfl rfl (by kernel_rfl) Tryd.func10 (by kernel_rfl)
    (of_decide_eq_true (by kernel_rfl)) (by unfold Func.isWrapper; first | (rw [if_pos (by decide +kernel)]; kernel_rfl) | (rw [if_neg (by decide +kernel)]; exact ⟨rfl, rfl⟩))
    (fun os started H enc _ F => by rw [OpenClaim.pre_eq_preRow]; exact epcPuts_lifted os started H enc F)

theorem epcPuts_plain (f : FuncId) (fn : Func) (hf : Tryd.pinned.checked.prog.funcNamed "riddle/riddlelaw.EpcPuts" = some f) (hfn : Tryd.pinned.checked.prog.funcs[f]? = some fn) :
    false = Tryd.pinned.checked.prog.looks [] ∧ ∀ (j : Nat) t, fn.params[j]? = some t → Tryd.pinned.checked.prog.wantsStandIn t = false := by
  obtain rfl : f = 10 := Option.some.inj ((show Tryd.prog.funcNamed "riddle/riddlelaw.EpcPuts" = some 10 by kernel_rfl).symm.trans hf) |>.symm
  obtain rfl : fn = Tryd.f10 := (Option.some.inj (Tryd.func10.symm.trans hfn)).symm
  refine ⟨by kernel_rfl, fun j t ht => ?_⟩
  rw [Tryd.params10] at ht
  have hm : t = 51 ∨ t = 3 := by simpa using Array.mem_of_getElem? ht
  rcases hm with rfl | rfl
  · exact (show Tryd.prog.wantsStandIn 51 = false by kernel_rfl)
  · exact (show Tryd.prog.wantsStandIn 3 = false by kernel_rfl)

theorem epcPuts_card : Rows.EpcPutsCardSaid :=
  Claim7.holds_tied_plain_at .later [] _ _ _ _ epcPuts_said (fun _ h => by cases h) (by kernel_rfl) (fun _ h => by cases h) epcPuts_row_tie rfl ⟨rfl, rfl⟩ (by kernel_rfl) rfl epcPuts_plain (by kernel_rfl)
#print axioms epcPuts_card

end Go.Proofs.YtdbbiibnhgcndaaDoor
