/-
  For every machine, enclave and fuel, RunResumes answers true: run.Resume answers what P3.3 says; the arguments read afterwards as before. No condition.
-/
import Derived.Test.YtjccpjfcdolafaaRefResume
import Derived.Test.YtjccpjfcdolafaaRunResume
import Derived.Test.YtjccpjfcdolafaaSameM
import Derived.Lib.SmallJoins
namespace Go.Proofs.Ytjccpjfcdolafaa
open Go.ChangeShapes Go.WideShapes Go.ChangeAt Go.RowKit Go.Joins
open Go.ChangeMaps (open_string shut_string)
set_option linter.unusedVariables false


theorem fields_ou : (Try.prog.fieldsOf 29).toList.map (fun f => (f.name, f.type, f.offset)) = [("End", 3, 0), ("Value", 3, 1)] := by kernel_rfl
theorem eq_outcome (d : Nat) (a b a' b' : Int) (w : World) :
    (Op.equalIn (d + 1 + 1) 29 (.agg #[.int .i64 a, .int .i64 b]) (.agg #[.int .i64 a', .int .i64 b'])).run Try.prog w = .ok ((a == a') && (b == b')) w := by
  rw [run_equalIn_struct w (d + 1) 29 _ _ (by kernel_rfl) (by kernel_rfl)]
  refine eq_fields2 fields_ou (by decide) (by decide) (run_part_plain w (by kernel_rfl) rfl) (run_part_plain w (by kernel_rfl) rfl) (run_part_plain w (by kernel_rfl) rfl) (run_part_plain w (by kernel_rfl) rfl)
    (run_equalIn_int w d 3 .i64 _ _ _ Try.underlying3) (run_equalIn_int w d 3 .i64 _ _ _ Try.underlying3)
theorem two_boxes (X : World) (a b c d e : Value) (t s : TypeId) : Below X.heap.size X ((X.alloc (.cells #[a, b, c] t)).alloc (.cells #[d, e] s)) ∧ ((X.alloc (.cells #[a, b, c] t)).alloc (.cells #[d, e] s)).heap[X.heap.size]? = some (.cells #[a, b, c] t (0, 0)) ∧ ((X.alloc (.cells #[a, b, c] t)).alloc (.cells #[d, e] s)).heap[X.heap.size + 1]? = some (.cells #[d, e] s (0, 0)) := by
  refine ⟨below_allocR (below_allocR (Below.refl _ _) _) _, ?_, ?_⟩
  · rw [Below.heap_alloc _ _ _ (by simp)]; exact Go.Deep.blk_alloc_new _ _
  · have := Go.Deep.blk_alloc_new (X.alloc (.cells #[a, b, c] t)) (.cells #[d, e] s)
    simpa using this
theorem one_box (X : World) (a b c : Value) (t : TypeId) : Below X.heap.size X (X.alloc (.cells #[a, b, c] t)) ∧ (X.alloc (.cells #[a, b, c] t)).heap[X.heap.size]? = some (.cells #[a, b, c] t (0, 0)) :=
  ⟨below_allocR (Below.refl _ _) _, Go.Deep.blk_alloc_new _ _⟩

set_option maxRecDepth 100000 in
set_option maxHeartbeats 4000000 in
theorem runResumes_walk (M : Mv) (e fuel : Int) (w : World) (hM : MachAt w M) (hF : M.Fits) (we : (Lit.int .i64 e).wf = true) (wfuel : (Lit.int .i64 fuel).wf = true) :
    Calls Try.prog 4 #[M.val, .int .i64 e, .int .i64 fuel] w fun x w' => x = .returned (.bool true) ∧ Below w.heap.size w w' := by
  have c1 := fun w' (h : Below w.heap.size w w') => mcopy_any M w' (hM.below h) hF
  have c2 := fun w' (K : Mv) (hK : MachAt w' K) (hS : K.Same M) => resume_any K e fuel w' hK (fits_same hF hS)
  have c3 := fun w' (h : Below w.heap.size w w') => resumedOf_any M e fuel w' (hM.below h) hF
  have c4 := fun w' (N1 N2 : Mv) (h1 : MachAt w' N1) (h2 : MachAt w' N2) (hs : N1.Same N2) => sameMachine_any N1 N2 w' h1 h2 hs
  have HM : Hid (∀ w', Below w.heap.size w w' → MachAt w' M) := fun w' h => hM.below h
  obtain ⟨z, hz⟩ : ∃ z, Hid (z = fuelF M e 3 fuel) := ⟨_, rfl⟩
  obtain ⟨nd, hnd⟩ : ∃ z, Hid (z = resD M e fuel) := ⟨_, rfl⟩
  obtain ⟨v, hv⟩ : ∃ z, Hid (z = resV M e fuel) := ⟨_, rfl⟩
  rw [← hz.out, ← hnd.out, ← hv.out] at c3
  have hE : ∀ w', (Op.equalIn 10000 29 (.agg #[.int .i64 nd, .int .i64 v]) (.agg #[.int .i64 nd, .int .i64 v])).run Try.prog w' = .ok true w' := fun w' => by
    have := eq_outcome 9998 nd v nd v w'
    simpa using this
  clear hM we wfuel
  unfold RunSaid at c2 c3
  unfold Mv.val at *
  obtain ⟨fa, frs, fcap, ea, ens, ecap, qa, qus, qcap⟩ := M
  dsimp only at *
  obtain ⟨W1, hW1⟩ : ∃ W1, Hid (W1 = w.alloc (.cells #[.slice fa frs.length fcap, .slice ea ens.length ecap, .slice qa qus.length qcap] 26)) := ⟨_, rfl⟩
  obtain ⟨BW1, mB⟩ := one_box w (.slice fa frs.length fcap) (.slice ea ens.length ecap) (.slice qa qus.length qcap) 26
  rw [← hW1.out] at BW1 mB
  have MB1 : Hid (_) := mB
  have m0 : W1.cell? ⟨w.heap.size, 0, none⟩ = some (.slice fa frs.length fcap) := by simp [World.cell?, mB]
  have m1 : W1.cell? ⟨w.heap.size, 1, none⟩ = some (.slice ea ens.length ecap) := by simp [World.cell?, mB]
  have m2 : W1.cell? ⟨w.heap.size, 2, none⟩ = some (.slice qa qus.length qcap) := by simp [World.cell?, mB]
  have ml : w.heap.size < W1.heap.size := lt_of_cell m0
  have BB1 : Hid (_) := BW1
  clear BW1 mB
  go_enter Try.func4, Try.ntmps4
  go_upto_region 1 with fail
  rw [← hW1.out]
  clear hW1
  go_upto_region 2 with (go_at_call 5; refine (c1 _ BB1.out).mono ?_; rintro x w1 ⟨K, rfl, hS, hO, hb1⟩; have HS1 : Hid (_) := hS; have HO1 : Hid (_) := hO.at_; have HB1 : Hid (Below W1.heap.size W1 w1) := hb1; clear hS hO hb1; obtain ⟨kfa, kfrs, kfcap, kea, kens, kecap, kqa, kqus, kqcap⟩ := K; dsimp only)
  obtain ⟨V1, hV1⟩ : ∃ V1, Hid (V1 = w1.alloc (.cells #[.slice kfa kfrs.length kfcap, .slice kea kens.length kecap, .slice kqa kqus.length kqcap] 26)) := ⟨_, rfl⟩
  obtain ⟨bx, kB⟩ := one_box w1 (.slice kfa kfrs.length kfcap) (.slice kea kens.length kecap) (.slice kqa kqus.length kqcap) 26
  rw [← hV1.out] at bx kB
  have BX1 : Hid (_) := bx
  have KB1 : Hid (_) := kB
  have BV1 : Hid (Below W1.heap.size W1 V1) := HB1.out.trans (bx.mono HB1.out.size)
  rw [← hV1.out]
  clear m0 m1 m2 ml hV1
  have mB := (BV1.out.block _ (Array.getElem?_eq_some_iff.1 MB1.out).1).trans MB1.out
  have m0 : V1.cell? ⟨w.heap.size, 0, none⟩ = some (.slice fa frs.length fcap) := by simp [World.cell?, mB]
  have m1 : V1.cell? ⟨w.heap.size, 1, none⟩ = some (.slice ea ens.length ecap) := by simp [World.cell?, mB]
  have m2 : V1.cell? ⟨w.heap.size, 2, none⟩ = some (.slice qa qus.length qcap) := by simp [World.cell?, mB]
  have ml : w.heap.size < V1.heap.size := lt_of_cell m0
  have k0 : V1.cell? ⟨w1.heap.size, 0, none⟩ = some (.slice kfa kfrs.length kfcap) := by simp [World.cell?, kB]
  have k1 : V1.cell? ⟨w1.heap.size, 1, none⟩ = some (.slice kea kens.length kecap) := by simp [World.cell?, kB]
  have k2 : V1.cell? ⟨w1.heap.size, 2, none⟩ = some (.slice kqa kqus.length kqcap) := by simp [World.cell?, kB]
  have kl : w1.heap.size < V1.heap.size := lt_of_cell k0
  clear mB kB bx
  have d2 := c2 V1 _ (HO1.out.below BX1.out) HS1.out
  rw [fuelF_same HS1.out, resD_same HS1.out, resV_same HS1.out, ← hz.out, ← hnd.out, ← hv.out] at d2
  dsimp only at d2
  clear c1 c2 hF hz hnd hv
  go_upto_region 3 with (go_at_call 9; refine d2.mono ?_; rintro x w2 ⟨N1, rfl, hS, hA, hb2⟩; have HS2 : Hid (_) := hS; have HA2 : Hid (_) := hA.at_; have HB2 : Hid (Below V1.heap.size V1 w2) := hb2; clear hS hA hb2; obtain ⟨afa, afrs, afcap, aea, aens, aecap, aqa, aqus, aqcap⟩ := N1; dsimp only)
  obtain ⟨V2, hV2⟩ : ∃ V2, Hid (V2 = (w2.alloc (.cells #[.slice afa afrs.length afcap, .slice aea aens.length aecap, .slice aqa aqus.length aqcap] 26)).alloc (.cells #[.int .i64 nd, .int .i64 v] 29)) := ⟨_, rfl⟩
  obtain ⟨bx, aB, oB⟩ := two_boxes w2 (.slice afa afrs.length afcap) (.slice aea aens.length aecap) (.slice aqa aqus.length aqcap) (.int .i64 nd) (.int .i64 v) 26 29
  rw [← hV2.out] at bx aB oB
  have BX2 : Hid (_) := bx
  have AB2 : Hid (_) := aB
  have OB2 : Hid (_) := oB
  have BV2 : Hid (Below V1.heap.size V1 V2) := HB2.out.trans (bx.mono HB2.out.size)
  rw [← hV2.out]
  clear m0 m1 m2 ml k0 k1 k2 kl hV2 d2
  have mB := (BV2.out.block _ (Array.getElem?_eq_some_iff.1 ((BV1.out.block _ (Array.getElem?_eq_some_iff.1 MB1.out).1).trans MB1.out)).1).trans ((BV1.out.block _ (Array.getElem?_eq_some_iff.1 MB1.out).1).trans MB1.out)
  have MB2 : Hid (_) := mB
  have kB := (BV2.out.block _ (Array.getElem?_eq_some_iff.1 KB1.out).1).trans KB1.out
  have KB2 : Hid (_) := kB
  have m0 : V2.cell? ⟨w.heap.size, 0, none⟩ = some (.slice fa frs.length fcap) := by simp [World.cell?, mB]
  have m1 : V2.cell? ⟨w.heap.size, 1, none⟩ = some (.slice ea ens.length ecap) := by simp [World.cell?, mB]
  have m2 : V2.cell? ⟨w.heap.size, 2, none⟩ = some (.slice qa qus.length qcap) := by simp [World.cell?, mB]
  have ml : w.heap.size < V2.heap.size := lt_of_cell m0
  clear mB kB bx aB oB
  have BA : Hid (Below w.heap.size w V2) := BB1.out.trans ((BV1.out.trans (BV2.out.mono BV1.out.size)).mono BB1.out.size)
  have d3 := c3 V2 BA.out
  clear c3
  go_upto_region 4 with (go_at_call 10; refine d3.mono ?_; rintro x w3 ⟨N2, rfl, hS, hA, hb3⟩; have HS3 : Hid (_) := hS; have HA3 : Hid (_) := hA.at_; have HB3 : Hid (Below V2.heap.size V2 w3) := hb3; clear hS hA hb3; obtain ⟨bfa, bfrs, bfcap, bea, bens, becap, bqa, bqus, bqcap⟩ := N2; dsimp only)
  obtain ⟨V3, hV3⟩ : ∃ V3, Hid (V3 = (w3.alloc (.cells #[.slice bfa bfrs.length bfcap, .slice bea bens.length becap, .slice bqa bqus.length bqcap] 26)).alloc (.cells #[.int .i64 nd, .int .i64 v] 29)) := ⟨_, rfl⟩
  obtain ⟨bx, bB, pB⟩ := two_boxes w3 (.slice bfa bfrs.length bfcap) (.slice bea bens.length becap) (.slice bqa bqus.length bqcap) (.int .i64 nd) (.int .i64 v) 26 29
  rw [← hV3.out] at bx bB pB
  have BX3 : Hid (_) := bx
  have BV3 : Hid (Below V2.heap.size V2 V3) := HB3.out.trans (bx.mono HB3.out.size)
  rw [← hV3.out]
  clear m0 m1 m2 ml hV3 d3
  have mB := (BV3.out.block _ (Array.getElem?_eq_some_iff.1 MB2.out).1).trans MB2.out
  have kB := (BV3.out.block _ (Array.getElem?_eq_some_iff.1 KB2.out).1).trans KB2.out
  have aB := (BV3.out.block _ (Array.getElem?_eq_some_iff.1 AB2.out).1).trans AB2.out
  have oB := (BV3.out.block _ (Array.getElem?_eq_some_iff.1 OB2.out).1).trans OB2.out
  have MB3 : Hid (_) := mB
  have KB3 : Hid (_) := kB
  have a0 : V3.cell? ⟨w2.heap.size, 0, none⟩ = some (.slice afa afrs.length afcap) := by simp [World.cell?, aB]
  have a1 : V3.cell? ⟨w2.heap.size, 1, none⟩ = some (.slice aea aens.length aecap) := by simp [World.cell?, aB]
  have a2 : V3.cell? ⟨w2.heap.size, 2, none⟩ = some (.slice aqa aqus.length aqcap) := by simp [World.cell?, aB]
  have al : w2.heap.size < V3.heap.size := lt_of_cell a0
  have b0 : V3.cell? ⟨w3.heap.size, 0, none⟩ = some (.slice bfa bfrs.length bfcap) := by simp [World.cell?, bB]
  have b1 : V3.cell? ⟨w3.heap.size, 1, none⟩ = some (.slice bea bens.length becap) := by simp [World.cell?, bB]
  have b2 : V3.cell? ⟨w3.heap.size, 2, none⟩ = some (.slice bqa bqus.length bqcap) := by simp [World.cell?, bB]
  have bl : w3.heap.size < V3.heap.size := lt_of_cell b0
  have o0 : V3.cell? ⟨w2.heap.size + 1, 0, none⟩ = some (.int .i64 nd) := by simp [World.cell?, oB]
  have o1 : V3.cell? ⟨w2.heap.size + 1, 1, none⟩ = some (.int .i64 v) := by simp [World.cell?, oB]
  have ol : w2.heap.size + 1 < V3.heap.size := lt_of_cell o0
  have p0 : V3.cell? ⟨w3.heap.size + 1, 0, none⟩ = some (.int .i64 nd) := by simp [World.cell?, pB]
  have p1 : V3.cell? ⟨w3.heap.size + 1, 1, none⟩ = some (.int .i64 v) := by simp [World.cell?, pB]
  have pl : w3.heap.size + 1 < V3.heap.size := lt_of_cell p0
  clear mB kB aB bB oB pB bx
  have BC : Hid (Below w.heap.size w V3) := BA.out.trans (BV3.out.mono BA.out.size)
  have d4 := c4 V3 _ _ (((HA2.out.below BX2.out).below HB3.out).below BX3.out) (HA3.out.below BX3.out) ((HS2.out.trans (resM_same HS1.out e fuel)).trans HS3.out.symm)
  have d5 := fun w4 (hb : Below V3.heap.size V3 w4) => c4 w4 _ _ ((((HO1.out.below BX1.out).below BV2.out).below BV3.out).below hb) (HM.out w4 (BC.out.trans (hb.mono BC.out.size))) HS1.out
  dsimp only at d4 d5
  clear c4
  go_wp2_with (go_at_call 8; refine d4.mono ?_; clear d4; rintro x w4 ⟨rfl, hb4⟩; have HB4 : Hid (Below V3.heap.size V3 w4) := hb4; have mB := (hb4.block _ (Array.getElem?_eq_some_iff.1 MB3.out).1).trans MB3.out; have kB := (hb4.block _ (Array.getElem?_eq_some_iff.1 KB3.out).1).trans KB3.out; have m0 : w4.cell? ⟨w.heap.size, 0, none⟩ = some (.slice fa frs.length fcap) := (by simp [World.cell?, mB]); have m1 : w4.cell? ⟨w.heap.size, 1, none⟩ = some (.slice ea ens.length ecap) := (by simp [World.cell?, mB]); have m2 : w4.cell? ⟨w.heap.size, 2, none⟩ = some (.slice qa qus.length qcap) := (by simp [World.cell?, mB]); have k0 : w4.cell? ⟨w1.heap.size, 0, none⟩ = some (.slice kfa kfrs.length kfcap) := (by simp [World.cell?, kB]); have k1 : w4.cell? ⟨w1.heap.size, 1, none⟩ = some (.slice kea kens.length kecap) := (by simp [World.cell?, kB]); have k2 : w4.cell? ⟨w1.heap.size, 2, none⟩ = some (.slice kqa kqus.length kqcap) := (by simp [World.cell?, kB]); clear hb4 mB kB a0 a1 a2 b0 b1 b2 o0 o1 p0 p1 al bl ol pl)
  have d6 := d5 w4 HB4.out
  clear d5
  go_wp2_with (go_at_call 8; refine d6.mono ?_; rintro x w5 ⟨rfl, hb5⟩; have HB5 : Hid (_) := hb5; clear hb5)
  go_ret
  exact ⟨ret_bool (by first | rfl | simp), (BC.out.trans (HB4.out.mono BC.out.size)).trans (HB5.out.mono (Nat.le_trans BC.out.size HB4.out.size))⟩

set_option maxRecDepth 100000 in
theorem runResumes_lifted (os : Os) (started : os.Started) (H : Type) (enc : TypeId × Value → H) :
    ReturnsInHanded {} Try.checked os 4 .any (Rows.runResumesSpec.pre6 enc Try.prog Try.f4 Rows.runResumesRow.domain false) (Rows.runResumesSpec.post enc Try.prog Try.f4 false true false false) := by
  refine returnsInHanded_of_change_sized (C := Try.checked) own started (by kernel_rfl) Try.func4
    (ChangeSpec.witness6 (enc := enc) (C := Try.checked) false ⟨#[], #[.agg #[.slice none 0 0, .slice none 0 0, .slice none 0 0], .int .i64 0, .int .i64 0], []⟩ 8 (by kernel_rfl) (by kernel_rfl) (by kernel_rfl) (by kernel_rfl)) ?_
  intro W base args ds gs before hval0 hW hcnd hsz0 _
  have hsz : (DataW.weightsEach Try.prog (Try.f4.params.toList ++ []) (ds ++ gs)).all (· ≤ reachBytes) = true := hsz0
  have hval : ∀ (j : Nat) t v, Try.f4.params[j]? = some t → args[j]? = some v → Value.okWide Try.prog W .any base t v := hval0
  have hW' := hW
  obtain ⟨p, q, hA0, hV, rfl, hfz, hnd⟩ := hW
  have hA : DataW.TrodAll enc Try.prog W 0 (fun _ => true) true Try.f4.params.toList args.toList ds p := hA0
  rw [Try.params4] at hA hval hsz
  obtain ⟨v0, vs0, d0, ds0, p0, q0, hargs, rfl, rfl, h0, r0⟩ := trodAll_cons hA
  obtain ⟨v1, vs1, d1, ds1, p1, q1, rfl, rfl, rfl, h1, r1⟩ := trodAll_cons r0
  obtain ⟨v2, vs2, d2, ds2, p2, q2, rfl, rfl, rfl, h2, r2⟩ := trodAll_cons r1
  obtain ⟨rfl, rfl, rfl⟩ := trodAll_nil r2
  obtain rfl : args = #[v0, v1, v2] := by cases args; simp_all
  obtain ⟨rfl, rfl⟩ := trodVars_none hV
  have k0 := h0
  have lt0 : ∀ x ∈ p0, x.block < W.heap.size := by obtain ⟨m, hm⟩ := k0; exact DataW.trod_lt m _ _ _ hm
  obtain ⟨M0, rfl, hM0, hfit0⟩ := open_machine (hval 0 26 v0 rfl rfl) h0
  have hF0 := hfit0 fun n hn => by simpa using List.all_eq_true.1 hsz n (DataW.weights_mem_each (j := 0) rfl rfl n hn)
  have k1 := h1
  have lt1 : ∀ x ∈ p1, x.block < W.heap.size := by obtain ⟨m, hm⟩ := k1; exact DataW.trod_lt m _ _ _ hm
  obtain ⟨x1, rfl, rfl, rfl, wx1⟩ := open_int Try.underlying3 (hval 1 3 v1 rfl rfl) h1
  have k2 := h2
  have lt2 : ∀ x ∈ p2, x.block < W.heap.size := by obtain ⟨m, hm⟩ := k2; exact DataW.trod_lt m _ _ _ hm
  obtain ⟨x2, rfl, rfl, rfl, wx2⟩ := open_int Try.underlying3 (hval 2 3 v2 rfl rfl) h2
  clear hA0 hval0
  refine (runResumes_walk M0 x1 x2 W hM0 hF0 wx1 wx2).mono fun e W' ⟨he, bel⟩ => ?_
  subst he
  exact ⟨_, rfl, _, _, _, [], _, [], hW', trodAll_mk1 (shut_bool Try.underlying4 _), (trodAll_cons_mk (Below.trod laidOut (by kernel_rfl) (of_decide_eq_true (by kernel_rfl)) k0 bel lt0) (trodAll_cons_mk (Below.trod laidOut (by kernel_rfl) (of_decide_eq_true (by kernel_rfl)) k1 bel lt1) (trodAll_cons_mk (Below.trod laidOut (by kernel_rfl) (of_decide_eq_true (by kernel_rfl)) k2 bel lt2) trodAll_mk0))), rfl, bel.frame _, fun h => by cases h⟩

theorem runResumes_holds : Rows.RunResumesSaid :=
  OpenClaim.holds_of_wide 4 Try.f4 rfl rfl rfl rfl rfl rfl rfl ⟨rfl, rfl, rfl, rfl, rfl⟩ rfl rfl rfl rfl rfl (by kernel_rfl) Try.func4 (by kernel_rfl)
    (of_decide_eq_true (by kernel_rfl)) (by unfold Func.isWrapper; first | (rw [if_pos (by decide +kernel)]; kernel_rfl) | (rw [if_neg (by decide +kernel)]; exact ⟨rfl, rfl⟩))
    (fun os started H enc _ => runResumes_lifted os started H enc)
#print axioms runResumes_holds

end Go.Proofs.Ytjccpjfcdolafaa
