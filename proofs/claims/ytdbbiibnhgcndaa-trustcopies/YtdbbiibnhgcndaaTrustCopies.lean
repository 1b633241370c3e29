/-
  For every challenger, TrustCopies answers true: trust.Copy answers what P4.1 says; the argument reads afterwards as before. No condition.
-/
import Derived.Test.YtdbbiibnhgcndaaCopyC
import Derived.Test.YtdbbiibnhgcndaaSameC
import Derived.Test.YtdbbiibnhgcndaaChalChk
import Derived.Lib.SmallJoins
namespace Go.Proofs.Ytdbbiibnhgcndaa
open Go.ChangeShapes Go.WideShapes Go.ChangeAt Go.RowKit Go.Joins
open Go.ChangeMaps (open_string shut_string)
set_option linter.unusedVariables false


set_option maxRecDepth 100000 in
set_option maxHeartbeats 1600000 in
theorem trustCopies_walk (C : Cv) (w : World) (hC : ChalAt w C) (hF : C.Fits) :
    Calls Try.prog 17 #[C.val] w fun x w' => x = .returned (.bool true) ∧ Below w.heap.size w w' := by
  have c1 := fun w' (h : Below w.heap.size w w') => copyC_any C w' (hC.below h) hF
  have c4 := fun w' (N1 N2 : Cv) (h1 : ChalAt w' N1) (h2 : ChalAt w' N2) (hs : N1.Same N2) => sameC_any N1 N2 w' h1 h2 hs
  have HC : Hid (∀ w', Below w.heap.size w w' → ChalAt w' C) := fun w' h => hC.below h
  clear hC
  unfold Cv.val at *
  obtain ⟨ta, tr, tcap, na, ns, ncap⟩ := C
  dsimp only at *
  have B1 : ∀ o, Hid (Below w.heap.size w (w.alloc o)) := fun o => (Below.refl _ _).alloc (Nat.le_refl _) _
  go_enter Try.func17, Try.ntmps17
  go_wp2_with (go_at_call 51; refine (c1 _ (B1 _).out).mono ?_; rintro x w1 ⟨K, rfl, hS, hO, hb1⟩; obtain ⟨m0, m1, ml⟩ := box2 hb1; have HS1 : Hid (_) := hS; have HO1 : Hid (_) := hO; have HB1 : Hid (Below w.heap.size w w1) := (B1 _).out.trans (hb1.mono (by simp)); clear hS hO hb1; obtain ⟨kta, ktr, ktcap, kna, kns, kncap⟩ := K; dsimp only)
  have BA : ∀ o, Hid (Below w1.heap.size w1 (w1.alloc o)) := fun o => (Below.refl _ _).alloc (Nat.le_refl _) _
  have d4 := fun o => c4 (w1.alloc o) _ _ (HO1.out.at_.below (BA o).out) (HC.out _ (HB1.out.trans ((BA o).out.mono HB1.out.size))) HS1.out
  dsimp only at d4
  clear c4 c1
  go_wp2_with (go_at_call 52; refine (d4 _).mono ?_; rintro x w5 ⟨rfl, hb5⟩)
  go_ret
  exact ⟨rfl, HB1.out.trans (((BA _).out.trans (hb5.mono (by simp))).mono HB1.out.size)⟩

set_option maxRecDepth 100000 in
theorem trustCopies_lifted (os : Os) (started : os.Started) (H : Type) (enc : TypeId × Value → H) :
    ReturnsInHanded {} Try.checked os 17 .any (Rows.trustCopiesSpec.pre6 enc Try.prog Try.f17 Rows.trustCopiesRow.domain false) (Rows.trustCopiesSpec.post enc Try.prog Try.f17 false true false false) := by
  refine returnsInHanded_of_change_sized (C := Try.checked) own started (by kernel_rfl) Try.func17
    (ChangeSpec.witness6 (enc := enc) (C := Try.checked) false ⟨#[], #[.agg #[.slice none 0 0, .slice none 0 0]], []⟩ 8 (by kernel_rfl) (by kernel_rfl) (by kernel_rfl) (by kernel_rfl)) ?_
  intro W base args ds gs before hval0 hW hcnd hsz0 _
  have hsz : (DataW.weightsEach Try.prog (Try.f17.params.toList ++ []) (ds ++ gs)).all (· ≤ reachBytes) = true := hsz0
  have hval : ∀ (j : Nat) t v, Try.f17.params[j]? = some t → args[j]? = some v → Value.okWide Try.prog W .any base t v := hval0
  have hW' := hW
  obtain ⟨p, q, hA0, hV, rfl, hfz, hnd⟩ := hW
  have hA : DataW.TrodAll enc Try.prog W 0 (fun _ => true) true Try.f17.params.toList args.toList ds p := hA0
  rw [Try.params17] at hA hval hsz
  obtain ⟨v0, vs0, d0, ds0, p0, q0, hargs, rfl, rfl, h0, r0⟩ := trodAll_cons hA
  obtain ⟨rfl, rfl, rfl⟩ := trodAll_nil r0
  obtain rfl : args = #[v0] := by cases args; simp_all
  obtain ⟨rfl, rfl⟩ := trodVars_none hV
  have k0 := h0
  have lt0 : ∀ x ∈ p0, x.block < W.heap.size := by obtain ⟨m, hm⟩ := k0; exact DataW.trod_lt m _ _ _ hm
  obtain ⟨C0, rfl, hC0, hfit0⟩ := open_challenger (hval 0 61 v0 rfl rfl) h0
  have hF0 := hfit0 fun n hn => by simpa using List.all_eq_true.1 hsz n (DataW.weights_mem_each (j := 0) rfl rfl n hn)
  clear hA0 hval0
  refine (trustCopies_walk C0 W hC0 hF0).mono fun e W' ⟨he, bel⟩ => ?_
  subst he
  exact ⟨_, rfl, _, _, _, [], _, [], hW', trodAll_mk1 (shut_bool Try.underlying4 _), (trodAll_cons_mk (Below.trod laidOut (by kernel_rfl) (of_decide_eq_true (by kernel_rfl)) k0 bel lt0) trodAll_mk0), rfl, bel.frame _, fun h => by cases h⟩

theorem trustCopies_holds : Rows.TrustCopiesSaid :=
  OpenClaim.holds_of_wide 17 Try.f17 rfl rfl rfl rfl rfl rfl rfl ⟨rfl, rfl, rfl, rfl, rfl⟩ rfl rfl rfl rfl rfl (by kernel_rfl) Try.func17 (by kernel_rfl)
    (of_decide_eq_true (by kernel_rfl)) (by unfold Func.isWrapper; first | (rw [if_pos (by decide +kernel)]; kernel_rfl) | (rw [if_neg (by decide +kernel)]; exact ⟨rfl, rfl⟩))
    (fun os started H enc _ => trustCopies_lifted os started H enc)
#print axioms trustCopies_holds

end Go.Proofs.Ytdbbiibnhgcndaa
