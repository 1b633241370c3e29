/-
  EpcNew answers true: epc.New answers what P2.1 says. No condition.
-/
import Derived.Test.YtdbbiibnhgcndaaNew
import Derived.Lib.SmallJoins
namespace Go.Proofs.Ytdbbiibnhgcndaa
open Go.ChangeShapes Go.WideShapes Go.ChangeAt Go.RowKit Go.Joins
open Go.ChangeMaps (open_string shut_string)
set_option linter.unusedVariables false


set_option maxRecDepth 100000 in
set_option maxHeartbeats 1000000 in
theorem epcNew_walk (w : World) : Calls Try.prog 8 #[] w fun x w' => x = .returned (.bool true) ∧ Below w.heap.size w w' := by
  have h1 := new_any
  have h2 := machineOf_any
  have h3 := fun (w' : World) (N1 N2 : Mv) (a1 : MachAt w' N1) (a2 : MachAt w' N2) (hs : N1.Same N2) => sameMachine_any N1 N2 w' a1 a2 hs
  unfold Mv.val at *
  go_enter Try.func8, Try.ntmps8
  go_wp2_with (first
    | (go_at_call 32; refine (h1 _).mono ?_; rintro x w1 ⟨N1, rfl, hS, hO, hb⟩; obtain ⟨fa, frs, fcap, ea, ens, ecap, qa, qus, qcap⟩ := N1; have HS1 : Hid (_) := hS; have HO1 : Hid (_) := hO.at_; have HB1 : Hid (_) := hb; clear hS hO hb; dsimp only)
    | (go_at_call 33; refine (h2 _).mono ?_; rintro x w2 ⟨N2, rfl, hS, hO, hb⟩; obtain ⟨gfa, gfrs, gfcap, gea, gens, gecap, gqa, gqus, gqcap⟩ := N2; obtain ⟨a0, a1, a2, al⟩ := box3' hb; have HS2 : Hid (_) := hS; have HO2 : Hid (_) := hO.at_; have HB2 : Hid (_) := hb; clear hS hO hb; dsimp only)
    | fail)
  have HB3 : Hid (Below w1.heap.size w1 w2) := ((Below.refl _ _).alloc (Nat.le_refl _) _).trans (HB2.out.mono (by simp))
  have HB : Hid (Below w.heap.size w w2) := HB1.out.trans (HB3.out.mono HB1.out.size)
  have d := fun o => h3 (w2.alloc o) _ _ ((HO1.out.below HB3.out).below ((Below.refl _ _).alloc (Nat.le_refl _) o)) (HO2.out.below ((Below.refl _ _).alloc (Nat.le_refl _) o)) (HS1.out.trans HS2.out.symm)
  dsimp only at d
  clear h1 h2 h3
  go_wp2_with (go_at_call 34; refine (d _).mono ?_; rintro x w3 ⟨rfl, hb⟩)
  go_ret
  exact ⟨rfl, (HB.out.alloc HB.out.size _).trans (hb.mono (by have := HB.out.size; simp; omega))⟩

set_option maxRecDepth 100000 in
theorem epcNew_lifted (os : Os) (started : os.Started) (H : Type) (enc : TypeId × Value → H) :
    ReturnsInHanded {} Try.checked os 8 .any (Rows.epcNewSpec.pre6 enc Try.prog Try.f8 Rows.epcNewRow.domain false) (Rows.epcNewSpec.post enc Try.prog Try.f8 false true false false) := by
  refine returnsInHanded_of_change (C := Try.checked) own started (by kernel_rfl) Try.func8
    (ChangeSpec.witness6 (enc := enc) (C := Try.checked) false ⟨#[], #[], []⟩ 8 (by kernel_rfl) (by kernel_rfl) (by kernel_rfl) (by kernel_rfl)) ?_
  intro W base args ds gs before hval0 hW hcnd _
  have hval : ∀ (j : Nat) t v, Try.f8.params[j]? = some t → args[j]? = some v → Value.okWide Try.prog W .any base t v := hval0
  have hW' := hW
  obtain ⟨p, q, hA0, hV, rfl, hfz, hnd⟩ := hW
  have hA : DataW.TrodAll enc Try.prog W 0 (fun _ => true) true Try.f8.params.toList args.toList ds p := hA0
  rw [Try.params8] at hA
  obtain ⟨hargs, rfl, rfl⟩ := trodAll_nil hA
  obtain rfl : args = #[] := by cases args; simp_all
  obtain ⟨rfl, rfl⟩ := trodVars_none hV
  clear hA0 hval0
  refine (epcNew_walk W).mono fun e W' ⟨he, bel⟩ => ?_
  subst he
  exact ⟨_, rfl, _, _, _, [], _, [], hW', trodAll_mk1 (shut_bool Try.underlying4 _), trodAll_mk0, rfl, bel.frame _, fun h => by cases h⟩

theorem epcNew_holds : Rows.EpcNewSaid :=
  OpenClaim.holds_of_wide 8 Try.f8 rfl rfl rfl rfl rfl rfl rfl ⟨rfl, rfl, rfl, rfl, rfl⟩ rfl rfl rfl rfl rfl (by kernel_rfl) Try.func8 (by kernel_rfl)
    (of_decide_eq_true (by kernel_rfl)) (by unfold Func.isWrapper; first | (rw [if_pos (by decide +kernel)]; kernel_rfl) | (rw [if_neg (by decide +kernel)]; exact ⟨rfl, rfl⟩))
    (fun os started H enc _ => epcNew_lifted os started H enc)
#print axioms epcNew_holds

end Go.Proofs.Ytdbbiibnhgcndaa
