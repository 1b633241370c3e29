/-
  For every machine, EpcCopies answers true: epc.Copy answers what P2.1 says; the argument reads afterwards as before. No condition.
-/
import Derived.Test.YtdbbiibnhgcndaaCopyM
import Derived.Lib.SmallJoins
namespace Go.Proofs.Ytdbbiibnhgcndaa
open Go.ChangeShapes Go.WideShapes Go.ChangeAt Go.RowKit Go.Joins
open Go.ChangeMaps (open_string shut_string)
set_option linter.unusedVariables false


theorem epcCopies_walk (M : Mv) (w : World) (hM : MachAt w M) (hF : M.Fits) :
    Calls Try.prog 10 #[M.val] w fun x w' => x = .returned (.bool true) ∧ Below w.heap.size w w' := by
  have h1 := fun w' (h : Below w.heap.size w w') => copyM_any M w' (hM.below h) hF
  have h2 := fun w' (N : Mv) (h : Below w.heap.size w w') (hN : MachAt w' N) (hS : N.Same M) => sameMachine_any N M w' hN (hM.below h) hS
  clear hM hF
  unfold Mv.val at *
  obtain ⟨fa, frs, fcap, ea, ens, ecap, qa, qus, qcap⟩ := M
  dsimp only at *
  have B1 : ∀ o, Hid (Below w.heap.size w (w.alloc o)) := fun o => (Below.refl _ _).alloc (Nat.le_refl _) _
  have B2 : ∀ o w1 o', Hid (Below (w.alloc o).heap.size (w.alloc o) w1 → Below w.heap.size w (w1.alloc o')) := fun o w1 o' h => ((B1 o).out.trans (h.mono (by simp))).alloc (by have := h.size; simp at this; omega) o'
  go_enter Try.func10, Try.ntmps10
  go_wp2_with (go_at_call 37; refine (h1 _ (B1 _).out).mono ?_; rintro x w1 ⟨N, rfl, hS, hO, hb1⟩; obtain ⟨nfa, nfrs, nfcap, nea, nens, necap, nqa, nqus, nqcap⟩ := N; dsimp only at *; have HO : Hid (_) := hO; have HS : Hid (_) := hS; have HB1 : Hid (_) := hb1; clear hS hO; have m0 : w1.cell? ⟨w.heap.size, 0, none⟩ = some (.slice fa frs.length fcap) := (hb1.cell (p := ⟨w.heap.size, 0, none⟩) (by simp)).trans (by rw [World.cell?_alloc_at _ _ _ _ rfl]; rfl); have m1 : w1.cell? ⟨w.heap.size, 1, none⟩ = some (.slice ea ens.length ecap) := (hb1.cell (p := ⟨w.heap.size, 1, none⟩) (by simp)).trans (by rw [World.cell?_alloc_at _ _ _ _ rfl]; rfl); have m2 : w1.cell? ⟨w.heap.size, 2, none⟩ = some (.slice qa qus.length qcap) := (hb1.cell (p := ⟨w.heap.size, 2, none⟩) (by simp)).trans (by rw [World.cell?_alloc_at _ _ _ _ rfl]; rfl); have lw : w.heap.size < w1.heap.size := lt_of_cell m0; clear hb1)
  have HN : ∀ o, Hid (MachAt (w1.alloc o) _) := fun o => HO.out.at_.below ((Below.refl _ _).alloc (Nat.le_refl _) o)
  have h3 := fun o => h2 _ _ ((B2 _ _ o).out HB1.out) (HN o).out HS.out
  dsimp only at h3
  clear h2
  go_wp2_with (go_at_call 34; refine (h3 _).mono ?_; rintro x w2 ⟨rfl, hb2⟩)
  go_ret
  exact ⟨rfl, ((B2 _ _ _).out HB1.out).trans (hb2.mono ((B2 _ _ _).out HB1.out).size)⟩

set_option maxRecDepth 100000 in
theorem epcCopies_lifted (os : Os) (started : os.Started) (H : Type) (enc : TypeId × Value → H) :
    ReturnsInHanded {} Try.checked os 10 .any (Rows.epcCopiesSpec.pre6 enc Try.prog Try.f10 Rows.epcCopiesRow.domain false) (Rows.epcCopiesSpec.post enc Try.prog Try.f10 false true false false) := by
  refine returnsInHanded_of_change_sized (C := Try.checked) own started (by kernel_rfl) Try.func10
    (ChangeSpec.witness6 (enc := enc) (C := Try.checked) false ⟨#[], #[.agg #[.slice none 0 0, .slice none 0 0, .slice none 0 0]], []⟩ 8 (by kernel_rfl) (by kernel_rfl) (by kernel_rfl) (by kernel_rfl)) ?_
  intro W base args ds gs before hval0 hW hcnd hsz0 _
  have hsz : (DataW.weightsEach Try.prog (Try.f10.params.toList ++ []) (ds ++ gs)).all (· ≤ reachBytes) = true := hsz0
  have hval : ∀ (j : Nat) t v, Try.f10.params[j]? = some t → args[j]? = some v → Value.okWide Try.prog W .any base t v := hval0
  have hW' := hW
  obtain ⟨p, q, hA0, hV, rfl, hfz, hnd⟩ := hW
  have hA : DataW.TrodAll enc Try.prog W 0 (fun _ => true) true Try.f10.params.toList args.toList ds p := hA0
  rw [Try.params10] at hA hval hsz
  obtain ⟨v0, vs0, d0, ds0, p0, q0, hargs, rfl, rfl, h0, r0⟩ := trodAll_cons hA
  obtain ⟨rfl, rfl, rfl⟩ := trodAll_nil r0
  obtain rfl : args = #[v0] := by cases args; simp_all
  obtain ⟨rfl, rfl⟩ := trodVars_none hV
  have k0 := h0
  have lt0 : ∀ x ∈ p0, x.block < W.heap.size := by obtain ⟨m, hm⟩ := k0; exact DataW.trod_lt m _ _ _ hm
  obtain ⟨M0, rfl, hM0, hfit0⟩ := open_machine (hval 0 43 v0 rfl rfl) h0
  have hF0 := hfit0 fun n hn => by simpa using List.all_eq_true.1 hsz n (DataW.weights_mem_each (j := 0) rfl rfl n hn)
  clear hA0 hval0
  refine (epcCopies_walk M0 W hM0 hF0).mono fun e W' ⟨he, bel⟩ => ?_
  subst he
  exact ⟨_, rfl, _, _, _, [], _, [], hW', trodAll_mk1 (shut_bool Try.underlying4 _), (trodAll_cons_mk (Below.trod laidOut (by kernel_rfl) (of_decide_eq_true (by kernel_rfl)) k0 bel lt0) trodAll_mk0), rfl, bel.frame _, fun h => by cases h⟩

theorem epcCopies_holds : Rows.EpcCopiesSaid :=
  OpenClaim.holds_of_wide 10 Try.f10 rfl rfl rfl rfl rfl rfl rfl ⟨rfl, rfl, rfl, rfl, rfl⟩ rfl rfl rfl rfl rfl (by kernel_rfl) Try.func10 (by kernel_rfl)
    (of_decide_eq_true (by kernel_rfl)) (by unfold Func.isWrapper; first | (rw [if_pos (by decide +kernel)]; kernel_rfl) | (rw [if_neg (by decide +kernel)]; exact ⟨rfl, rfl⟩))
    (fun os started H enc _ => epcCopies_lifted os started H enc)
#print axioms epcCopies_holds

end Go.Proofs.Ytdbbiibnhgcndaa
