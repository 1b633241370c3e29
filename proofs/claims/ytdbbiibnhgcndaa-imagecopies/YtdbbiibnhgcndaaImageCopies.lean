/-
  For every list of pages, ImageCopies answers true: image.Copy answers what P1.2 says; the argument reads afterwards as before. No condition.
-/
import Derived.Test.YtdbbiibnhgcndaaCopy
import Derived.Test.YtdbbiibnhgcndaaSame
import Derived.Test.YtdbbiibnhgcndaaOpenPage
import Derived.Lib.SmallJoins
namespace Go.Proofs.Ytdbbiibnhgcndaa
open Go.ChangeShapes Go.WideShapes Go.ChangeAt Go.RowKit Go.Joins
open Go.ChangeMaps (open_string shut_string)
set_option linter.unusedVariables false

theorem imageCopies_walk (a : Option Addr) (ps : List Pg) (cap : Nat) (w : World) (hl : ps.length * 40 ≤ 140737488351232) (hw : ∀ j, j < ps.length → (ps.getD j default).ws.length * 8 ≤ 140737488351232) (hx : PagesAt w a ps) :
    Calls Try.prog 6 #[.slice a ps.length cap] w fun e w' => e = .returned (.bool true) ∧ Below w.heap.size w w' := by
  have h1 := copy_any a ps cap w hl hw hx
  have h2 := fun (qs : List Pg) w' (hq : qs.length = ps.length) (hs : ∀ j, j < ps.length → (qs.getD j default).Same (ps.getD j default)) (hP : PagesAt w' (some ⟨w.heap.size, 0, none⟩) qs) (h : Below w.heap.size w w') =>
    samePages_any (some ⟨w.heap.size, 0, none⟩) a qs ps ps.length cap w' (by rw [hq]; unfold maxLen; omega) hq.symm (fun j hj => by obtain ⟨q1, q2, q3⟩ := hs j (by omega); exact ⟨q1.symm, q2.symm, q3.symm⟩) hP (hx.below h)
  clear hl hx hw
  go_enter Try.func6, Try.ntmps6
  go_wp2_with (go_at_call 27; go_must (refine h1.mono ?_); rintro e w1 ⟨qs, rfl, hq, hs, hP, hb⟩; have h3 := h2 qs w1 hq hs hP hb; rw [hq] at h3; clear h2 hq hs hP)
  go_wp2_with (go_at_call 28; go_must (refine h3.mono ?_); rintro e w2 ⟨rfl, n, rfl⟩)
  go_ret
  exact ⟨rfl, below_drewN hb n⟩

set_option maxRecDepth 100000 in
theorem imageCopies_lifted (os : Os) (started : os.Started) (H : Type) (enc : TypeId × Value → H) :
    ReturnsInHanded {} Try.checked os 6 .any (Rows.imageCopiesSpec.pre6 enc Try.prog Try.f6 Rows.imageCopiesRow.domain false) (Rows.imageCopiesSpec.post enc Try.prog Try.f6 false true false false) := by
  refine returnsInHanded_of_change_sized (C := Try.checked) own started (by kernel_rfl) Try.func6
    (ChangeSpec.witness6 (enc := enc) (C := Try.checked) false ⟨#[], #[.slice none 0 0], []⟩ 8 (by kernel_rfl) (by kernel_rfl) (by kernel_rfl) (by kernel_rfl)) ?_
  intro W base args ds gs before hval0 hW hcnd hsz0 _
  have hsz : (DataW.weightsEach Try.prog (Try.f6.params.toList ++ []) (ds ++ gs)).all (· ≤ reachBytes) = true := hsz0
  have hval : ∀ (j : Nat) t v, Try.f6.params[j]? = some t → args[j]? = some v → Value.okWide Try.prog W .any base t v := hval0
  have hW' := hW
  obtain ⟨p, q, hA0, hV, rfl, hfz, hnd⟩ := hW
  have hA : DataW.TrodAll enc Try.prog W 0 (fun _ => true) true Try.f6.params.toList args.toList ds p := hA0
  rw [Try.params6] at hA hval hsz
  obtain ⟨v0, vs0, d0, ds0, p0, q0, hargs, rfl, rfl, h0, r0⟩ := trodAll_cons hA
  obtain ⟨rfl, rfl, rfl⟩ := trodAll_nil r0
  obtain rfl : args = #[v0] := by cases args; simp_all
  obtain ⟨rfl, rfl⟩ := trodVars_none hV
  have k0 := h0
  have lt0 : ∀ x ∈ p0, x.block < W.heap.size := by obtain ⟨m, hm⟩ := k0; exact DataW.trod_lt m _ _ _ hm
  obtain ⟨a0, len0, cap0, rfl⟩ := okWide_slice Try.underlying29 (hval 0 29 v0 rfl rfl)
  obtain ⟨ps, hlen, hmax, hx, hbnd⟩ := open_pages h0
  obtain ⟨hb1, hb2⟩ := hbnd fun n hn => by simpa using List.all_eq_true.1 hsz n (DataW.weights_mem_each (j := 0) rfl rfl n hn)
  subst hlen
  clear hA0 hval0
  refine (imageCopies_walk a0 ps cap0 W hb1 hb2 hx).mono fun e W' ⟨he, bel⟩ => ?_
  subst he
  exact ⟨_, rfl, _, _, _, [], _, [], hW', trodAll_mk1 (shut_bool Try.underlying4 _), (trodAll_cons_mk (Below.trod laidOut (by kernel_rfl) (of_decide_eq_true (by kernel_rfl)) k0 bel lt0) trodAll_mk0), rfl, bel.frame _, fun h => by cases h⟩

theorem imageCopies_holds : Rows.ImageCopiesSaid :=
  OpenClaim.holds_of_wide 6 Try.f6 rfl rfl rfl rfl rfl rfl rfl ⟨rfl, rfl, rfl, rfl, rfl⟩ rfl rfl rfl rfl rfl (by kernel_rfl) Try.func6 (by kernel_rfl)
    (of_decide_eq_true (by kernel_rfl)) (by unfold Func.isWrapper; first | (rw [if_pos (by decide +kernel)]; kernel_rfl) | (rw [if_neg (by decide +kernel)]; exact ⟨rfl, rfl⟩))
    (fun os started H enc _ => imageCopies_lifted os started H enc)
#print axioms imageCopies_holds

end Go.Proofs.Ytdbbiibnhgcndaa
