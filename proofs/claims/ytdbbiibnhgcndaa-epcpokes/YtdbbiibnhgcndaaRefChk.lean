/-
  What the call MachineFault (riddleref) answers for every machine: what it is refused for, as Check (epc); it turns nothing that was in memory. The condition: the machine's cells are there.
-/
import Derived.Test.YtdbbiibnhgcndaaChk
namespace Go.Proofs.Ytdbbiibnhgcndaa
open Go.RowKit

theorem regsMay_any (g0 g1 g2 g3 : Int) (w : World) : Calls Try.prog 78 #[.agg #[.int .i64 g0, .int .i64 g1, .int .i64 g2, .int .i64 g3]] w fun e w' =>
    e = .returned (.bool (inB g0 0 65535 && inB g1 0 65535 && inB g2 0 65535 && inB g3 0 65535)) ∧ Below w.heap.size w w' := by
  have hc : ∀ j, j < 4 → (w.alloc (.cells #[.int .i64 g0, .int .i64 g1, .int .i64 g2, .int .i64 g3] 85)).cell? ⟨w.heap.size, j, none⟩ = some (.int .i64 ([g0, g1, g2, g3].getD j 0)) := by
    intro j hj
    rw [World.cell?_alloc_at _ _ _ _ rfl]
    match j, hj with
    | 0, _ => rfl
    | 1, _ => rfl
    | 2, _ => rfl
    | 3, _ => rfl
  have B1 : ∀ o, Hid (Below w.heap.size w (w.alloc o)) := fun o => (Below.refl _ _).alloc (Nat.le_refl _) _
  rw [← words_all]
  obtain ⟨xs, hxs⟩ : ∃ xs, xs = [g0, g1, g2, g3] := ⟨_, rfl⟩
  have hxl : xs.length = 4 := by rw [hxs]; rfl
  rw [← hxs] at hc ⊢
  have HL : Hid (xs.length = 4) := hxl
  clear hxs hxl
  go_enter Try.func78, Try.ntmps78
  go_wp2
  go_loop [3] (fun i => ∃ k : Nat, k ≤ 4 ∧ i = .int .i64 k ∧ Hid (∀ j, j < k → inB (xs.getD j 0) 0 65535 = true)) (fun i => 4 - (intOf i).toNat)
  case atStart => exact ⟨0, Nat.zero_le _, rfl, fun j hj => absurd hj (by omega)⟩
  case round =>
    obtain ⟨k, hk, rfl, hid⟩ := hrel
    by_cases hlt : k < 4
    · have hck := hc k hlt
      obtain ⟨z, hz⟩ : ∃ z, xs.getD k 0 = z := ⟨_, rfl⟩
      rw [hz] at hck
      clear hc
      cases hg : inB z 0 65535 with
      | true =>
        have HG : Hid (inB (xs.getD k 0) 0 65535 = true) := by rw [hz]; exact hg
        clear hz
        go_wp2_with (go_at_call 61; refine (in_any _ _ _ _).mono ?_; rintro e w' ⟨rfl, rfl⟩)
        go_round
        case rel => exact ⟨k + 1, by omega, by go_num, hid_snoc hid HG.out⟩
        case measure => simp [intOf]; omega
      | false =>
        have HG : Hid (inB (xs.getD k 0) 0 65535 = false) := by rw [hz]; exact hg
        clear hz
        go_wp2_with (go_at_call 61; refine (in_any _ _ _ _).mono ?_; rintro e w' ⟨rfl, rfl⟩)
        go_ret
        exact ⟨ret_bool (not_all xs k (by rw [HL.out]; exact hlt) HG.out).symm, (B1 _).out⟩
    · have hkl : k = 4 := by omega
      subst hkl
      clear hc
      go_wp2
      go_ret
      exact ⟨ret_bool (all_upto xs (fun j hj => hid.out j (by rw [HL.out] at hj; exact hj))).symm, (B1 _).out⟩

/-! The mathematics of the three loops. -/
theorem all_take {α : Type} [Inhabited α] (p : α → Bool) (xs : List α) (k : Nat) (h : k < xs.length) : (xs.take (k + 1)).all p = ((xs.take k).all p && p (xs.getD k default)) := by
  rw [List.take_add_one, List.all_append]
  simp [List.getD_eq_getElem?_getD, h]
theorem any_take {α : Type} [Inhabited α] (p : α → Bool) (xs : List α) (k : Nat) (h : k < xs.length) : (xs.take (k + 1)).any p = ((xs.take k).any p || p (xs.getD k default)) := by
  rw [List.take_add_one, List.any_append]
  simp [List.getD_eq_getElem?_getD, h]
/-- may the frame number i be? -/
def frOk (ens : List En) (frs : List Fr) (i : Nat) : Bool := Fr.good ens (frs.getD i default) && !twAt frs i
theorem frOk_all (ens : List En) (frs : List Fr) : (List.range frs.length).all (frOk ens frs) = (!frs.any (fun f => !Fr.good ens f) && !twins frs) := by
  rw [Bool.eq_iff_iff]
  simp only [List.all_eq_true, Bool.and_eq_true, Bool.not_eq_true', List.any_eq_false, twins, frOk, List.mem_range]
  constructor
  · intro h
    refine ⟨fun x hx => ?_, fun j hj => by simp [(h j hj).2]⟩
    obtain ⟨i, hi, rfl⟩ := List.getElem_of_mem hx
    have := (h i hi).1
    simp [List.getD_eq_getElem?_getD, hi] at this
    simp [this]
  · rintro ⟨h1, h2⟩ i hi
    have a := h1 _ (List.getElem_mem hi)
    have b := h2 i hi
    simp at a b
    simp [List.getD_eq_getElem?_getD, hi, a, b]
theorem range_all (p : Nat → Bool) (k : Nat) : (List.range (k + 1)).all p = ((List.range k).all p && p k) := by
  rw [List.range_succ, List.all_append]; simp
theorem range_all_le (p : Nat → Bool) {k n : Nat} (h : k ≤ n) (hk : (List.range k).all p = false) : (List.range n).all p = false := by
  rw [List.all_eq_false] at hk ⊢
  obtain ⟨x, hx, h2⟩ := hk
  exact ⟨x, by simp at hx ⊢; omega, h2⟩
theorem machF_eq {M : Mv} (s1 : M.frs.length = 24) (s2 : M.ens.length = 4) (s3 : M.qus.length ≤ 40) :
    machF M = if (M.ens.all En.good && (List.range 24).all (frOk M.ens M.frs) && M.qus.all Qu.good) = true then 0 else 8 := by
  unfold machF
  rw [if_pos ⟨s1, s2, s3⟩, ← s1, frOk_all]
  have e1 : ∀ {α : Type} (p : α → Bool) (l : List α), l.all p = !l.any (fun x => !p x) := fun p l => by
    rw [Bool.eq_iff_iff]; simp
  rw [e1 En.good, e1 Qu.good]
  generalize M.ens.any (fun x => !En.good x) = a
  generalize M.frs.any (fun f => !Fr.good M.ens f) = b
  generalize M.qus.any (fun x => !Qu.good x) = c
  generalize twins M.frs = d
  cases a <;> cases b <;> cases c <;> cases d <;> rfl

end Go.Proofs.Ytdbbiibnhgcndaa
