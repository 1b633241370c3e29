/-
  What the calls Place (epc) and PlaceOf (riddleref) answer for every machine: both answer the first frame that is the enclave's and stands at the place, or -1, and turn nothing that was in memory. No condition beside the machine's cells.
-/
import Derived.Test.YtdbbiibnhgcndaaDoorIdx
import Derived.Deep.QuietTactic
import Derived.BigQuiet
namespace Go.Proofs.YtdbbiibnhgcndaaDoor
open Go.RowKit

/-- is it the enclave's page at the place? -/
def plB (e at_ : Int) (f : Fr) : Bool := decide (0 < e) && (f.o == e) && (f.at_ == at_)
def placeOf (frs : List Fr) (e at_ : Int) : Int := idxOf (plB e at_) frs

theorem place1_any (o fat r e at_ : Int) (fa : Option Addr) (n fcap : Nat) (b1 b2 : Nat) (w : World) (h1 : w.cell? ⟨b1, 0, none⟩ = some (.int .i64 e)) (h2 : w.cell? ⟨b2, 0, none⟩ = some (.int .i64 at_)) :
    Calls Tryd.prog 77 #[.agg #[.int .i64 o, .int .i64 fat, .int .i64 r, .slice fa n fcap], .pointer (some ⟨b1, 0, none⟩), .pointer (some ⟨b2, 0, none⟩)] w fun x w' =>
      x = .returned (.bool (decide (0 < e) && (o == e) && (fat == at_))) ∧ Below w.heap.size w w' := by
  have l1 : b1 < w.heap.size := lt_of_cell h1
  have l2 : b2 < w.heap.size := lt_of_cell h2
  by_cases c1 : 0 < e
  · by_cases c2 : o = e
    · subst c2
      by_cases c3 : fat = at_
      · subst c3
        go_enter Tryd.func77, Tryd.ntmps77
        go_wp2
        go_ret
        exact ⟨ret_bool (by simp [c1]), (Below.refl _ _).alloc (Nat.le_refl _) _⟩
      · have c3' : (fat == at_) = false := by simpa using c3
        go_enter Tryd.func77, Tryd.ntmps77
        go_wp2
        go_ret
        exact ⟨ret_bool (by simp [c3]), (Below.refl _ _).alloc (Nat.le_refl _) _⟩
    · have c2' : (o == e) = false := by simpa using c2
      go_enter Tryd.func77, Tryd.ntmps77
      go_wp2
      go_ret
      exact ⟨ret_bool (by simp [c2]), (Below.refl _ _).alloc (Nat.le_refl _) _⟩
  · go_enter Tryd.func77, Tryd.ntmps77
    go_wp2
    go_ret
    exact ⟨ret_bool (by rw [decide_eq_false (by omega)]; rfl), (Below.refl _ _).alloc (Nat.le_refl _) _⟩

set_option maxHeartbeats 800000 in
theorem place_any (M : Mv) (e at_ : Int) (w : World) (hM : MachAt w M) :
    Calls Tryd.prog 53 #[M.val, .int .i64 e, .int .i64 at_] w fun x w' => x = .returned (.int .i64 (placeOf M.frs e at_)) ∧ Below w.heap.size w w' := by
  have hI := fun (w' : World) (b1 b2 : Nat) (hb : Below w.heap.size w w') (h1 : w'.cell? ⟨b1, 0, none⟩ = some (.int .i64 e)) (h2 : w'.cell? ⟨b2, 0, none⟩ = some (.int .i64 at_)) =>
    place_index M.fa M.frs M.fcap (.pointer (some ⟨b1, 0, none⟩)) (.pointer (some ⟨b2, 0, none⟩)) (plB e at_) w' hM.frl (hM.below hb).fr
      (fun j hj w'' hb' => place1_any _ _ _ e at_ _ _ _ b1 b2 w'' ((hb'.cell (p := ⟨b1, 0, none⟩) (lt_of_cell h1)).trans h1) ((hb'.cell (p := ⟨b2, 0, none⟩) (lt_of_cell h2)).trans h2))
  unfold placeOf Mv.val
  generalize idxOf (plB e at_) M.frs = z at hI
  obtain ⟨fa, frs, fcap, ea, ens, ecap, qa, qus, qcap⟩ := M
  dsimp only at hI ⊢
  clear hM
  generalize frs.length = nf at hI ⊢
  generalize ens.length = ne at hI ⊢
  generalize qus.length = nq at hI ⊢
  go_enter Tryd.func53, Tryd.ntmps53
  have B3 : ∀ o1 o2 o3, Hid (Below w.heap.size w (((w.alloc o1).alloc o2).alloc o3)) := fun o1 o2 o3 => (((Below.refl _ _).alloc (Nat.le_refl _) _).alloc (by simp) _).alloc (by simp; omega) _
  go_wp2_with (go_at_call 78; refine (hI _ _ _ (B3 _ _ _).out (by rw [World.cell?_alloc_past _ _ _ (by simp), World.cell?_alloc_at _ _ _ _ (by simp)]; rfl) (by rw [World.cell?_alloc_at _ _ _ _ (by simp)]; rfl)).mono ?_; rintro x w' ⟨rfl, hb⟩)
  go_ret
  exact ⟨rfl, (B3 _ _ _).out.trans (hb.mono (by simp; omega))⟩

set_option maxHeartbeats 800000 in
theorem placeOf_any (M : Mv) (e at_ : Int) (w : World) (hM : MachAt w M) :
    Calls Tryd.prog 56 #[M.val, .int .i64 e, .int .i64 at_] w fun x w' => x = .returned (.int .i64 (placeOf M.frs e at_)) ∧ Below w.heap.size w w' := by
  have hl := hM.frl
  unfold maxLen at hl
  unfold placeOf Mv.val
  rcases hM.fr with h0 | ⟨b, off, h1, hc⟩
  · obtain ⟨fa, frs, fcap, ea, ens, ecap, qa, qus, qcap⟩ := M
    dsimp only at h0 ⊢
    subst h0
    clear hM
    generalize ens.length = ne
    generalize qus.length = nq
    go_enter Tryd.func56, Tryd.ntmps56
    go_wp2
    refine wp_loop_rounds 1 ?_
    rw [rounds_succ]
    go_wp2
    go_ret
    exact ⟨rfl, (Below.refl _ _).alloc (Nat.le_refl _) _⟩
  · obtain ⟨fa, frs, fcap, ea, ens, ecap, qa, qus, qcap⟩ := M
    dsimp only at h1 hc hl ⊢
    subst h1
    clear hM
    generalize ens.length = ne
    generalize qus.length = nq
    go_enter Tryd.func56, Tryd.ntmps56
    go_wp2
    go_loop [7] (fun i => ∃ k : Nat, k ≤ frs.length ∧ i = .int .i64 k ∧ Hid (∀ j, j < k → plB e at_ (frs.getD j default) = false)) (fun i => frs.length - (intOf i).toNat)
    case atStart => exact ⟨0, Nat.zero_le _, rfl, fun j hj => absurd hj (by omega)⟩
    case round =>
      obtain ⟨k, hk, rfl, hid⟩ := hrel
      by_cases hlt : k < frs.length
      · have k0 := hc k hlt 0 (by omega)
        have k1 := hc k hlt 1 (by omega)
        obtain ⟨P, hP⟩ : ∃ P, frs.getD k default = P := ⟨_, rfl⟩
        rw [hP] at k0 k1
        have HP : Hid (frs.getD k default = P) := hP
        clear hP hc
        obtain ⟨o, fat, r, fa, ws, fcap'⟩ := P
        have l0 : w.cell? ⟨b, off + k * 4, none⟩ = some (.int .i64 o) := k0
        have l1 : w.cell? ⟨b, off + k * 4 + 1, none⟩ = some (.int .i64 fat) := k1
        have bl : b < w.heap.size := lt_of_cell l0
        clear k0 k1
        by_cases c1 : 0 < e
        · by_cases c2 : o = e
          · subst c2
            by_cases c3 : fat = at_
            · subst c3
              go_wp2
              go_ret
              exact ⟨ret_int (idxOf_at hlt hid.out (by rw [HP.out]; simp [plB, c1])).symm, (Below.refl _ _).alloc (Nat.le_refl _) _⟩
            · have c3' : (fat == at_) = false := by simpa using c3
              go_wp2
              go_round
              case rel => exact ⟨k + 1, by omega, by go_num, snoc_false hid (by rw [HP.out]; simp [plB, c3])⟩
              case measure => simp [intOf]; omega
          · have c2' : (o == e) = false := by simpa using c2
            go_wp2
            go_round
            case rel => exact ⟨k + 1, by omega, by go_num, snoc_false hid (by rw [HP.out]; simp [plB, c2])⟩
            case measure => simp [intOf]; omega
        · go_wp2
          go_round
          case rel => exact ⟨k + 1, by omega, by go_num, snoc_false hid (by rw [HP.out]; simp [plB, c1])⟩
          case measure => simp [intOf]; omega
      · have hkl : k = frs.length := by omega
        subst hkl
        clear hc
        go_wp2
        go_ret
        exact ⟨ret_int (idxOf_none hid.out).symm, (Below.refl _ _).alloc (Nat.le_refl _) _⟩

end Go.Proofs.YtdbbiibnhgcndaaDoor
