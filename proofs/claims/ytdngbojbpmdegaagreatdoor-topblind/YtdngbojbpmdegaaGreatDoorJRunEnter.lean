/-
  What the call check of package run answers, for every argument (own work): the error of the machine, of the enclave, of its state, of the fuel, in this order. No condition. What the calls Enter and Resume of package run answer, for every argument (own work): the error and nothing else, or a machine in which the enclave was run, in memory of its own. The condition: the lists are within the reach of the form.
-/
import Derived.Test.YtdngbojbpmdegaaGreatDoorJGoodM
import Derived.Test.YtdngbojbpmdegaaGreatDoorRunRan
import Derived.Test.YtdngbojbpmdegaaGreatDoorJStart
namespace Go.Proofs.YtdngbojbpmdegaaGreatDoor
open Go.RowKit

/-- what Enter and Resume refuse, ahead of the word -/
def fuelF (M : Mv) (e st fuel : Int) : Int := if askF M e st = 0 then (if inB fuel 0 5000 = true then 0 else 2) else askF M e st
theorem fuelF_zero {M : Mv} {e st fuel : Int} (h : fuelF M e st fuel = 0) : askF M e st = 0 ∧ 0 ≤ fuel ∧ fuel ≤ 5000 := by
  unfold fuelF at h
  by_cases h1 : askF M e st = 0
  · rw [if_pos h1] at h
    by_cases h2 : inB fuel 0 5000 = true
    · exact ⟨h1, inB_iff.1 h2⟩
    · rw [if_neg h2] at h; simp at h
  · rw [if_neg h1] at h; exact absurd h h1
theorem fuelF_same {M N : Mv} (h : M.Same N) (e st fuel : Int) : fuelF M e st fuel = fuelF N e st fuel := by unfold fuelF; rw [askF_same h]

set_option maxHeartbeats 1600000 in
theorem check_run (M : Mv) (e st fuel : Int) (w : World) (hM : MachAt w M) (hst0 : 0 ≤ st) :
    Calls Tryz.prog 64 #[M.val, .int .i64 e, .int .i64 st, .int .i64 fuel] w fun x w' => x = .returned (.int .i64 (fuelF M e st fuel)) ∧ Below w.heap.size w w' := by
  have h1 := fun w' (h : Below w.heap.size w w') => checkM_any M w' (hM.below h)
  have B1 : ∀ o, Hid (Below w.heap.size w (w.alloc o)) := fun o => (Below.refl _ _).alloc (Nat.le_refl _) _
  have HX : ∀ o w1, Hid (Below (w.alloc o).heap.size (w.alloc o) w1 → Below w.heap.size w w1) := fun o w1 h => (B1 o).out.trans (h.mono (by simp))
  obtain ⟨z, hF⟩ : ∃ z, z = fuelF M e st fuel := ⟨_, rfl⟩
  rw [← hF]
  unfold fuelF at hF
  obtain ⟨A, hA⟩ : ∃ A, A = askF M e st := ⟨_, rfl⟩
  rw [← hA] at hF
  unfold askF at hA
  unfold Mv.val at *
  by_cases hz : machF M = 0
  · rw [if_pos hz] at hA
    by_cases c1 : e < 1
    · rw [inB_low (show ¬ 1 ≤ e by omega), if_neg (by simp)] at hA
      rw [hA, if_neg (by omega)] at hF
      rw [hz] at h1
      subst hF
      clear hM hz
      go_enter Tryz.func64, Tryz.ntmps64
      go_wp2_with (go_at_call 28; refine (h1 _ (B1 _).out).mono ?_; rintro x w1 ⟨rfl, hb1⟩)
      go_ret
      exact ⟨rfl, (HX _ _).out hb1⟩
    by_cases c2 : 4 < e
    · rw [inB_high (show ¬ e ≤ 4 by omega), if_neg (by simp)] at hA
      rw [hA, if_neg (by omega)] at hF
      rw [hz] at h1
      subst hF
      clear hM hz
      go_enter Tryz.func64, Tryz.ntmps64
      go_wp2_with (go_at_call 28; refine (h1 _ (B1 _).out).mono ?_; rintro x w1 ⟨rfl, hb1⟩)
      go_ret
      exact ⟨rfl, (HX _ _).out hb1⟩
    rw [inB_true (show 1 ≤ e by omega) (show e ≤ 4 by omega), if_pos rfl] at hA
    obtain ⟨m, rfl⟩ : ∃ m : Nat, e = (m : Int) + 1 := ⟨(e - 1).toNat, by omega⟩
    rw [show ((m : Int) + 1 - 1).toNat = m by omega] at hA
    have hm4 : m < 4 := by omega
    obtain ⟨eb, eo, hea, hst⟩ := st_at hM hz hm4
    have hs := (machF_sizes hz).2.1
    rw [hz] at h1
    rw [hea, hs] at h1 ⊢
    generalize (M.ens.getD m default).st = s at hst hA
    have hwm : IntKind.i64.wrap ((m : Int) + 1 - 1) = (m : Int) := by rw [IntKind.wrap_i64]; omega
    clear hM hz hea hs
    by_cases c3 : s = 0
    · subst c3
      rw [if_pos rfl] at hA
      rw [hA, if_neg (by omega)] at hF
      subst hF
      go_enter Tryz.func64, Tryz.ntmps64
      go_wp2_with (go_at_call 28; refine (h1 _ (B1 _).out).mono ?_; rintro x w1 ⟨rfl, hb1⟩; have HB : Hid (Below w.heap.size w w1) := (HX _ _).out hb1; have c0 := hst _ HB.out; obtain ⟨hc, hf⟩ := bcell hb1)
      go_ret
      exact ⟨rfl, HB.out⟩
    · have c3' : (s == 0) = false := by simpa using c3
      by_cases c4 : s = st
      · rw [if_neg c3, if_neg (fun q => q.2 c4)] at hA
        rw [hA, if_pos rfl] at hF
        subst c4
        by_cases c5 : fuel < 0
        · rw [inB_low (show ¬ 0 ≤ fuel by omega), if_neg (by simp)] at hF
          subst hF
          go_enter Tryz.func64, Tryz.ntmps64
          go_wp2_with (go_at_call 28; refine (h1 _ (B1 _).out).mono ?_; rintro x w1 ⟨rfl, hb1⟩; have HB : Hid (Below w.heap.size w w1) := (HX _ _).out hb1; have c0 := hst _ HB.out; obtain ⟨hc, hf⟩ := bcell hb1)
          go_ret
          exact ⟨rfl, HB.out⟩
        by_cases c6 : 5000 < fuel
        · rw [inB_high (show ¬ fuel ≤ 5000 by omega), if_neg (by simp)] at hF
          subst hF
          go_enter Tryz.func64, Tryz.ntmps64
          go_wp2_with (go_at_call 28; refine (h1 _ (B1 _).out).mono ?_; rintro x w1 ⟨rfl, hb1⟩; have HB : Hid (Below w.heap.size w w1) := (HX _ _).out hb1; have c0 := hst _ HB.out; obtain ⟨hc, hf⟩ := bcell hb1)
          go_ret
          exact ⟨rfl, HB.out⟩
        · rw [inB_true (show 0 ≤ fuel by omega) (show fuel ≤ 5000 by omega), if_pos rfl] at hF
          subst hF
          go_enter Tryz.func64, Tryz.ntmps64
          go_wp2_with (go_at_call 28; refine (h1 _ (B1 _).out).mono ?_; rintro x w1 ⟨rfl, hb1⟩; have HB : Hid (Below w.heap.size w w1) := (HX _ _).out hb1; have c0 := hst _ HB.out; obtain ⟨hc, hf⟩ := bcell hb1)
          go_ret
          exact ⟨rfl, HB.out⟩
      · rw [if_neg c3, if_pos ⟨hst0, c4⟩] at hA
        rw [hA, if_neg (by omega)] at hF
        have c4' : (s != st) = true := by simpa using c4
        subst hF
        go_enter Tryz.func64, Tryz.ntmps64
        go_wp2_with (go_at_call 28; refine (h1 _ (B1 _).out).mono ?_; rintro x w1 ⟨rfl, hb1⟩; have HB : Hid (Below w.heap.size w w1) := (HX _ _).out hb1; have c0 := hst _ HB.out; obtain ⟨hc, hf⟩ := bcell hb1)
        go_ret
        exact ⟨rfl, HB.out⟩
  · rw [if_neg hz] at hA
    rw [hA, if_neg hz] at hF
    have hz1 : (z != 0) = true := by rw [hF]; simpa using hz
    rw [← hF] at h1
    clear hM hz hF hA
    go_enter Tryz.func64, Tryz.ntmps64
    go_wp2_with (go_at_call 28; refine (h1 _ (B1 _).out).mono ?_; rintro x w1 ⟨rfl, hb1⟩)
    go_ret
    exact ⟨rfl, (HX _ _).out hb1⟩

end Go.Proofs.YtdngbojbpmdegaaGreatDoor

namespace Go.Proofs.YtdngbojbpmdegaaGreatDoor
open Go.RowKit

theorem own_xy {n0 : Nat} {w : World} {N : Mv} {X Y : Nat} {a b c d e : Value} (h : Owned n0 w N) (hX : X < n0) (hY : Y < n0) : Owned n0 ((((((w.setCell ⟨X, 0, none⟩ a).setCell ⟨X, 1, none⟩ b).setCell ⟨X, 2, none⟩ c).setCell ⟨Y, 0, none⟩ d).setCell ⟨Y, 1, none⟩ e).drew) N := by
  have h1 : Owned n0 (((((w.setCell ⟨X, 0, none⟩ a).setCell ⟨X, 1, none⟩ b).setCell ⟨X, 2, none⟩ c).setCell ⟨Y, 0, none⟩ d).setCell ⟨Y, 1, none⟩ e) N :=
    h.keep (fun g hg _ => by rw [set_heap _ _ _ _ _ (show g ≠ Y by omega), set_heap _ _ _ _ _ (show g ≠ Y by omega), set_heap _ _ _ _ _ (show g ≠ X by omega), set_heap _ _ _ _ _ (show g ≠ X by omega), set_heap _ _ _ _ _ (show g ≠ X by omega)]) (by simp [World.setCell])
  exact h1.below (Below.refl _ _).drew
/-- what a call answers that runs an enclave -/
def RunSaid (nd v z : Int) (T : Mv) (w : World) (x : Ending) (w' : World) : Prop := ∃ N : Mv, x = .returned (.tuple #[N.val, .agg #[.int .i64 nd, .int .i64 v], .int .i64 z]) ∧ N.Same T ∧ Owned w.heap.size w' N ∧ Below w.heap.size w w'
def entF (M : Mv) (e word fuel : Int) : Int := if fuelF M e 2 fuel = 0 then (if inB word 0 65535 = true then 0 else 2) else fuelF M e 2 fuel
def entR (M : Mv) (e word fuel : Int) : Rn := runR fuel.toNat M (e - 1).toNat 0 [word, 0, 0, 0] xorR
def entM (M : Mv) (e word fuel : Int) : Mv := if entF M e word fuel = 0 then leftM (entR M e word fuel) (e - 1).toNat else noM
def entD (M : Mv) (e word fuel : Int) : Int := if entF M e word fuel = 0 then (entR M e word fuel).nd else 0
def entV (M : Mv) (e word fuel : Int) : Int := if entF M e word fuel = 0 then (entR M e word fuel).v else 0
def En.regs (E : En) : List Int := [E.g0, E.g1, E.g2, E.g3]
def resR (M : Mv) (e fuel : Int) : Rn := runR fuel.toNat M (e - 1).toNat (M.ens.getD (e - 1).toNat default).pc (M.ens.getD (e - 1).toNat default).regs xorR
def resM (M : Mv) (e fuel : Int) : Mv := if fuelF M e 3 fuel = 0 then leftM (resR M e fuel) (e - 1).toNat else noM
def resD (M : Mv) (e fuel : Int) : Int := if fuelF M e 3 fuel = 0 then (resR M e fuel).nd else 0
def resV (M : Mv) (e fuel : Int) : Int := if fuelF M e 3 fuel = 0 then (resR M e fuel).v else 0

theorem entF_zero {M : Mv} {e word fuel : Int} (h : entF M e word fuel = 0) : fuelF M e 2 fuel = 0 ∧ 0 ≤ word ∧ word ≤ 65535 := by
  unfold entF at h
  by_cases h1 : fuelF M e 2 fuel = 0
  · rw [if_pos h1] at h
    by_cases h2 : inB word 0 65535 = true
    · exact ⟨h1, inB_iff.1 h2⟩
    · rw [if_neg h2] at h; simp at h
  · rw [if_neg h1] at h; exact absurd h h1
theorem ent_ok {M : Mv} {e word fuel : Int} (h : entF M e word fuel = 0) : ∃ m : Nat, ∃ f : Nat, e = (m : Int) + 1 ∧ fuel = (f : Int) ∧ f ≤ 5000 ∧ RunOk M m 0 [word, 0, 0, 0] := by
  obtain ⟨h1, h2, h3⟩ := entF_zero h
  obtain ⟨h4, h5, h6⟩ := fuelF_zero h1
  obtain ⟨g0, m, rfl, hm, hst, _⟩ := askF_zero h4
  refine ⟨m, fuel.toNat, rfl, by omega, by omega, good_iff.1 g0, hm, by omega, rfl, fun i => ?_, hst⟩
  match i with
  | 0 => exact ⟨h2, h3⟩
  | 1 => exact ⟨by show (0 : Int) ≤ 0; omega, by show (0 : Int) ≤ 65535; omega⟩
  | 2 => exact ⟨by show (0 : Int) ≤ 0; omega, by show (0 : Int) ≤ 65535; omega⟩
  | 3 => exact ⟨by show (0 : Int) ≤ 0; omega, by show (0 : Int) ≤ 65535; omega⟩
  | n + 4 => exact ⟨by show (0 : Int) ≤ 0; omega, by show (0 : Int) ≤ 65535; omega⟩
theorem res_ok {M : Mv} {e fuel : Int} (h : fuelF M e 3 fuel = 0) : ∃ m : Nat, ∃ f : Nat, e = (m : Int) + 1 ∧ fuel = (f : Int) ∧ f ≤ 5000 ∧ RunOk M m (M.ens.getD m default).pc (M.ens.getD m default).regs := by
  obtain ⟨h4, h5, h6⟩ := fuelF_zero h
  obtain ⟨g0, m, rfl, hm, hst, h3⟩ := askF_zero h4
  have h3 := h3 (by omega)
  have hg := good_iff.1 g0
  have he := (enGood_iff.1 (hg.en m hm)).2.2.2
  rw [if_pos h3] at he
  have hp := inB_iff.1 he.1
  have hw := he.2
  unfold En.words at hw
  simp only [Bool.and_eq_true] at hw
  obtain ⟨⟨⟨w0, w1⟩, w2⟩, w3⟩ := hw
  have b0 := inB_iff.1 w0
  have b1 := inB_iff.1 w1
  have b2 := inB_iff.1 w2
  have b3 := inB_iff.1 w3
  refine ⟨m, fuel.toNat, rfl, by omega, by omega, hg, hm, hp, rfl, fun i => ?_, hst⟩
  match i with
  | 0 => exact b0
  | 1 => exact b1
  | 2 => exact b2
  | 3 => exact b3
  | n + 4 => exact ⟨by show (0 : Int) ≤ 0; omega, by show (0 : Int) ≤ 65535; omega⟩
theorem entF_same {M N : Mv} (h : M.Same N) (e word fuel : Int) : entF M e word fuel = entF N e word fuel := by unfold entF; rw [fuelF_same h]
theorem entR_same {M N : Mv} (h : M.Same N) (e word fuel : Int) : (entR M e word fuel).Same (entR N e word fuel) := runR_same _ h _ _ _ _
theorem entD_same {M N : Mv} (h : M.Same N) (e word fuel : Int) : entD M e word fuel = entD N e word fuel := by unfold entD; rw [entF_same h, (entR_same h e word fuel).nd]
theorem entV_same {M N : Mv} (h : M.Same N) (e word fuel : Int) : entV M e word fuel = entV N e word fuel := by unfold entV; rw [entF_same h, (entR_same h e word fuel).v]
theorem entM_same {M N : Mv} (h : M.Same N) (e word fuel : Int) : (entM M e word fuel).Same (entM N e word fuel) := by
  unfold entM
  rw [entF_same h]
  split
  · exact leftM_same (entR_same h e word fuel) _
  · exact Mv.Same.refl _
theorem resR_same {M N : Mv} (h : M.Same N) (e fuel : Int) : (resR M e fuel).Same (resR N e fuel) := by unfold resR; rw [h.en]; exact runR_same _ h _ _ _ _
theorem resD_same {M N : Mv} (h : M.Same N) (e fuel : Int) : resD M e fuel = resD N e fuel := by unfold resD; rw [fuelF_same h, (resR_same h e fuel).nd]
theorem resV_same {M N : Mv} (h : M.Same N) (e fuel : Int) : resV M e fuel = resV N e fuel := by unfold resV; rw [fuelF_same h, (resR_same h e fuel).v]
theorem resM_same {M N : Mv} (h : M.Same N) (e fuel : Int) : (resM M e fuel).Same (resM N e fuel) := by
  unfold resM
  rw [fuelF_same h]
  split
  · exact leftM_same (resR_same h e fuel) _
  · exact Mv.Same.refl _

theorem box5 (w : World) (a b c : Value) : ∃ W3, Hid (W3 = ((w.alloc (.cells #[a, b, c] 29)).alloc (.cells #[.slice none 0 0, .slice none 0 0, .slice none 0 0] 29)).alloc (.cells #[.int .i64 0, .int .i64 0] 47)) ∧ Hid (Below w.heap.size w W3) ∧ Hid (∀ w1, Below W3.heap.size W3 w1 → w1.cell? ⟨w.heap.size, 0, none⟩ = some a ∧ w1.cell? ⟨w.heap.size, 1, none⟩ = some b ∧ w1.cell? ⟨w.heap.size, 2, none⟩ = some c ∧ w1.heap[w.heap.size + 1]? = some (.cells #[.slice none 0 0, .slice none 0 0, .slice none 0 0] 29 (0, 0)) ∧ w1.heap[w.heap.size + 1 + 1]? = some (.cells #[.int .i64 0, .int .i64 0] 47 (0, 0))) := by
  refine ⟨_, rfl, below_allocR (below_allocR (below_allocR (Below.refl _ _) _) _) _, fun w1 hb => ?_⟩
  obtain ⟨W3, hW3⟩ : ∃ W3, W3 = ((w.alloc (.cells #[a, b, c] 29)).alloc (.cells #[.slice none 0 0, .slice none 0 0, .slice none 0 0] 29)).alloc (.cells #[.int .i64 0, .int .i64 0] 47) := ⟨_, rfl⟩
  rw [← hW3] at hb
  have q1 : W3.heap[w.heap.size]? = some (.cells #[a, b, c] 29) := by
    rw [hW3, Below.heap_alloc _ _ _ (by simp; omega), Below.heap_alloc _ _ _ (by simp)]; exact Go.Deep.blk_alloc_new _ _
  have q2 : W3.heap[w.heap.size + 1]? = some (.cells #[.slice none 0 0, .slice none 0 0, .slice none 0 0] 29) := by
    rw [hW3, Below.heap_alloc _ _ _ (by simp)]
    have := Go.Deep.blk_alloc_new (w.alloc (.cells #[a, b, c] 29)) (.cells #[.slice none 0 0, .slice none 0 0, .slice none 0 0] 29)
    simpa using this
  have q3 : W3.heap[w.heap.size + 1 + 1]? = some (.cells #[.int .i64 0, .int .i64 0] 47) := by
    rw [hW3]
    have := Go.Deep.blk_alloc_new ((w.alloc (.cells #[a, b, c] 29)).alloc (.cells #[.slice none 0 0, .slice none 0 0, .slice none 0 0] 29)) (.cells #[.int .i64 0, .int .i64 0] 47)
    simpa using this
  have q1' := (hb.block _ (Array.getElem?_eq_some_iff.1 q1).1).trans q1
  have q2' := (hb.block _ (Array.getElem?_eq_some_iff.1 q2).1).trans q2
  have q3' := (hb.block _ (Array.getElem?_eq_some_iff.1 q3).1).trans q3
  exact ⟨by simp [World.cell?, q1'], by simp [World.cell?, q1'], by simp [World.cell?, q1'], q2', q3'⟩
theorem below5 {w W3 w1 V : World} {v0 v1 v2 v3 v4 : Value} (BW : Below w.heap.size w W3) (HB : Below W3.heap.size W3 w1) (h : V = ((((w1.setCell ⟨w.heap.size + 1, 0, none⟩ v0).setCell ⟨w.heap.size + 1, 1, none⟩ v1).setCell ⟨w.heap.size + 1, 2, none⟩ v2).setCell ⟨w.heap.size + 1 + 1, 0, none⟩ v3).setCell ⟨w.heap.size + 1 + 1, 1, none⟩ v4) : Below w.heap.size w V := by
  rw [h]
  have a : w.heap.size ≤ w.heap.size + 1 := by omega
  have b : w.heap.size ≤ w.heap.size + 1 + 1 := by omega
  exact (((((BW.trans (HB.mono BW.size)).setCell a _).setCell a _).setCell a _).setCell b _).setCell b _
theorem five_of {w1 : World} {x y : Nat} (hx : w1.heap[x]? = some (.cells #[.slice none 0 0, .slice none 0 0, .slice none 0 0] 29 (0, 0))) (hy : w1.heap[y]? = some (.cells #[.int .i64 0, .int .i64 0] 47 (0, 0))) : w1.cell? ⟨x, 0, none⟩ = some (.slice none 0 0) ∧ w1.cell? ⟨x, 1, none⟩ = some (.slice none 0 0) ∧ w1.cell? ⟨x, 2, none⟩ = some (.slice none 0 0) ∧ w1.cell? ⟨y, 0, none⟩ = some (.int .i64 0) ∧ w1.cell? ⟨y, 1, none⟩ = some (.int .i64 0) ∧ w1.frozen? ⟨x, 0, none⟩ = false ∧ w1.frozen? ⟨x, 1, none⟩ = false ∧ w1.frozen? ⟨x, 2, none⟩ = false ∧ w1.frozen? ⟨y, 0, none⟩ = false ∧ w1.frozen? ⟨y, 1, none⟩ = false :=
  ⟨by simp [World.cell?, hx], by simp [World.cell?, hx], by simp [World.cell?, hx], by simp [World.cell?, hy], by simp [World.cell?, hy], frozen_of_block hx 0, frozen_of_block hx 1, frozen_of_block hx 2, frozen_of_block hy 0, frozen_of_block hy 1⟩

set_option maxRecDepth 100000 in
set_option maxHeartbeats 8000000 in
theorem enter_any (M : Mv) (e word fuel : Int) (w : World) (hM : MachAt w M) (hF : M.Fits) :
    Calls Tryz.prog 21 #[M.val, .int .i64 e, .int .i64 word, .int .i64 fuel] w (RunSaid (entD M e word fuel) (entV M e word fuel) (entF M e word fuel) (entM M e word fuel) w) := by
  have h1' := fun w' (h : Below w.heap.size w w') => check_run M e 2 fuel w' (hM.below h) (by omega)
  have h2' := fun w' (h : Below w.heap.size w w') m pc r0 r1 r2 r3 f => fun ho hf => ran_run M m pc r0 r1 r2 r3 f w' (hM.below h) hF ho hf
  obtain ⟨z, hz⟩ : ∃ z, z = entF M e word fuel := ⟨_, rfl⟩
  obtain ⟨T, hT⟩ : ∃ T, T = entM M e word fuel := ⟨_, rfl⟩
  obtain ⟨nd, hnd⟩ : ∃ nd, nd = entD M e word fuel := ⟨_, rfl⟩
  obtain ⟨v, hv⟩ : ∃ v, v = entV M e word fuel := ⟨_, rfl⟩
  rw [← hz, ← hT, ← hnd, ← hv]
  by_cases h0 : entF M e word fuel = 0
  · obtain ⟨m, f, rfl, rfl, hf, ho⟩ := ent_ok h0
    rw [(entF_zero h0).1] at h1'
    have h2'' := fun w' h => h2' w' h m 0 word 0 0 0 f ho hf
    have hw := (entF_zero h0).2
    have HT : Hid (T = leftM (runR f M m 0 [word, 0, 0, 0] xorR) m) := by show T = _; rw [hT]; unfold entM entR; rw [if_pos h0, show ((m : Int) + 1 - 1).toNat = m by omega, Int.toNat_natCast]
    have HND : Hid (nd = (runR f M m 0 [word, 0, 0, 0] xorR).nd) := by show nd = _; rw [hnd]; unfold entD entR; rw [if_pos h0, show ((m : Int) + 1 - 1).toNat = m by omega, Int.toNat_natCast]
    have HV : Hid (v = (runR f M m 0 [word, 0, 0, 0] xorR).v) := by show v = _; rw [hv]; unfold entV entR; rw [if_pos h0, show ((m : Int) + 1 - 1).toNat = m by omega, Int.toNat_natCast]
    have HZ : Hid (z = 0) := by show z = 0; rw [hz, h0]
    rw [← HND.out, ← HV.out, ← HT.out] at h2''
    unfold Mv.val at h1' h2''
    unfold Mv.val
    obtain ⟨fa, frs, fcap, ea, ens, ecap, qa, qus, qcap⟩ := M
    dsimp only at h1' h2'' ⊢
    clear hM hF hz hT hnd hv h0 h2' ho hf
    obtain ⟨W3, hW3, BW, FC⟩ := box5 w (.slice fa frs.length fcap) (.slice ea ens.length ecap) (.slice qa qus.length qcap)
    obtain ⟨m0, m1, m2, _, _⟩ := FC.out W3 (Below.refl _ _)
    have h1 := fun w' (h : Below W3.heap.size W3 w') => h1' w' (BW.out.trans (h.mono BW.out.size))
  
    have h2 := fun w' (h : Below W3.heap.size W3 w') => h2'' w' (BW.out.trans (h.mono BW.out.size))
    clear h1' h2''
    go_enter Tryz.func21, Tryz.ntmps21
    go_upto_region 1 with fail
    rw [← hW3.out]
    clear hW3
    go_wp2_with (first
      | (go_at_call 64; refine (h1 _ (Below.refl _ _)).mono ?_; clear h1; rintro x w1 ⟨rfl, hb1⟩; clear m0 m1 m2; obtain ⟨m0, m1, m2, hx, hy⟩ := FC.out w1 hb1; have HB1 : Hid (Below W3.heap.size W3 w1) := hb1; obtain ⟨x0, x1, x2, y0, y1, fx0, fx1, fx2, fy0, fy1⟩ := five_of hx hy; clear hb1 hx hy)
      | (go_at_call 65; refine (h2 _ HB1.out).mono ?_; clear h2; rintro x w2 ⟨N, rfl, hS, hO, hb2⟩; have HS2 : Hid (_) := hS; have HO2 : Hid (Owned w1.heap.size w2 N) := hO.mono (by first | exact Nat.le_refl _ | (simp; done)); have HB2 : Hid (Below W3.heap.size W3 w2) := HB1.out.trans (hb2.mono HB1.out.size); clear hS hO hb2)
      | fail)
    clear m0 m1 m2 x0 x1 x2 y0 y1 fx0 fx1 fx2 fy0 fy1
    obtain ⟨V3, hV3⟩ : ∃ V3, Hid (V3 = (w2.alloc (.cells #[.slice N.fa N.frs.length N.fcap, .slice N.ea N.ens.length N.ecap, .slice N.qa N.qus.length N.qcap] 29)).alloc (.cells #[.int .i64 nd, .int .i64 v] 47)) := ⟨_, rfl⟩
    rw [← hV3.out]
    have BV : Hid (Below W3.heap.size W3 V3) := by show Below _ _ _; rw [hV3.out]; exact below_allocR (below_allocR HB2.out _) _
    have BV2 : Hid (Below w2.heap.size w2 V3) := by show Below _ _ _; rw [hV3.out]; exact below_allocR (below_allocR (Below.refl _ _) _) _
    have q1 : V3.heap[w2.heap.size]? = some (.cells #[.slice N.fa N.frs.length N.fcap, .slice N.ea N.ens.length N.ecap, .slice N.qa N.qus.length N.qcap] 29) := by rw [hV3.out, Below.heap_alloc _ _ _ (by simp)]; exact Go.Deep.blk_alloc_new _ _
    have q2 : V3.heap[w2.heap.size + 1]? = some (.cells #[.int .i64 nd, .int .i64 v] 47) := by
      rw [hV3.out]
      have := Go.Deep.blk_alloc_new (w2.alloc (.cells #[.slice N.fa N.frs.length N.fcap, .slice N.ea N.ens.length N.ecap, .slice N.qa N.qus.length N.qcap] 29)) (.cells #[.int .i64 nd, .int .i64 v] 47)
      simpa using this
    obtain ⟨_, _, _, hx, hy⟩ := FC.out V3 BV.out
    have lx : w.heap.size + 1 < W3.heap.size := (Array.getElem?_eq_some_iff.1 (FC.out W3 (Below.refl _ _)).2.2.2.1).1
    have ly : w.heap.size + 1 + 1 < W3.heap.size := (Array.getElem?_eq_some_iff.1 (FC.out W3 (Below.refl _ _)).2.2.2.2).1
    have p0 : V3.cell? ⟨w2.heap.size, 0, none⟩ = some (.slice N.fa N.frs.length N.fcap) := by simp [World.cell?, q1]
    have p1 : V3.cell? ⟨w2.heap.size, 1, none⟩ = some (.slice N.ea N.ens.length N.ecap) := by simp [World.cell?, q1]
    have p2 : V3.cell? ⟨w2.heap.size, 2, none⟩ = some (.slice N.qa N.qus.length N.qcap) := by simp [World.cell?, q1]
    have o0 : V3.cell? ⟨w2.heap.size + 1, 0, none⟩ = some (.int .i64 nd) := by simp [World.cell?, q2]
    have o1 : V3.cell? ⟨w2.heap.size + 1, 1, none⟩ = some (.int .i64 v) := by simp [World.cell?, q2]
    have x0 : V3.cell? ⟨w.heap.size + 1, 0, none⟩ = some (.slice none 0 0) := by simp [World.cell?, hx]
    have x1 : V3.cell? ⟨w.heap.size + 1, 1, none⟩ = some (.slice none 0 0) := by simp [World.cell?, hx]
    have x2 : V3.cell? ⟨w.heap.size + 1, 2, none⟩ = some (.slice none 0 0) := by simp [World.cell?, hx]
    have y0 : V3.cell? ⟨w.heap.size + 1 + 1, 0, none⟩ = some (.int .i64 0) := by simp [World.cell?, hy]
    have y1 : V3.cell? ⟨w.heap.size + 1 + 1, 1, none⟩ = some (.int .i64 0) := by simp [World.cell?, hy]
    have fx0 := frozen_of_block hx 0
    have fx1 := frozen_of_block hx 1
    have fx2 := frozen_of_block hx 2
    have fy0 := frozen_of_block hy 0
    have fy1 := frozen_of_block hy 1
    obtain ⟨X, hX⟩ : ∃ X, Hid (X = w.heap.size + 1) := ⟨_, rfl⟩
    obtain ⟨Y, hY⟩ : ∃ Y, Hid (Y = w.heap.size + 1 + 1) := ⟨_, rfl⟩
    obtain ⟨P, hP⟩ : ∃ P, Hid (P = w2.heap.size) := ⟨_, rfl⟩
    obtain ⟨Z, hZ⟩ : ∃ Z, Hid (Z = w2.heap.size + 1) := ⟨_, rfl⟩
    rw [← hY.out, ← hX.out, ← hZ.out, ← hP.out]
    rw [← hX.out] at x0 x1 x2 fx0 fx1 fx2 lx
    rw [← hY.out] at y0 y1 fy0 fy1 ly
    rw [← hP.out] at p0 p1 p2
    rw [← hZ.out] at o0 o1
    have s2 := HB2.out.size
    have eXY : X ≠ Y := by have h1 := hX.out; have h2 := hY.out; omega
    have e1 : P ≠ X := by have h1 := hP.out; omega
    have e2 : P ≠ Y := by have h1 := hP.out; omega
    have e3 : Z ≠ X := by have h1 := hZ.out; omega
    have e4 : Z ≠ Y := by have h1 := hZ.out; omega
    have LXY : Hid (X < W3.heap.size ∧ Y < W3.heap.size) := ⟨lx, ly⟩
    have GW : Hid (w.heap.size ≤ X ∧ w.heap.size ≤ Y) := by have h1 := hX.out; have h2 := hY.out; constructor <;> omega
    clear hx hy q1 q2 FC s2 lx ly hX hY hP hZ hV3
    go_big_region
    go_wp2
    refine bp_genR fun V9 hV9 => ?_
    obtain ⟨k0, k1, k2, k3, k4⟩ := xy5 (a := .slice N.fa N.frs.length N.fcap) (b := .slice N.ea N.ens.length N.ecap) (c := .slice N.qa N.qus.length N.qcap) (d := .int .i64 nd) (e := .int .i64 v) eXY x0 x1 x2 y0 y1
    have HB9 := ((((((BW.out.trans (BV.out.mono BW.out.size)).setCell (p := ⟨X, 0, none⟩) GW.out.1 (.slice N.fa N.frs.length N.fcap)).setCell (p := ⟨X, 1, none⟩) GW.out.1 (.slice N.ea N.ens.length N.ecap)).setCell (p := ⟨X, 2, none⟩) GW.out.1 (.slice N.qa N.qus.length N.qcap)).setCell (p := ⟨Y, 0, none⟩) GW.out.2 (.int .i64 nd)).setCell (p := ⟨Y, 1, none⟩) GW.out.2 (.int .i64 v)).drew
    have HO9 := own_xy (a := .slice N.fa N.frs.length N.fcap) (b := .slice N.ea N.ens.length N.ecap) (c := .slice N.qa N.qus.length N.qcap) (d := .int .i64 nd) (e := .int .i64 v) (HO2.out.below BV2.out) (Nat.lt_of_lt_of_le LXY.out.1 HB1.out.size) (Nat.lt_of_lt_of_le LXY.out.2 HB1.out.size)
    generalize ((((V3.setCell ⟨X, 0, none⟩ (.slice N.fa N.frs.length N.fcap)).setCell ⟨X, 1, none⟩ (.slice N.ea N.ens.length N.ecap)).setCell ⟨X, 2, none⟩ (.slice N.qa N.qus.length N.qcap)).setCell ⟨Y, 0, none⟩ (.int .i64 nd)).setCell ⟨Y, 1, none⟩ (.int .i64 v) = V at hV9 k0 k1 k2 k3 k4 HB9 HO9
    subst hV9
    refine bodyPost_ret (by simp [results, Tryz.results21, go_sem, k0, k1, k2, k3, k4]; try rfl) rfl ?_
    exact ⟨N, by rw [HZ.out]; rfl, HS2.out, HO9.mono (Nat.le_trans BW.out.size HB1.out.size), HB9⟩
  · rw [hT, hnd, hv]
    unfold entM entD entV
    rw [if_neg h0, if_neg h0, if_neg h0]
    have hT' : noM.Same noM := Mv.Same.refl _
    have HT : Hid (_) := hT'
    unfold entF at hz h0
    unfold Mv.val at h1'
    unfold Mv.val
    by_cases hc : fuelF M e 2 fuel = 0
    · rw [if_pos hc] at hz
      rw [hc] at h1'
      by_cases hwd : inB word 0 65535 = true
      · rw [if_pos hc, if_pos hwd] at h0; exact absurd rfl h0
      · rw [if_neg hwd] at hz
        subst hz
        obtain ⟨fa, frs, fcap, ea, ens, ecap, qa, qus, qcap⟩ := M
        dsimp only at h1' ⊢
        have hwr : word < 0 ∨ 65535 < word := by
          rcases Int.lt_or_le word 0 with q | q
          · exact .inl q
          · rcases Int.lt_or_le 65535 word with q2 | q2
            · exact .inr q2
            · exact absurd (inB_true q q2) hwd
        clear hM hF hT hnd hv h0 h2' hc hwd hT'
        obtain ⟨W3, hW3, BW, FC⟩ := box5 w (.slice fa frs.length fcap) (.slice ea ens.length ecap) (.slice qa qus.length qcap)
        obtain ⟨m0, m1, m2, _, _⟩ := FC.out W3 (Below.refl _ _)
        have h1 := fun w' (h : Below W3.heap.size W3 w') => h1' w' (BW.out.trans (h.mono BW.out.size))
      
        clear h1'
        rcases hwr with hwr | hwr
        · go_enter Tryz.func21, Tryz.ntmps21
          go_upto_region 1 with fail
          rw [← hW3.out]
          clear hW3
          go_wp2_with (go_at_call 64; refine (h1 _ (Below.refl _ _)).mono ?_; clear h1; rintro x w1 ⟨rfl, hb1⟩; clear m0 m1 m2; obtain ⟨m0, m1, m2, hx, hy⟩ := FC.out w1 hb1; have HB1 : Hid (Below W3.heap.size W3 w1) := hb1; obtain ⟨x0, x1, x2, y0, y1, fx0, fx1, fx2, fy0, fy1⟩ := five_of hx hy; clear FC hb1 hx hy)
          refine bp_genR fun V9 hV9 => ?_
          obtain ⟨k0, k1, k2, k3, k4⟩ := xy5 (a := .slice none 0 0) (b := .slice none 0 0) (c := .slice none 0 0) (d := .int .i64 0) (e := .int .i64 0) (by omega) x0 x1 x2 y0 y1
          have HB9 : Below w.heap.size w V9 := below5 BW.out HB1.out hV9
          rw [← hV9] at k0 k1 k2 k3 k4
          clear hV9
          (try simp only [Exit.inBlock, Exit.then])
          refine bodyPost_ret (by simp [results, Tryz.results21, go_sem, k0, k1, k2, k3, k4]; try rfl) rfl ?_
          exact ⟨noM, rfl, HT.out, noM_own _ _, HB9⟩
        · go_enter Tryz.func21, Tryz.ntmps21
          go_upto_region 1 with fail
          rw [← hW3.out]
          clear hW3
          go_wp2_with (go_at_call 64; refine (h1 _ (Below.refl _ _)).mono ?_; clear h1; rintro x w1 ⟨rfl, hb1⟩; clear m0 m1 m2; obtain ⟨m0, m1, m2, hx, hy⟩ := FC.out w1 hb1; have HB1 : Hid (Below W3.heap.size W3 w1) := hb1; obtain ⟨x0, x1, x2, y0, y1, fx0, fx1, fx2, fy0, fy1⟩ := five_of hx hy; clear FC hb1 hx hy)
          refine bp_genR fun V9 hV9 => ?_
          obtain ⟨k0, k1, k2, k3, k4⟩ := xy5 (a := .slice none 0 0) (b := .slice none 0 0) (c := .slice none 0 0) (d := .int .i64 0) (e := .int .i64 0) (by omega) x0 x1 x2 y0 y1
          have HB9 : Below w.heap.size w V9 := below5 BW.out HB1.out hV9
          rw [← hV9] at k0 k1 k2 k3 k4
          clear hV9
          (try simp only [Exit.inBlock, Exit.then])
          refine bodyPost_ret (by simp [results, Tryz.results21, go_sem, k0, k1, k2, k3, k4]; try rfl) rfl ?_
          exact ⟨noM, rfl, HT.out, noM_own _ _, HB9⟩
    · rw [if_neg hc] at hz
      have hz1 : (z != 0) = true := by rw [hz]; simpa using hc
      rw [← hz] at h1'
      obtain ⟨fa, frs, fcap, ea, ens, ecap, qa, qus, qcap⟩ := M
      dsimp only at h1' ⊢
      clear hM hF hT hnd hv h0 h2' hc hT' hz
      obtain ⟨W3, hW3, BW, FC⟩ := box5 w (.slice fa frs.length fcap) (.slice ea ens.length ecap) (.slice qa qus.length qcap)
      obtain ⟨m0, m1, m2, _, _⟩ := FC.out W3 (Below.refl _ _)
      have h1 := fun w' (h : Below W3.heap.size W3 w') => h1' w' (BW.out.trans (h.mono BW.out.size))
    
      clear h1'
      go_enter Tryz.func21, Tryz.ntmps21
      go_upto_region 1 with fail
      rw [← hW3.out]
      clear hW3
      go_wp2_with (go_at_call 64; refine (h1 _ (Below.refl _ _)).mono ?_; clear h1; rintro x w1 ⟨rfl, hb1⟩; clear m0 m1 m2; obtain ⟨m0, m1, m2, hx, hy⟩ := FC.out w1 hb1; have HB1 : Hid (Below W3.heap.size W3 w1) := hb1; obtain ⟨x0, x1, x2, y0, y1, fx0, fx1, fx2, fy0, fy1⟩ := five_of hx hy; clear FC hb1 hx hy)
      refine bp_genR fun V9 hV9 => ?_
      obtain ⟨k0, k1, k2, k3, k4⟩ := xy5 (a := .slice none 0 0) (b := .slice none 0 0) (c := .slice none 0 0) (d := .int .i64 0) (e := .int .i64 0) (by omega) x0 x1 x2 y0 y1
      have HB9 : Below w.heap.size w V9 := below5 BW.out HB1.out hV9
      rw [← hV9] at k0 k1 k2 k3 k4
      clear hV9
      (try simp only [Exit.inBlock, Exit.then])
      refine bodyPost_ret (by simp [results, Tryz.results21, go_sem, k0, k1, k2, k3, k4]; try rfl) rfl ?_
      exact ⟨noM, rfl, HT.out, noM_own _ _, HB9⟩

end Go.Proofs.YtdngbojbpmdegaaGreatDoor
