/-
  What slices.IndexFunc and slices.ContainsFunc answer at the lists of a machine, for Check: the first element, or whether there is one, of which the function that is handed in answers true. The condition: what that function answers.
-/
import Derived.Test.YtdbbiibnhgcndaaDoorIdxBase
namespace Go.Proofs.YtdbbiibnhgcndaaDoor
open Go.RowKit

set_option maxHeartbeats 800000 in
theorem bad1_index (a : Option Addr) (xs : List Fr) (cap : Nat) (c0 : Value) (p : Fr → Bool) (w : World) (hl : xs.length ≤ maxLen) (hx : RowsAt w 4 Fr.cells a xs)
    (hp : ∀ j, j < xs.length → ∀ w', Below w.heap.size w w' → Calls Tryd.prog 65 #[.agg #[.int .i64 (xs.getD j default).o, .int .i64 (xs.getD j default).at_, .int .i64 (xs.getD j default).r, .slice (xs.getD j default).a (xs.getD j default).ws.length (xs.getD j default).cap], c0] w' fun e w'' => e = .returned (.bool (p (xs.getD j default))) ∧ Below w'.heap.size w' w'') :
    Calls Tryd.prog 78 #[.slice a xs.length cap, .func (.func 65) #[] #[c0]] w fun e w' => e = .returned (.int .i64 (idxOf p xs)) ∧ Below w.heap.size w w' := by
  unfold maxLen at hl
  rcases hx with rfl | ⟨b, off, rfl, hc⟩
  · clear hp
    go_enter Tryd.func78, Tryd.ntmps78
    go_wp2
    refine wp_loop_rounds 1 ?_
    rw [rounds_succ]
    go_wp2
    go_ret
    exact ⟨rfl, Below.refl _ _⟩
  · go_enter Tryd.func78, Tryd.ntmps78
    go_wp2
    go_loopw [8] (fun i wr => ∃ k : Nat, k ≤ xs.length ∧ i = .int .i64 k ∧ Below w.heap.size w wr ∧ Hid (∀ j, j < k → p (xs.getD j default) = false)) (fun i _ => xs.length - (intOf i).toNat)
    case atStart => exact ⟨0, Nat.zero_le _, rfl, Below.refl _ _, fun j hj => absurd hj (by omega)⟩
    case round =>
      obtain ⟨k, hk, rfl, hbel, hid⟩ := hrel
      by_cases hlt : k < xs.length
      · have k0 := hc k hlt 0 (by omega); have k1 := hc k hlt 1 (by omega); have k2 := hc k hlt 2 (by omega); have k3 := hc k hlt 3 (by omega)
        have hcall := hp k hlt
        have HP : Hid (xs.getD k default = xs.getD k default) := rfl
        obtain ⟨P, hP⟩ : ∃ P, xs.getD k default = P := ⟨_, rfl⟩
        rw [hP] at k0 k1 k2 k3 hcall
        have HP : Hid (xs.getD k default = P) := hP
        clear hP hc hp
        have HQ : Hid (p P = p P) := rfl
        obtain ⟨o, at_, r, fa, ws, fcap⟩ := P
        simp only [Fr.cells] at k0 k1 k2 k3
        have bl : b < w.heap.size := lt_of_cell k0
        have l0 : wr.cell? ⟨b, off + k * 4, none⟩ = some (.int .i64 o) := (hbel.cell (p := ⟨b, _, none⟩) bl).trans k0; have l1 : wr.cell? ⟨b, off + k * 4 + 1, none⟩ = some (.int .i64 at_) := (hbel.cell (p := ⟨b, _, none⟩) bl).trans k1; have l2 : wr.cell? ⟨b, off + k * 4 + 2, none⟩ = some (.int .i64 r) := (hbel.cell (p := ⟨b, _, none⟩) bl).trans k2; have l3 : wr.cell? ⟨b, off + k * 4 + 3, none⟩ = some (.slice fa ws.length fcap) := (hbel.cell (p := ⟨b, _, none⟩) bl).trans k3
        clear k0 k1 k2 k3 bl
        obtain ⟨z, hz⟩ : ∃ z, p ⟨o, at_, r, fa, ws, fcap⟩ = z := ⟨_, rfl⟩
        rw [hz] at hcall
        have HZ : Hid (p (xs.getD k default) = z) := by rw [HP.out]; exact hz
        clear hz HQ
        cases z with
        | false =>
          go_wp2_with (go_at_call 65; refine (hcall _ hbel).mono ?_; rintro e w1 ⟨rfl, hb1⟩)
          go_roundw
          case rel => exact ⟨k + 1, by omega, by go_num, hbel.trans (hb1.mono hbel.size), snoc_false hid HZ.out⟩
          case measure => simp [intOf]; omega
        | true =>
          go_wp2_with (go_at_call 65; refine (hcall _ hbel).mono ?_; rintro e w1 ⟨rfl, hb1⟩)
          go_ret
          exact ⟨ret_int (idxOf_at hlt hid.out HZ.out).symm, hbel.trans (hb1.mono hbel.size)⟩
      · have hkl : k = xs.length := by omega
        subst hkl
        clear hp hc
        go_wp2
        go_ret
        exact ⟨ret_int (idxOf_none hid.out).symm, hbel⟩

theorem bad1_contains (a : Option Addr) (xs : List Fr) (cap : Nat) (c0 : Value) (p : Fr → Bool) (w : World) (hl : xs.length ≤ maxLen) (hx : RowsAt w 4 Fr.cells a xs)
    (hp : ∀ j, j < xs.length → ∀ w', Below w.heap.size w w' → Calls Tryd.prog 65 #[.agg #[.int .i64 (xs.getD j default).o, .int .i64 (xs.getD j default).at_, .int .i64 (xs.getD j default).r, .slice (xs.getD j default).a (xs.getD j default).ws.length (xs.getD j default).cap], c0] w' fun e w'' => e = .returned (.bool (p (xs.getD j default))) ∧ Below w'.heap.size w' w'') :
    Calls Tryd.prog 72 #[.slice a xs.length cap, .func (.func 65) #[] #[c0]] w fun e w' => e = .returned (.bool (xs.any p)) ∧ Below w.heap.size w w' := by
  have hI := bad1_index a xs cap c0 p w hl hx hp
  have E := idxOf_any p xs
  generalize idxOf p xs = z at hI E
  rw [← E]
  clear hx hl hp E
  go_enter Tryd.func72, Tryd.ntmps72
  go_wp2_with (go_at_call 78; refine hI.mono ?_; rintro e w' ⟨rfl, hb⟩)
  go_ret
  exact ⟨rfl, hb⟩

set_option maxHeartbeats 800000 in
theorem bad2_index (a : Option Addr) (xs : List En) (cap : Nat) (p : En → Bool) (w : World) (hl : xs.length ≤ maxLen) (hx : RowsAt w 7 En.cells a xs)
    (hp : ∀ j, j < xs.length → ∀ w', Below w.heap.size w w' → Calls Tryd.prog 67 #[.agg #[.int .i64 (xs.getD j default).st, .string (xs.getD j default).log, .int .i64 (xs.getD j default).pc, .int .i64 (xs.getD j default).g0, .int .i64 (xs.getD j default).g1, .int .i64 (xs.getD j default).g2, .int .i64 (xs.getD j default).g3]] w' fun e w'' => e = .returned (.bool (p (xs.getD j default))) ∧ Below w'.heap.size w' w'') :
    Calls Tryd.prog 47 #[.slice a xs.length cap, .func (.func 67) #[] #[]] w fun e w' => e = .returned (.int .i64 (idxOf p xs)) ∧ Below w.heap.size w w' := by
  unfold maxLen at hl
  rcases hx with rfl | ⟨b, off, rfl, hc⟩
  · clear hp
    go_enter Tryd.func47, Tryd.ntmps47
    go_wp2
    refine wp_loop_rounds 1 ?_
    rw [rounds_succ]
    go_wp2
    go_ret
    exact ⟨rfl, Below.refl _ _⟩
  · go_enter Tryd.func47, Tryd.ntmps47
    go_wp2
    go_loopw [8] (fun i wr => ∃ k : Nat, k ≤ xs.length ∧ i = .int .i64 k ∧ Below w.heap.size w wr ∧ Hid (∀ j, j < k → p (xs.getD j default) = false)) (fun i _ => xs.length - (intOf i).toNat)
    case atStart => exact ⟨0, Nat.zero_le _, rfl, Below.refl _ _, fun j hj => absurd hj (by omega)⟩
    case round =>
      obtain ⟨k, hk, rfl, hbel, hid⟩ := hrel
      by_cases hlt : k < xs.length
      · have k0 := hc k hlt 0 (by omega); have k1 := hc k hlt 1 (by omega); have k2 := hc k hlt 2 (by omega); have k3 := hc k hlt 3 (by omega); have k4 := hc k hlt 4 (by omega); have k5 := hc k hlt 5 (by omega); have k6 := hc k hlt 6 (by omega)
        have hcall := hp k hlt
        have HP : Hid (xs.getD k default = xs.getD k default) := rfl
        obtain ⟨P, hP⟩ : ∃ P, xs.getD k default = P := ⟨_, rfl⟩
        rw [hP] at k0 k1 k2 k3 k4 k5 k6 hcall
        have HP : Hid (xs.getD k default = P) := hP
        clear hP hc hp
        have HQ : Hid (p P = p P) := rfl
        obtain ⟨st, lg, pc, g0, g1, g2, g3⟩ := P
        simp only [En.cells] at k0 k1 k2 k3 k4 k5 k6
        have bl : b < w.heap.size := lt_of_cell k0
        have l0 : wr.cell? ⟨b, off + k * 7, none⟩ = some (.int .i64 st) := (hbel.cell (p := ⟨b, _, none⟩) bl).trans k0; have l1 : wr.cell? ⟨b, off + k * 7 + 1, none⟩ = some (.string lg) := (hbel.cell (p := ⟨b, _, none⟩) bl).trans k1; have l2 : wr.cell? ⟨b, off + k * 7 + 2, none⟩ = some (.int .i64 pc) := (hbel.cell (p := ⟨b, _, none⟩) bl).trans k2; have l3 : wr.cell? ⟨b, off + k * 7 + 3, none⟩ = some (.int .i64 g0) := (hbel.cell (p := ⟨b, _, none⟩) bl).trans k3; have l4 : wr.cell? ⟨b, off + k * 7 + 4, none⟩ = some (.int .i64 g1) := (hbel.cell (p := ⟨b, _, none⟩) bl).trans k4; have l5 : wr.cell? ⟨b, off + k * 7 + 5, none⟩ = some (.int .i64 g2) := (hbel.cell (p := ⟨b, _, none⟩) bl).trans k5; have l6 : wr.cell? ⟨b, off + k * 7 + 6, none⟩ = some (.int .i64 g3) := (hbel.cell (p := ⟨b, _, none⟩) bl).trans k6
        clear k0 k1 k2 k3 k4 k5 k6 bl
        obtain ⟨z, hz⟩ : ∃ z, p ⟨st, lg, pc, g0, g1, g2, g3⟩ = z := ⟨_, rfl⟩
        rw [hz] at hcall
        have HZ : Hid (p (xs.getD k default) = z) := by rw [HP.out]; exact hz
        clear hz HQ
        cases z with
        | false =>
          go_wp2_with (go_at_call 67; refine (hcall _ hbel).mono ?_; rintro e w1 ⟨rfl, hb1⟩)
          go_roundw
          case rel => exact ⟨k + 1, by omega, by go_num, hbel.trans (hb1.mono hbel.size), snoc_false hid HZ.out⟩
          case measure => simp [intOf]; omega
        | true =>
          go_wp2_with (go_at_call 67; refine (hcall _ hbel).mono ?_; rintro e w1 ⟨rfl, hb1⟩)
          go_ret
          exact ⟨ret_int (idxOf_at hlt hid.out HZ.out).symm, hbel.trans (hb1.mono hbel.size)⟩
      · have hkl : k = xs.length := by omega
        subst hkl
        clear hp hc
        go_wp2
        go_ret
        exact ⟨ret_int (idxOf_none hid.out).symm, hbel⟩

theorem bad2_contains (a : Option Addr) (xs : List En) (cap : Nat) (p : En → Bool) (w : World) (hl : xs.length ≤ maxLen) (hx : RowsAt w 7 En.cells a xs)
    (hp : ∀ j, j < xs.length → ∀ w', Below w.heap.size w w' → Calls Tryd.prog 67 #[.agg #[.int .i64 (xs.getD j default).st, .string (xs.getD j default).log, .int .i64 (xs.getD j default).pc, .int .i64 (xs.getD j default).g0, .int .i64 (xs.getD j default).g1, .int .i64 (xs.getD j default).g2, .int .i64 (xs.getD j default).g3]] w' fun e w'' => e = .returned (.bool (p (xs.getD j default))) ∧ Below w'.heap.size w' w'') :
    Calls Tryd.prog 71 #[.slice a xs.length cap, .func (.func 67) #[] #[]] w fun e w' => e = .returned (.bool (xs.any p)) ∧ Below w.heap.size w w' := by
  have hI := bad2_index a xs cap  p w hl hx hp
  have E := idxOf_any p xs
  generalize idxOf p xs = z at hI E
  rw [← E]
  clear hx hl hp E
  go_enter Tryd.func71, Tryd.ntmps71
  go_wp2_with (go_at_call 47; refine hI.mono ?_; rintro e w' ⟨rfl, hb⟩)
  go_ret
  exact ⟨rfl, hb⟩

set_option maxHeartbeats 800000 in
theorem bad3_index (a : Option Addr) (xs : List Qu) (cap : Nat) (p : Qu → Bool) (w : World) (hl : xs.length ≤ maxLen) (hx : RowsAt w 2 Qu.cells a xs)
    (hp : ∀ j, j < xs.length → ∀ w', Below w.heap.size w w' → Calls Tryd.prog 69 #[.agg #[.string (xs.getD j default).log, .int .i64 (xs.getD j default).data]] w' fun e w'' => e = .returned (.bool (p (xs.getD j default))) ∧ Below w'.heap.size w' w'') :
    Calls Tryd.prog 83 #[.slice a xs.length cap, .func (.func 69) #[] #[]] w fun e w' => e = .returned (.int .i64 (idxOf p xs)) ∧ Below w.heap.size w w' := by
  unfold maxLen at hl
  rcases hx with rfl | ⟨b, off, rfl, hc⟩
  · clear hp
    go_enter Tryd.func83, Tryd.ntmps83
    go_wp2
    refine wp_loop_rounds 1 ?_
    rw [rounds_succ]
    go_wp2
    go_ret
    exact ⟨rfl, Below.refl _ _⟩
  · go_enter Tryd.func83, Tryd.ntmps83
    go_wp2
    go_loopw [8] (fun i wr => ∃ k : Nat, k ≤ xs.length ∧ i = .int .i64 k ∧ Below w.heap.size w wr ∧ Hid (∀ j, j < k → p (xs.getD j default) = false)) (fun i _ => xs.length - (intOf i).toNat)
    case atStart => exact ⟨0, Nat.zero_le _, rfl, Below.refl _ _, fun j hj => absurd hj (by omega)⟩
    case round =>
      obtain ⟨k, hk, rfl, hbel, hid⟩ := hrel
      by_cases hlt : k < xs.length
      · have k0 := hc k hlt 0 (by omega); have k1 := hc k hlt 1 (by omega)
        have hcall := hp k hlt
        have HP : Hid (xs.getD k default = xs.getD k default) := rfl
        obtain ⟨P, hP⟩ : ∃ P, xs.getD k default = P := ⟨_, rfl⟩
        rw [hP] at k0 k1 hcall
        have HP : Hid (xs.getD k default = P) := hP
        clear hP hc hp
        have HQ : Hid (p P = p P) := rfl
        obtain ⟨lg, da⟩ := P
        simp only [Qu.cells] at k0 k1
        have bl : b < w.heap.size := lt_of_cell k0
        have l0 : wr.cell? ⟨b, off + k * 2, none⟩ = some (.string lg) := (hbel.cell (p := ⟨b, _, none⟩) bl).trans k0; have l1 : wr.cell? ⟨b, off + k * 2 + 1, none⟩ = some (.int .i64 da) := (hbel.cell (p := ⟨b, _, none⟩) bl).trans k1
        clear k0 k1 bl
        obtain ⟨z, hz⟩ : ∃ z, p ⟨lg, da⟩ = z := ⟨_, rfl⟩
        rw [hz] at hcall
        have HZ : Hid (p (xs.getD k default) = z) := by rw [HP.out]; exact hz
        clear hz HQ
        cases z with
        | false =>
          go_wp2_with (go_at_call 69; refine (hcall _ hbel).mono ?_; rintro e w1 ⟨rfl, hb1⟩)
          go_roundw
          case rel => exact ⟨k + 1, by omega, by go_num, hbel.trans (hb1.mono hbel.size), snoc_false hid HZ.out⟩
          case measure => simp [intOf]; omega
        | true =>
          go_wp2_with (go_at_call 69; refine (hcall _ hbel).mono ?_; rintro e w1 ⟨rfl, hb1⟩)
          go_ret
          exact ⟨ret_int (idxOf_at hlt hid.out HZ.out).symm, hbel.trans (hb1.mono hbel.size)⟩
      · have hkl : k = xs.length := by omega
        subst hkl
        clear hp hc
        go_wp2
        go_ret
        exact ⟨ret_int (idxOf_none hid.out).symm, hbel⟩

theorem bad3_contains (a : Option Addr) (xs : List Qu) (cap : Nat) (p : Qu → Bool) (w : World) (hl : xs.length ≤ maxLen) (hx : RowsAt w 2 Qu.cells a xs)
    (hp : ∀ j, j < xs.length → ∀ w', Below w.heap.size w w' → Calls Tryd.prog 69 #[.agg #[.string (xs.getD j default).log, .int .i64 (xs.getD j default).data]] w' fun e w'' => e = .returned (.bool (p (xs.getD j default))) ∧ Below w'.heap.size w' w'') :
    Calls Tryd.prog 73 #[.slice a xs.length cap, .func (.func 69) #[] #[]] w fun e w' => e = .returned (.bool (xs.any p)) ∧ Below w.heap.size w w' := by
  have hI := bad3_index a xs cap  p w hl hx hp
  have E := idxOf_any p xs
  generalize idxOf p xs = z at hI E
  rw [← E]
  clear hx hl hp E
  go_enter Tryd.func73, Tryd.ntmps73
  go_wp2_with (go_at_call 83; refine hI.mono ?_; rintro e w' ⟨rfl, hb⟩)
  go_ret
  exact ⟨rfl, hb⟩

set_option maxHeartbeats 800000 in
theorem twin_index (a : Option Addr) (xs : List Fr) (cap : Nat) (c0 : Value) (p : Fr → Bool) (w : World) (hl : xs.length ≤ maxLen) (hx : RowsAt w 4 Fr.cells a xs)
    (hp : ∀ j, j < xs.length → ∀ w', Below w.heap.size w w' → Calls Tryd.prog 84 #[.agg #[.int .i64 (xs.getD j default).o, .int .i64 (xs.getD j default).at_, .int .i64 (xs.getD j default).r, .slice (xs.getD j default).a (xs.getD j default).ws.length (xs.getD j default).cap], c0] w' fun e w'' => e = .returned (.bool (p (xs.getD j default))) ∧ Below w'.heap.size w' w'') :
    Calls Tryd.prog 78 #[.slice a xs.length cap, .func (.func 84) #[] #[c0]] w fun e w' => e = .returned (.int .i64 (idxOf p xs)) ∧ Below w.heap.size w w' := by
  unfold maxLen at hl
  rcases hx with rfl | ⟨b, off, rfl, hc⟩
  · clear hp
    go_enter Tryd.func78, Tryd.ntmps78
    go_wp2
    refine wp_loop_rounds 1 ?_
    rw [rounds_succ]
    go_wp2
    go_ret
    exact ⟨rfl, Below.refl _ _⟩
  · go_enter Tryd.func78, Tryd.ntmps78
    go_wp2
    go_loopw [8] (fun i wr => ∃ k : Nat, k ≤ xs.length ∧ i = .int .i64 k ∧ Below w.heap.size w wr ∧ Hid (∀ j, j < k → p (xs.getD j default) = false)) (fun i _ => xs.length - (intOf i).toNat)
    case atStart => exact ⟨0, Nat.zero_le _, rfl, Below.refl _ _, fun j hj => absurd hj (by omega)⟩
    case round =>
      obtain ⟨k, hk, rfl, hbel, hid⟩ := hrel
      by_cases hlt : k < xs.length
      · have k0 := hc k hlt 0 (by omega); have k1 := hc k hlt 1 (by omega); have k2 := hc k hlt 2 (by omega); have k3 := hc k hlt 3 (by omega)
        have hcall := hp k hlt
        have HP : Hid (xs.getD k default = xs.getD k default) := rfl
        obtain ⟨P, hP⟩ : ∃ P, xs.getD k default = P := ⟨_, rfl⟩
        rw [hP] at k0 k1 k2 k3 hcall
        have HP : Hid (xs.getD k default = P) := hP
        clear hP hc hp
        have HQ : Hid (p P = p P) := rfl
        obtain ⟨o, at_, r, fa, ws, fcap⟩ := P
        simp only [Fr.cells] at k0 k1 k2 k3
        have bl : b < w.heap.size := lt_of_cell k0
        have l0 : wr.cell? ⟨b, off + k * 4, none⟩ = some (.int .i64 o) := (hbel.cell (p := ⟨b, _, none⟩) bl).trans k0; have l1 : wr.cell? ⟨b, off + k * 4 + 1, none⟩ = some (.int .i64 at_) := (hbel.cell (p := ⟨b, _, none⟩) bl).trans k1; have l2 : wr.cell? ⟨b, off + k * 4 + 2, none⟩ = some (.int .i64 r) := (hbel.cell (p := ⟨b, _, none⟩) bl).trans k2; have l3 : wr.cell? ⟨b, off + k * 4 + 3, none⟩ = some (.slice fa ws.length fcap) := (hbel.cell (p := ⟨b, _, none⟩) bl).trans k3
        clear k0 k1 k2 k3 bl
        obtain ⟨z, hz⟩ : ∃ z, p ⟨o, at_, r, fa, ws, fcap⟩ = z := ⟨_, rfl⟩
        rw [hz] at hcall
        have HZ : Hid (p (xs.getD k default) = z) := by rw [HP.out]; exact hz
        clear hz HQ
        cases z with
        | false =>
          go_wp2_with (go_at_call 84; refine (hcall _ hbel).mono ?_; rintro e w1 ⟨rfl, hb1⟩)
          go_roundw
          case rel => exact ⟨k + 1, by omega, by go_num, hbel.trans (hb1.mono hbel.size), snoc_false hid HZ.out⟩
          case measure => simp [intOf]; omega
        | true =>
          go_wp2_with (go_at_call 84; refine (hcall _ hbel).mono ?_; rintro e w1 ⟨rfl, hb1⟩)
          go_ret
          exact ⟨ret_int (idxOf_at hlt hid.out HZ.out).symm, hbel.trans (hb1.mono hbel.size)⟩
      · have hkl : k = xs.length := by omega
        subst hkl
        clear hp hc
        go_wp2
        go_ret
        exact ⟨ret_int (idxOf_none hid.out).symm, hbel⟩

theorem twin_contains (a : Option Addr) (xs : List Fr) (cap : Nat) (c0 : Value) (p : Fr → Bool) (w : World) (hl : xs.length ≤ maxLen) (hx : RowsAt w 4 Fr.cells a xs)
    (hp : ∀ j, j < xs.length → ∀ w', Below w.heap.size w w' → Calls Tryd.prog 84 #[.agg #[.int .i64 (xs.getD j default).o, .int .i64 (xs.getD j default).at_, .int .i64 (xs.getD j default).r, .slice (xs.getD j default).a (xs.getD j default).ws.length (xs.getD j default).cap], c0] w' fun e w'' => e = .returned (.bool (p (xs.getD j default))) ∧ Below w'.heap.size w' w'') :
    Calls Tryd.prog 72 #[.slice a xs.length cap, .func (.func 84) #[] #[c0]] w fun e w' => e = .returned (.bool (xs.any p)) ∧ Below w.heap.size w w' := by
  have hI := twin_index a xs cap c0 p w hl hx hp
  have E := idxOf_any p xs
  generalize idxOf p xs = z at hI E
  rw [← E]
  clear hx hl hp E
  go_enter Tryd.func72, Tryd.ntmps72
  go_wp2_with (go_at_call 78; refine hI.mono ?_; rintro e w' ⟨rfl, hb⟩)
  go_ret
  exact ⟨rfl, hb⟩

end Go.Proofs.YtdbbiibnhgcndaaDoor
