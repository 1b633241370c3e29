/-
  What the calls isWord and isEnclave (epc) answer for every enclave: whether it is one that may be. No condition.
-/
import Derived.Test.YtdbbiibnhgcndaaWords
import Derived.Test.YtdbbiibnhgcndaaEqVal
namespace Go.Proofs.Ytdbbiibnhgcndaa
open Go.RowKit

theorem isWord_any (n : Int) (w : World) : Calls Try.prog 73 #[.int .i64 n] w fun e w' => e = .returned (.bool (inB n 0 65535)) ∧ w = w' := by
  by_cases h1 : 0 ≤ n
  · by_cases h2 : n ≤ 65535
    · rw [inB_true h1 h2]
      go_enter Try.func73, Try.ntmps73
      go_wp2
      go_ret
      exact ⟨rfl, rfl⟩
    · rw [inB_high h2]
      go_enter Try.func73, Try.ntmps73
      go_wp2
      go_ret
      exact ⟨rfl, rfl⟩
  · rw [inB_low h1]
    go_enter Try.func73, Try.ntmps73
    go_wp2
    go_ret
    exact ⟨rfl, rfl⟩
theorem noWord2_any (n : Int) (w : World) : Calls Try.prog 90 #[.int .i64 n] w fun e w' => e = .returned (.bool (!inB n 0 65535)) ∧ w = w' := by
  have h := isWord_any n w
  generalize inB n 0 65535 = b at h ⊢
  go_enter Try.func90, Try.ntmps90
  go_wp2_with (go_at_call 73; refine h.mono ?_; rintro e w' ⟨rfl, rfl⟩)
  go_ret
  exact ⟨rfl, rfl⟩

set_option maxHeartbeats 400000 in
theorem index2_any (a : Option Addr) (xs : List Int) (cap : Nat) (w : World) (hl : xs.length ≤ maxLen) (hx : Ints w a xs) :
    Calls Try.prog 89 #[.slice a xs.length cap, .func (.func 90) #[] #[]] w fun e w' =>
      ∃ n : Int, e = .returned (.int .i64 n) ∧ (decide (0 ≤ n) = !(xs.all fun n => inB n 0 65535)) ∧ w = w' := by
  unfold maxLen at hl
  rcases hx with rfl | ⟨b, off, rfl, hc⟩
  · go_enter Try.func89, Try.ntmps89
    go_wp2
    refine wp_loop_rounds 1 ?_
    rw [rounds_succ]
    go_wp2
    go_ret
    exact ⟨_, rfl, rfl, rfl⟩
  · go_enter Try.func89, Try.ntmps89
    go_wp2
    go_loop [8] (fun i => ∃ k : Nat, k ≤ xs.length ∧ i = .int .i64 k ∧ Hid (∀ j, j < k → inB (xs.getD j 0) 0 65535 = true)) (fun i => xs.length - (intOf i).toNat)
    case atStart => exact ⟨0, Nat.zero_le _, rfl, fun j hj => absurd hj (by omega)⟩
    case round =>
      obtain ⟨k, hk, rfl, hid⟩ := hrel
      by_cases hlt : k < xs.length
      · have hck := hc k hlt
        obtain ⟨z, hz⟩ : ∃ z, xs.getD k 0 = z := ⟨_, rfl⟩
        rw [hz] at hck
        clear hc
        cases hg : inB z 0 65535 with
        | true =>
          have HG : Hid (inB (xs.getD k 0) 0 65535 = true) := by rw [hz]; exact hg
          clear hz
          go_wp2_with (go_at_call 90; refine (noWord2_any _ _).mono ?_; rintro e w' ⟨rfl, rfl⟩)
          go_round
          case rel => exact ⟨k + 1, by omega, by go_num, hid_snoc hid HG.out⟩
          case measure => simp [intOf]; omega
        | false =>
          have HG : Hid (inB (xs.getD k 0) 0 65535 = false) := by rw [hz]; exact hg
          clear hz
          go_wp2_with (go_at_call 90; refine (noWord2_any _ _).mono ?_; rintro e w' ⟨rfl, rfl⟩)
          go_ret
          exact ⟨_, rfl, any_of xs k hlt HG.out, rfl⟩
      · have hkl : k = xs.length := by omega
        subst hkl
        go_wp2
        go_ret
        exact ⟨_, rfl, none_of xs hid.out, rfl⟩

theorem contains2_any (a : Option Addr) (xs : List Int) (cap : Nat) (w : World) (hl : xs.length ≤ maxLen) (hx : Ints w a xs) :
    Calls Try.prog 60 #[.slice a xs.length cap, .func (.func 90) #[] #[]] w fun e w' =>
      e = .returned (.bool (!(xs.all fun n => inB n 0 65535))) ∧ w = w' := by
  have hI := index2_any a xs cap w hl hx
  clear hx hl
  go_enter Try.func60, Try.ntmps60
  go_wp2_with (go_at_call 89; refine hI.mono ?_; rintro e w' ⟨n, rfl, hn, rfl⟩)
  go_ret
  exact ⟨ret_bool (by first | exact hn | (rw [← hn])), rfl⟩


/-- may the registers be? -/
def En.words (e : En) : Bool := inB e.g0 0 65535 && inB e.g1 0 65535 && inB e.g2 0 65535 && inB e.g3 0 65535
def En.zeros (e : En) : Bool := (e.g0 == 0) && (e.g1 == 0) && (e.g2 == 0) && (e.g3 == 0)
/-- may the enclave be? -/
def En.good (e : En) : Bool := inB e.st 0 4 && decide (e.log.size ≤ 1000) && ((e.st != 0) || (e.log.size == 0)) && (if e.st = 3 then inB e.pc 0 65535 && e.words else (e.pc == 0) && e.zeros)
theorem words_all (g0 g1 g2 g3 : Int) : ([g0, g1, g2, g3].all fun n => inB n 0 65535) = (inB g0 0 65535 && inB g1 0 65535 && inB g2 0 65535 && inB g3 0 65535) := by
  simp [Bool.and_assoc]
theorem ba_empty {l : ByteArray} (h : l.size = 0) : l = ByteArray.empty := by
  apply ByteArray.ext
  exact Array.eq_empty_of_size_eq_zero h
set_option maxHeartbeats 1600000 in
theorem isEnclave_any (st pc g0 g1 g2 g3 : Int) (lg : ByteArray) (w : World) (hl : lg.size ≤ maxLen) :
    Calls Try.prog 71 #[.agg #[.int .i64 st, .string lg, .int .i64 pc, .int .i64 g0, .int .i64 g1, .int .i64 g2, .int .i64 g3]] w fun e w' =>
      e = .returned (.bool (En.good ⟨st, lg, pc, g0, g1, g2, g3⟩)) ∧ Below w.heap.size w w' := by
  have hI := fun (w' : World) (b : Nat) (h : Ints w' (some ⟨b, 3, none⟩) [g0, g1, g2, g3]) => contains2_any (some ⟨b, 3, none⟩) [g0, g1, g2, g3] 4 w' (by unfold maxLen; simp) h
  simp only [words_all] at hI
  have hW := fun w' => isWord_any pc w'
  have B1 : ∀ o, Hid (Below w.heap.size w (w.alloc o)) := fun o => (Below.refl _ _).alloc (Nat.le_refl _) _
  have I1 : Hid (Ints (w.alloc (.cells #[.int .i64 st, .string lg, .int .i64 pc, .int .i64 g0, .int .i64 g1, .int .i64 g2, .int .i64 g3] 87)) (some ⟨w.heap.size, 3, none⟩) [g0, g1, g2, g3]) := by
    refine .inr ⟨_, _, rfl, fun j hj => ?_⟩
    rw [World.cell?_alloc_at _ _ _ _ rfl]
    match j, hj with
    | 0, _ => rfl
    | 1, _ => rfl
    | 2, _ => rfl
    | 3, _ => rfl
  have hR := fun w' => eq_regs 9998 g0 g1 g2 g3 0 0 0 0 w'
  unfold maxLen at hl
  unfold En.good En.words En.zeros
  dsimp only
  by_cases c1 : st < 0
  · rw [inB_low (show ¬ 0 ≤ st by omega)]
    go_enter Try.func71, Try.ntmps71
    go_wp2
    go_ret
    exact ⟨rfl, (B1 _).out⟩
  by_cases c2 : 4 < st
  · rw [inB_high (show ¬ st ≤ 4 by omega)]
    go_enter Try.func71, Try.ntmps71
    go_wp2
    go_ret
    exact ⟨rfl, (B1 _).out⟩
  rw [inB_true (show 0 ≤ st by omega) (show st ≤ 4 by omega)]
  by_cases c3 : lg.size ≤ 1000
  · have c3' : ¬ ((1000 : Int) < (lg.size : Int)) := by omega
    rw [decide_eq_true c3]
    by_cases c4 : st = 0
    · subst c4
      by_cases c5 : lg.size = 0
      · obtain rfl := ba_empty c5
        by_cases c6 : pc = 0
        · subst c6
          go_enter Try.func71, Try.ntmps71
          go_wp2
          go_ret
          exact ⟨ret_bool (by first | rfl | simp), (B1 _).out⟩
        · have c6' : (pc == 0) = false := by simpa using c6
          go_enter Try.func71, Try.ntmps71
          go_wp2
          go_ret
          exact ⟨ret_bool (by first | rfl | simp [c6]), (B1 _).out⟩
      · have c5' : (lg.size == 0) = false := by simpa using c5
        have c5'' := text_empty c5
        go_enter Try.func71, Try.ntmps71
        go_wp2
        go_ret
        exact ⟨ret_bool (by first | rfl | simp [c5]), (B1 _).out⟩
    · have c4' : (st == 0) = false := by simpa using c4
      by_cases c7 : st = 3
      · subst c7
        generalize inB pc 0 65535 = q at hW
        generalize (inB g0 0 65535 && inB g1 0 65535 && inB g2 0 65535 && inB g3 0 65535) = qq at hI
        cases q with
        | false =>
          go_enter Try.func71, Try.ntmps71
          go_wp2_with (go_at_call 73; refine (hW _).mono ?_; rintro e w' ⟨rfl, rfl⟩)
          go_ret
          exact ⟨ret_bool (by first | rfl | simp), (B1 _).out⟩
        | true =>
          go_enter Try.func71, Try.ntmps71
          go_wp2_with (first | (go_at_call 73; refine (hW _).mono ?_; rintro e w' ⟨rfl, rfl⟩) | (go_at_call 60; refine (hI _ _ I1.out).mono ?_; rintro e w' ⟨rfl, rfl⟩) | fail)
          go_ret
          exact ⟨ret_bool (by first | rfl | simp), (B1 _).out⟩
      · have c7' : (st != 3) = true := by simpa using c7
        rw [if_neg c7]
        by_cases c6 : pc = 0
        · subst c6
          go_enter Try.func71, Try.ntmps71
          go_wp2
          go_ret
          exact ⟨ret_bool (by first | rfl | simp [c4]), (B1 _).out⟩
        · have c6' : (pc == 0) = false := by simpa using c6
          go_enter Try.func71, Try.ntmps71
          go_wp2
          go_ret
          exact ⟨ret_bool (by first | rfl | simp [c6]), (B1 _).out⟩
  · have c3' : (1000 : Int) < (lg.size : Int) := by omega
    rw [decide_eq_false c3]
    go_enter Try.func71, Try.ntmps71
    go_wp2
    go_ret
    exact ⟨ret_bool (by first | rfl | simp), (B1 _).out⟩

end Go.Proofs.Ytdbbiibnhgcndaa
