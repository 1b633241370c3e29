/-
  What the calls Words (image) and WordsMay (riddleref) answer for every slice of integers: both answer whether the words may be a page's, and turn nothing in memory.
-/
import Derived.Test.YtdbbiibnhgcndaaDoorSmall
namespace Go.Proofs.YtdbbiibnhgcndaaDoor
open Go.RowKit

theorem noW_eq (n : Int) : (decide (n < 0) || decide (65535 < n)) = !inB n 0 65535 := by
  by_cases h1 : 0 ≤ n
  · by_cases h2 : n ≤ 65535
    · rw [inB_true h1 h2]; simp; omega
    · rw [inB_high h2]; simp; omega
  · rw [inB_low h1]; simp; omega
theorem noWord_any (n : Int) (w : World) : Calls Tryd.prog 61 #[.int .i64 n] w fun e w' => e = .returned (.bool (!inB n 0 65535)) ∧ w = w' := by
  by_cases h1 : n < 0
  · rw [inB_low (by omega)]
    go_enter Tryd.func61, Tryd.ntmps61
    go_wp2
    go_ret
    exact ⟨rfl, rfl⟩
  · by_cases h2 : 65535 < n
    · rw [inB_high (by omega)]
      go_enter Tryd.func61, Tryd.ntmps61
      go_wp2
      go_ret
      exact ⟨rfl, rfl⟩
    · rw [inB_true (by omega) (by omega)]
      go_enter Tryd.func61, Tryd.ntmps61
      go_wp2
      go_ret
      exact ⟨rfl, rfl⟩

theorem len8 (n : Nat) : ((n : Int) == 8) = (n == 8) := by rw [Bool.eq_iff_iff]; simp; omega
theorem hid_snoc {xs : List Int} {k : Nat} (h : Hid (∀ j, j < k → inB (xs.getD j 0) 0 65535 = true)) (hg : inB (xs.getD k 0) 0 65535 = true) :
    Hid (∀ j, j < k + 1 → inB (xs.getD j 0) 0 65535 = true) := fun j hj => by
  by_cases e : j < k
  · exact h.out j e
  · have : j = k := by omega
    subst this; exact hg

set_option maxHeartbeats 400000 in
theorem wordsMay_any (a : Option Addr) (xs : List Int) (cap : Nat) (w : World) (hl : xs.length ≤ maxLen) (hx : Ints w a xs) :
    Calls Tryd.prog 38 #[.slice a xs.length cap] w fun e w' => e = .returned (.bool (mayW xs)) ∧ w = w' := by
  unfold maxLen at hl
  rcases hx with rfl | ⟨b, off, rfl, hc⟩
  · go_enter Tryd.func38, Tryd.ntmps38
    go_wp2
    refine wp_loop_rounds 1 ?_
    rw [rounds_succ]
    go_wp2
    go_ret
    exact ⟨rfl, rfl⟩
  · go_enter Tryd.func38, Tryd.ntmps38
    go_wp2
    go_loop [3] (fun i => ∃ k : Nat, k ≤ xs.length ∧ i = .int .i64 k ∧ Hid (∀ j, j < k → inB (xs.getD j 0) 0 65535 = true)) (fun i => xs.length - (intOf i).toNat)
    case atStart => exact ⟨0, Nat.zero_le _, rfl, fun j hj => absurd hj (by omega)⟩
    case round =>
      obtain ⟨k, hk, rfl, hid⟩ := hrel
      by_cases hlt : k < xs.length
      · have hck := hc k hlt
        obtain ⟨z, hz⟩ : ∃ z, xs.getD k 0 = z := ⟨_, rfl⟩
        rw [hz] at hck
        clear hc
        cases hg : inB z 0 65535 with
        | true =>
          have HG : Hid (inB (xs.getD k 0) 0 65535 = true) := by rw [hz]; exact hg
          clear hz
          go_wp2_with (go_at_call 35; refine (in_any _ _ _ _).mono ?_; rintro e w' ⟨rfl, rfl⟩)
          go_round
          case rel => exact ⟨k + 1, by omega, by go_num, hid_snoc hid HG.out⟩
          case measure => simp [intOf]; omega
        | false =>
          have HG : Hid (inB (xs.getD k 0) 0 65535 = false) := by rw [hz]; exact hg
          clear hz
          go_wp2_with (go_at_call 35; refine (in_any _ _ _ _).mono ?_; rintro e w' ⟨rfl, rfl⟩)
          go_ret
          exact ⟨ret_bool (mayW_bad xs k hlt HG.out).symm, rfl⟩
      · have hkl : k = xs.length := by omega
        subst hkl
        go_wp2
        go_ret
        exact ⟨ret_bool (by rw [mayW_good xs hid.out]; exact len8 _), rfl⟩

theorem any_of (xs : List Int) (k : Nat) (hk : k < xs.length) (hg : inB (xs.getD k 0) 0 65535 = false) :
    decide ((0 : Int) ≤ (k : Int)) = !(xs.all fun n => inB n 0 65535) := by rw [not_all xs k hk hg]; simp
theorem none_of (xs : List Int) (h : ∀ j, j < xs.length → inB (xs.getD j 0) 0 65535 = true) :
    decide ((0 : Int) ≤ -1) = !(xs.all fun n => inB n 0 65535) := by rw [all_upto xs h]; rfl

set_option maxHeartbeats 400000 in
theorem index_any (a : Option Addr) (xs : List Int) (cap : Nat) (w : World) (hl : xs.length ≤ maxLen) (hx : Ints w a xs) :
    Calls Tryd.prog 81 #[.slice a xs.length cap, .func (.func 61) #[] #[]] w fun e w' =>
      ∃ n : Int, e = .returned (.int .i64 n) ∧ (decide (0 ≤ n) = !(xs.all fun n => inB n 0 65535)) ∧ w = w' := by
  unfold maxLen at hl
  rcases hx with rfl | ⟨b, off, rfl, hc⟩
  · go_enter Tryd.func81, Tryd.ntmps81
    go_wp2
    refine wp_loop_rounds 1 ?_
    rw [rounds_succ]
    go_wp2
    go_ret
    exact ⟨_, rfl, rfl, rfl⟩
  · go_enter Tryd.func81, Tryd.ntmps81
    go_wp2
    go_loop [8] (fun i => ∃ k : Nat, k ≤ xs.length ∧ i = .int .i64 k ∧ Hid (∀ j, j < k → inB (xs.getD j 0) 0 65535 = true)) (fun i => xs.length - (intOf i).toNat)
    case atStart => exact ⟨0, Nat.zero_le _, rfl, fun j hj => absurd hj (by omega)⟩
    case round =>
      obtain ⟨k, hk, rfl, hid⟩ := hrel
      by_cases hlt : k < xs.length
      · have hck := hc k hlt
        obtain ⟨z, hz⟩ : ∃ z, xs.getD k 0 = z := ⟨_, rfl⟩
        rw [hz] at hck
        clear hc
        cases hg : inB z 0 65535 with
        | true =>
          have HG : Hid (inB (xs.getD k 0) 0 65535 = true) := by rw [hz]; exact hg
          clear hz
          go_wp2_with (go_at_call 61; refine (noWord_any _ _).mono ?_; rintro e w' ⟨rfl, rfl⟩)
          go_round
          case rel => exact ⟨k + 1, by omega, by go_num, hid_snoc hid HG.out⟩
          case measure => simp [intOf]; omega
        | false =>
          have HG : Hid (inB (xs.getD k 0) 0 65535 = false) := by rw [hz]; exact hg
          clear hz
          go_wp2_with (go_at_call 61; refine (noWord_any _ _).mono ?_; rintro e w' ⟨rfl, rfl⟩)
          go_ret
          exact ⟨_, rfl, any_of xs k hlt HG.out, rfl⟩
      · have hkl : k = xs.length := by omega
        subst hkl
        go_wp2
        go_ret
        exact ⟨_, rfl, none_of xs hid.out, rfl⟩

theorem contains_any (a : Option Addr) (xs : List Int) (cap : Nat) (w : World) (hl : xs.length ≤ maxLen) (hx : Ints w a xs) :
    Calls Tryd.prog 62 #[.slice a xs.length cap, .func (.func 61) #[] #[]] w fun e w' =>
      e = .returned (.bool (!(xs.all fun n => inB n 0 65535))) ∧ w = w' := by
  have hI := index_any a xs cap w hl hx
  clear hx hl
  go_enter Tryd.func62, Tryd.ntmps62
  go_wp2_with (go_at_call 81; refine hI.mono ?_; rintro e w' ⟨n, rfl, hn, rfl⟩)
  go_ret
  exact ⟨ret_bool (by first | exact hn | (rw [← hn])), rfl⟩

theorem words_any (a : Option Addr) (xs : List Int) (cap : Nat) (w : World) (hl : xs.length ≤ maxLen) (hx : Ints w a xs) :
    Calls Tryd.prog 37 #[.slice a xs.length cap] w fun e w' => e = .returned (.bool (mayW xs)) ∧ w = w' := by
  have hI := contains_any a xs cap w hl hx
  clear hx hl
  by_cases h8 : xs.length = 8
  · have ha : mayW xs = xs.all fun n => inB n 0 65535 := by simp [mayW, h8]
    rw [ha]
    generalize (xs.all fun n => inB n 0 65535) = r at hI
    rw [h8] at hI ⊢
    clear ha h8
    cases r
    all_goals
      go_enter Tryd.func37, Tryd.ntmps37
      go_wp2_with (go_at_call 62; refine hI.mono ?_; rintro e w' ⟨rfl, rfl⟩)
      go_ret
      exact ⟨rfl, rfl⟩
  · rw [mayW_len h8]
    have h9 : ((xs.length : Int) == 8) = false := by simp; omega
    clear h8 hI
    go_enter Tryd.func37, Tryd.ntmps37
    go_wp2
    go_ret
    exact ⟨rfl, rfl⟩

end Go.Proofs.YtdbbiibnhgcndaaDoor
