/-
  What the call sameInts (riddlelaw) answers where both lists hold the same: true; it turns nothing but the count of draws. The condition: the cells are there.
-/
import Derived.Test.YtdbbiibnhgcndaaSmall
import Derived.Deep.QuietTactic
import Derived.BigQuiet
namespace Go.Proofs.Ytdbbiibnhgcndaa
open Go.RowKit

theorem Ints.drewN {w : World} {a : Option Addr} {xs : List Int} (h : Ints w a xs) (n : Nat) : Ints (w.drewN n) a xs := h.below (below_drewN (Below.refl _ _) n)

set_option maxHeartbeats 400000 in
theorem sameInts_any (a b : Option Addr) (xs : List Int) (ca cb : Nat) (w : World) (hl : xs.length ≤ maxLen) (ha : Ints w a xs) (hb : Ints w b xs) :
    Calls Try.prog 64 #[.slice a xs.length ca, .slice b xs.length cb] w fun e w' => e = .returned (.bool true) ∧ ∃ n, w' = w.drewN n := by
  unfold maxLen at hl
  rcases ha with rfl | ⟨ba, oa, rfl, hca⟩
  · go_enter Try.func64, Try.ntmps64
    go_wp2
    refine wp_loop_rounds 1 ?_
    rw [rounds_succ]
    go_wp2
    go_ret
    exact ⟨rfl, 0, rfl⟩
  · rcases hb with rfl | ⟨bb, ob, rfl, hcb⟩
    · go_enter Try.func64, Try.ntmps64
      go_wp2
      refine wp_loop_rounds 1 ?_
      rw [rounds_succ]
      go_wp2
      go_ret
      exact ⟨rfl, 0, rfl⟩
    · go_enter Try.func64, Try.ntmps64
      go_wp2
      go_loopw [5] (fun i wr => ∃ k : Nat, k ≤ xs.length ∧ i = .int .i64 k ∧ ∃ n, wr = w.drewN n) (fun i _ => xs.length - (intOf i).toNat)
      case atStart => exact ⟨0, Nat.zero_le _, rfl, 0, rfl⟩
      case round =>
        obtain ⟨k, hk, rfl, n, rfl⟩ := hrel
        by_cases hlt : k < xs.length
        · have h1 := hca k hlt
          have h2 := hcb k hlt
          obtain ⟨z, hz⟩ : ∃ z, xs.getD k 0 = z := ⟨_, rfl⟩
          rw [hz] at h1 h2
          clear hz hca hcb
          go_wp2
          go_quiet (fail)
          go_wp2
          go_roundw
          case rel => exact ⟨k + 1, by omega, by go_num, _, rfl⟩
          case measure => simp [intOf]; omega
        · have hkl : k = xs.length := by omega
          subst hkl
          go_wp2
          go_ret
          exact ⟨rfl, n, rfl⟩

end Go.Proofs.Ytdbbiibnhgcndaa
