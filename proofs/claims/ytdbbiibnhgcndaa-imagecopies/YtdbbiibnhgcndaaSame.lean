/-
  What the calls sameInts and samePages (riddlelaw) answer where both lists hold the same: true; they turn nothing but the count of draws.
-/
import Derived.Test.YtdbbiibnhgcndaaChecks
import Derived.Test.YtdbbiibnhgcndaaSameI
namespace Go.Proofs.Ytdbbiibnhgcndaa
open Go.RowKit

theorem PagesAt.drewN {w : World} {a : Option Addr} {ps : List Pg} (h : PagesAt w a ps) (n : Nat) : PagesAt (w.drewN n) a ps := h.below (below_drewN (Below.refl _ _) n)

set_option maxHeartbeats 1000000 in
theorem samePages_any (a b : Option Addr) (ps qs : List Pg) (ca cb : Nat) (w : World) (hl : ps.length ≤ maxLen) (hq : qs.length = ps.length)
    (hs : ∀ j, j < ps.length → (qs.getD j default).at_ = (ps.getD j default).at_ ∧ (qs.getD j default).r = (ps.getD j default).r ∧ (qs.getD j default).ws = (ps.getD j default).ws)
    (ha : PagesAt w a ps) (hb : PagesAt w b qs) :
    Calls Try.prog 28 #[.slice a ps.length ca, .slice b ps.length cb] w fun e w' => e = .returned (.bool true) ∧ ∃ n, w' = w.drewN n := by
  unfold maxLen at hl
  rcases ha.at_ with rfl | ⟨ba, oa, rfl, hca⟩
  · clear ha hb hs
    go_enter Try.func28, Try.ntmps28
    go_wp2
    refine wp_loop_rounds 1 ?_
    rw [rounds_succ]
    go_wp2
    go_ret
    exact ⟨rfl, 0, rfl⟩
  · rcases hb.at_ with rfl | ⟨bb, ob, rfl, hcb⟩
    · simp at hq
      have hp0 : ps = [] := List.eq_nil_of_length_eq_zero hq.symm
      subst hp0
      clear ha hb hs hca hq
      go_enter Try.func28, Try.ntmps28
      go_wp2
      refine wp_loop_rounds 1 ?_
      rw [rounds_succ]
      go_wp2
      go_ret
      exact ⟨rfl, 0, rfl⟩
    · go_enter Try.func28, Try.ntmps28
      have HQ : Hid (qs.length = ps.length) := hq
      clear hq
      go_wp2
      go_loopw [5] (fun i wr => ∃ k : Nat, k ≤ ps.length ∧ i = .int .i64 k ∧ ∃ n, wr = w.drewN n) (fun i _ => ps.length - (intOf i).toNat)
      case atStart => exact ⟨0, Nat.zero_le _, rfl, 0, rfl⟩
      case round =>
        obtain ⟨k, hk, rfl, n, hw⟩ := hrel
        by_cases hlt : k < ps.length
        · have HW : Hid (wr = w.drewN n) := hw
          have Ha := ha.drewN n
          have Hb := hb.drewN n
          rw [← hw] at Ha Hb
          obtain ⟨a0, a1, a2⟩ := Ha.cells hlt
          obtain ⟨b0, b1, b2⟩ := Hb.cells (by rw [HQ.out]; exact hlt)
          obtain ⟨s0, s1, s2⟩ := hs k hlt
          have oka := Ha.ok k hlt
          have okb := Hb.ok k (by rw [HQ.out]; exact hlt)
          generalize ps.getD k default = P at a0 a1 a2 s0 s1 s2 oka
          generalize qs.getD k default = R at b0 b1 b2 s0 s1 s2 okb
          obtain ⟨pat, pr, pa, pws, pcap⟩ := P
          obtain ⟨rat, rr, ra, rws, rcap⟩ := R
          dsimp only at a0 a1 a2 b0 b1 b2 s0 s1 s2
          subst s0 s1 s2
          have hcall := fun n => sameInts_any pa ra rws pcap rcap (wr.drewN n) okb.len (oka.ints.drewN n) (okb.ints.drewN n)
          clear oka okb hca hcb ha hb hs HQ Ha Hb hw
          go_wp2
          go_quiet ((go_at_call 64; exact Calls.quiet_of (hcall _)))
          go_wp2
          go_roundw
          case rel => exact ⟨k + 1, by omega, by go_num, _, by rw [HW.out, World.drewN_drewN]⟩
          case measure => simp [intOf]; omega
        · have hkl : k = ps.length := by omega
          subst hkl
          go_wp2
          go_ret
          exact ⟨rfl, n, rfl⟩

end Go.Proofs.Ytdbbiibnhgcndaa
