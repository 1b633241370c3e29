/-
  What the call step of package run does (own work): one instruction. The conditions: the core holds a machine that may be, an address and registers that may be.
-/
import Derived.Test.YtjccpjfcdolafaaRunStepK
namespace Go.Proofs.Ytjccpjfcdolafaa
open Go.RowKit

set_option maxRecDepth 100000 in
set_option maxHeartbeats 4000000 in
theorem step_bad {n0 : Nat} {w : World} {cb : Nat} {M : Mv} {e pc : Int} {rs : List Int} (h : Core n0 w cb M e pc rs) (hG : Good M) (hn0 : n0 ≤ w.heap.size) (h0 : 0 ≤ pc) (h1 : pc ≤ 65535) (hf : wAddr M e pc 4 = none ∨ wAddr M e (pc + 1) 4 = none) :
    Calls Try.prog 33 #[.pointer (some ⟨cb, 0, none⟩)] w fun y w' => y = .returned (.agg #[.int .i64 3, .int .i64 0]) ∧ Core n0 w' cb M e pc rs ∧ Below n0 w w' ∧ FarSame M cb w w' := by
  obtain ⟨W2, hW2⟩ : ∃ W2, Hid (W2 = w.alloc (.cells #[.int .i64 0, .int .i64 0] 29)) := ⟨_, rfl⟩
  have BW : Hid (Below w.heap.size w W2) := by show Below _ _ _; rw [hW2.out]; exact (Below.refl _ _).alloc (Nat.le_refl _) _
  have hblk : W2.heap[w.heap.size]? = some (.cells #[.int .i64 0, .int .i64 0] 29 (0, 0)) := by rw [hW2.out]; exact Go.Deep.blk_alloc_new _ _
  have rl : w.heap.size < W2.heap.size := (Array.getElem?_eq_some_iff.1 hblk).1
  have RB : Hid (∀ w', Below W2.heap.size W2 w' → w'.heap[w.heap.size]? = some (.cells #[.int .i64 0, .int .i64 0] 29 (0, 0))) := fun w' h => (h.block _ rl).trans hblk
  have hMR : Hid (¬ Mine M w.heap.size) := fun q => by have := (Mine.fresh h.own q).2; omega
  have hRc : w.heap.size ≠ cb := by have := h.at_.lt; omega
  have HC2 : Hid (Core n0 W2 cb M e pc rs) := h.keep BW.out
  have hF := fetch_none M e pc rs cb W2 HC2.out.at_ HC2.out.own.at_ hG h0 h1 hf
  clear hf h hblk
  go_enter Try.func33, Try.ntmps33
  go_upto_region 1 with fail
  rw [← hW2.out]
  go_wp2_with (first
    | (go_at_call 44; refine hF.mono ?_; clear hF; rintro x w1 ⟨rfl, hb⟩; have HBa : Hid (Below W2.heap.size W2 w1) := hb; clear hb)
    | (go_at_call 45; refine (fault_run _).mono ?_; rintro x W1 ⟨rfl, hb⟩; have HB1 : Hid (Below W2.heap.size W2 W1) := (HBa.out.alloc HBa.out.size _).trans (hb.mono (by have := HBa.out.size; simp; omega)); have hblk := RB.out W1 HB1.out; have r0 : W1.cell? ⟨w.heap.size, 0, none⟩ = some (.int .i64 0) := (by simp [World.cell?, hblk]); have r1 : W1.cell? ⟨w.heap.size, 1, none⟩ = some (.int .i64 0) := (by simp [World.cell?, hblk]); have f0 := frozen_of_block hblk 0; have f1 := frozen_of_block hblk 1; have rl1 := lt_of_cell r0; dsimp only at rl1; clear hblk; clear hb)
    | fail)
  refine bp_genR fun V9 hV9 => ?_
  obtain ⟨k0, k1⟩ := blk2R (v0 := .int .i64 3) (v1 := .int .i64 0) r0 r1
  rw [← hV9] at k0 k1
  have HC9 : Core n0 V9 cb M e pc rs := by rw [hV9]; exact ((HC2.out.keep HB1.out).far hMR.out hRc 0 _).far hMR.out hRc 1 _
  have HB9 : Below n0 w V9 := by rw [hV9]; exact (((BW.out.mono hn0).trans (HB1.out.mono (by have := BW.out.size; omega))).setCell hn0 _).setCell hn0 _
  have HF9 : FarSame M cb w V9 := by rw [hV9]; exact ((((FarSame.refl M cb w).below (Nat.le_refl _) BW.out).below BW.out.size HB1.out).set (.inl (Nat.le_refl _)) 0 _).set (.inl (Nat.le_refl _)) 1 _
  clear hV9
  (try simp only [Exit.inBlock, Exit.then])
  refine bodyPost_ret (by simp [results, Try.results33, go_sem, k0, k1]; try rfl) rfl ?_
  exact ⟨rfl, HC9, HB9, HF9⟩

def xorR : Int → Int → Int := (fun a b => bits .xor .i64 a b)
theorem step_run {n0 : Nat} {w : World} {cb : Nat} {M : Mv} {m : Nat} {pc : Int} {rs : List Int} (h : Core n0 w cb M ((m : Int) + 1) pc rs) (ho : RunOk M m pc rs) (hn0 : n0 ≤ w.heap.size) :
    Calls Try.prog 33 #[.pointer (some ⟨cb, 0, none⟩)] w fun y w' => ∃ M' : Mv, M'.Same (stepR M m pc rs xorR).M ∧ y = .returned (.agg #[.int .i64 (stepR M m pc rs xorR).nd, .int .i64 (stepR M m pc rs xorR).v]) ∧ Core n0 w' cb M' ((m : Int) + 1) (stepR M m pc rs xorR).pc (stepR M m pc rs xorR).rs ∧ Below n0 w w' ∧ FarSame M cb w w' ∧ MineSub M M' w.heap.size := by
  have hp1 : 0 ≤ pc + 1 := by have := ho.pc; omega
  have bad : (wAddr M ((m : Int) + 1) pc 4 = none ∨ wAddr M ((m : Int) + 1) (pc + 1) 4 = none) → stepR M m pc rs xorR = ⟨M, pc, rs, 3, 0⟩ := fun q => by
    unfold stepR
    rw [if_pos]
    rcases q with q | q
    · exact .inl (wAddr_none h.own.at_ ho.good ho.pc.1 q)
    · exact .inr (wAddr_none h.own.at_ ho.good hp1 q)
  cases h1 : wAddr M ((m : Int) + 1) pc 4 with
  | none =>
    rw [bad (.inl h1)]
    refine (step_bad h ho.good hn0 ho.pc.1 ho.pc.2 (.inl h1)).mono ?_
    rintro y w' ⟨rfl, a, b, c⟩
    exact ⟨M, Mv.Same.refl _, rfl, a, b, c, MineSub.refl _ _⟩
  | some a1 =>
    cases h2 : wAddr M ((m : Int) + 1) (pc + 1) 4 with
    | none =>
      rw [bad (.inr h2)]
      refine (step_bad h ho.good hn0 ho.pc.1 ho.pc.2 (.inr h2)).mono ?_
      rintro y w' ⟨rfl, a, b, c⟩
      exact ⟨M, Mv.Same.refl _, rfl, a, b, c, MineSub.refl _ _⟩
    | some a2 =>
      have n1 := (wAddr_word h.own.at_ ho.good ho.pc.1 h1).2.2.1
      have n2 := (wAddr_word h.own.at_ ho.good hp1 h2).2.2.1
      have e : stepR M m pc rs xorR = doR M m pc rs (wordAt M (frmF M.frs ((m : Int) + 1) pc 4) pc) (wordAt M (frmF M.frs ((m : Int) + 1) (pc + 1) 4) (pc + 1)) xorR := by
        unfold stepR
        rw [if_neg (by rintro (q | q); exact n1 q; exact n2 q)]
      rw [e]
      obtain ⟨x, hx⟩ : ∃ x, wordAt M (frmF M.frs ((m : Int) + 1) pc 4) pc = x := ⟨_, rfl⟩
      obtain ⟨n, hn⟩ : ∃ n, wordAt M (frmF M.frs ((m : Int) + 1) (pc + 1) 4) (pc + 1) = n := ⟨_, rfl⟩
      rw [hx, hn]
      unfold xorR
      have : x % 16 = 0 ∨ x % 16 = 1 ∨ x % 16 = 2 ∨ x % 16 = 3 ∨ x % 16 = 4 ∨ x % 16 = 5 ∨ x % 16 = 6 ∨ x % 16 = 7 ∨ x % 16 = 8 ∨ x % 16 = 9 ∨ x % 16 = 10 ∨ x % 16 = 11 ∨ x % 16 = 12 ∨ x % 16 = 13 ∨ x % 16 = 14 ∨ x % 16 = 15 := by omega
      rcases this with k | k | k | k | k | k | k | k | k | k | k | k | k | k | k | k
      · exact step_odd0 h ho hn0 h1 h2 hx hn k
      · exact step_li h ho hn0 h1 h2 hx hn k
      · exact step_add h ho hn0 h1 h2 hx hn k
      · exact step_xor h ho hn0 h1 h2 hx hn k
      · exact step_lt h ho hn0 h1 h2 hx hn k
      · exact step_ld h ho hn0 h1 h2 hx hn k
      · exact step_st h ho hn0 h1 h2 hx hn k
      · exact step_jz h ho hn0 h1 h2 hx hn k
      · exact step_exit h ho hn0 h1 h2 hx hn k
      · exact step_say h ho hn0 h1 h2 hx hn k
      · exact step_odd10 h ho hn0 h1 h2 hx hn k
      · exact step_odd11 h ho hn0 h1 h2 hx hn k
      · exact step_odd12 h ho hn0 h1 h2 hx hn k
      · exact step_odd13 h ho hn0 h1 h2 hx hn k
      · exact step_odd14 h ho hn0 h1 h2 hx hn k
      · exact step_odd15 h ho hn0 h1 h2 hx hn k

end Go.Proofs.Ytjccpjfcdolafaa
