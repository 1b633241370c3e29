/-
  What the calls steps and leave of package run do (own work): as many steps as there is fuel for, and what is kept of them. The conditions: the core holds a machine that may be, an address and registers that may be.
-/
import Derived.Test.YtdngbojbpmdegaaGreatDoorRunStep
namespace Go.Proofs.YtdngbojbpmdegaaGreatDoor
open Go.RowKit

theorem Rn.Same.trans {R S T : Rn} (h : R.Same S) (g : S.Same T) : R.Same T := ⟨h.M.trans g.M, h.pc.trans g.pc, h.rs.trans g.rs, h.nd.trans g.nd, h.v.trans g.v⟩
theorem Rn.Same.symm {R S : Rn} (h : R.Same S) : S.Same R := ⟨h.M.symm, h.pc.symm, h.rs.symm, h.nd.symm, h.v.symm⟩
theorem good_same {M N : Mv} (h : Good M) (hs : N.Same M) : Good N := good_iff.1 ((machF_same hs).trans (good_iff.2 h))
theorem RunOk.same {M N : Mv} {m : Nat} {pc : Int} {rs : List Int} (h : RunOk M m pc rs) (hs : N.Same M) : RunOk N m pc rs := ⟨good_same h.good hs, h.m4, h.pc, h.len, h.rs, by rw [hs.en]; exact h.st⟩

theorem xor_in (a b : Int) (ha : 0 ≤ a ∧ a ≤ 65535) (hb : 0 ≤ b ∧ b ≤ 65535) : 0 ≤ xorR a b ∧ xorR a b ≤ 65535 := by
  unfold xorR
  obtain ⟨x, rfl⟩ : ∃ x : Nat, a = (x : Int) := ⟨a.toNat, by omega⟩
  obtain ⟨y, rfl⟩ : ∃ y : Nat, b = (y : Int) := ⟨b.toNat, by omega⟩
  have e : bits .xor .i64 (x : Int) (y : Int) = IntKind.i64.wrap ((BitVec.ofInt 64 (x : Int) ^^^ BitVec.ofInt 64 (y : Int)).toNat : Int) := rfl
  have hX : (BitVec.ofInt 64 (x : Int)).toNat = x := by rw [BitVec.toNat_ofInt]; omega
  have hY : (BitVec.ofInt 64 (y : Int)).toNat = y := by rw [BitVec.toNat_ofInt]; omega
  rw [e, BitVec.toNat_xor, hX, hY]
  have hlt : x ^^^ y < 65536 := Nat.xor_lt_two_pow (n := 16) (by omega) (by omega)
  rw [IntKind.wrap_i64]
  omega

set_option maxRecDepth 100000 in
set_option maxHeartbeats 4000000 in
theorem steps_run {n0 : Nat} {w : World} {cb : Nat} {M : Mv} {m : Nat} {pc : Int} {rs : List Int} (h : Core n0 w cb M ((m : Int) + 1) pc rs) (ho : RunOk M m pc rs) (hn0 : n0 ≤ w.heap.size) (f : Nat) (hf : f ≤ 5000) :
    Calls Tryz.prog 113 #[.pointer (some ⟨cb, 0, none⟩), .int .i64 (f : Int)] w fun y w' => ∃ M' : Mv, M'.Same (runR f M m pc rs xorR).M ∧ y = .returned (.agg #[.int .i64 (runR f M m pc rs xorR).nd, .int .i64 (runR f M m pc rs xorR).v]) ∧ Core n0 w' cb M' ((m : Int) + 1) (runR f M m pc rs xorR).pc (runR f M m pc rs xorR).rs ∧ Below n0 w w' ∧ FarSame M cb w w' ∧ MineSub M M' w.heap.size := by
  obtain ⟨R, hR⟩ : ∃ R, Hid (R = runR f M m pc rs xorR) := ⟨_, rfl⟩
  rw [← hR.out]
  obtain ⟨W2, hW2⟩ : ∃ W2, Hid (W2 = w.alloc (.cells #[.int .i64 0, .int .i64 0] 47)) := ⟨_, rfl⟩
  have BW : Hid (Below w.heap.size w W2) := by show Below _ _ _; rw [hW2.out]; exact (Below.refl _ _).alloc (Nat.le_refl _) _
  have hblk : W2.heap[w.heap.size]? = some (.cells #[.int .i64 0, .int .i64 0] 47 (0, 0)) := by rw [hW2.out]; exact Go.Deep.blk_alloc_new _ _
  have hMR : Hid (¬ Mine M w.heap.size) := fun q => by have := (Mine.fresh h.own q).2; omega
  have hRc : w.heap.size ≠ cb := by have := h.at_.lt; omega
  have HC2 : Hid (Core n0 W2 cb M ((m : Int) + 1) pc rs) := h.keep BW.out
  have ST : Hid (∃ (M0 : Mv) (pc0 : Int) (rs0 : List Int), Core n0 W2 cb M0 ((m : Int) + 1) pc0 rs0 ∧ RunOk M0 m pc0 rs0 ∧ R.Same (runR (f - 0) M0 m pc0 rs0 xorR) ∧ W2.heap[w.heap.size]? = some (.cells #[.int .i64 0, .int .i64 0] 47 (0, 0)) ∧ FarSame M cb w W2 ∧ MineSub M M0 (w.heap.size + 1) ∧ Below n0 w W2) :=
    ⟨M, pc, rs, HC2.out, ho, by rw [hR.out]; exact runR_same _ (Mv.Same.refl _) m pc rs xorR, hblk, (FarSame.refl M cb w).below (Nat.le_refl _) BW.out, MineSub.refl _ _, BW.out.mono hn0⟩
  have SZ : Hid (n0 ≤ w.heap.size) := hn0
  clear h ho hblk HC2 BW hR
  go_enter Tryz.func113, Tryz.ntmps113
  go_upto_region 1 with fail
  rw [← hW2.out]
  clear hW2
  go_wp2
  go_loopw [7] (fun i wr => ∃ k : Nat, k ≤ f ∧ i = .int .i64 k ∧ Hid (∃ (M0 : Mv) (pc0 : Int) (rs0 : List Int), Core n0 wr cb M0 ((m : Int) + 1) pc0 rs0 ∧ RunOk M0 m pc0 rs0 ∧ R.Same (runR (f - k) M0 m pc0 rs0 xorR) ∧ wr.heap[w.heap.size]? = some (.cells #[.int .i64 0, .int .i64 0] 47 (0, 0)) ∧ FarSame M cb w wr ∧ MineSub M M0 (w.heap.size + 1) ∧ Below n0 w wr)) (fun i _ => f - (intOf i).toNat)
  case atStart => exact ⟨0, Nat.zero_le _, rfl, ST⟩
  case round =>
    obtain ⟨k, hk, rfl, hst⟩ := hrel
    clear ST
    obtain ⟨M0, pc0, rs0, hc, hok, hsame, hbk, hfar, hmine, hbel⟩ := hst.out
    clear hst
    have lR : w.heap.size < wr.heap.size := (Array.getElem?_eq_some_iff.1 hbk).1
    have hm0 : ¬ Mine M0 w.heap.size := hmine _ (by omega) hMR.out
    have HFAR : Hid (FarSame M cb w wr) := hfar
    have HMINE : Hid (MineSub M M0 (w.heap.size + 1)) := hmine
    have HBEL : Hid (_) := hbel
    have HBK : Hid (_) := hbk
    have HM0 : Hid (_) := hm0
    have HOK : Hid (_) := hok
    have HSAME : Hid (_) := hsame
    by_cases hlt : k < f
    · have hcall := step_run hc hok (by omega)
      obtain ⟨S, hS⟩ : ∃ S, Hid (S = stepR M0 m pc0 rs0 xorR) := ⟨_, rfl⟩
      rw [← hS.out] at hcall
      have hfk : f - k = (f - (k + 1)) + 1 := by omega
      by_cases hnd : S.nd = 0
      · have hS2 : R.Same (runR (f - (k + 1)) S.M m S.pc S.rs xorR) := by
          have := HSAME.out
          rw [hfk, runR_more (by rw [← hS.out]; exact hnd), ← hS.out] at this
          exact this
        have hok2 : RunOk S.M m S.pc S.rs := by
          have := step_ok HOK.out (fun a b => xor_in a b) (by rw [← hS.out]; exact hnd)
          rw [← hS.out] at this
          exact this
        rw [hnd] at hcall
        have HS2 : Hid (_) := hS2
        have HOK2 : Hid (_) := hok2
        clear hc hok hsame hbk hfar hmine hbel hm0 hS hnd hS2 hok2 hfk
        go_wp2_with (go_at_call 139; refine hcall.mono ?_; clear hcall; rintro y w5 ⟨M5, hsm, rfl, hcore, hb5, hf5, hm5⟩; have HSM : Hid (_) := hsm; have HC5 : Hid (_) := hcore; have HB5 : Hid (_) := hb5; have HF5 : Hid (FarSame M0 cb wr w5) := hf5; have HM5 : Hid (MineSub M0 M5 wr.heap.size) := hm5; clear hsm hcore hb5 hf5 hm5)
        go_roundw
        case rel =>
          refine ⟨k + 1, by omega, by go_num, M5, S.pc, S.rs, HC5.out.keep ((Below.refl _ _).alloc (Nat.le_refl _) _), ?_, ?_, ?_, ?_, ?_, ?_⟩
          · exact RunOk.same HOK2.out HSM.out
          · exact HS2.out.trans (runR_same _ HSM.out.symm m S.pc S.rs xorR)
          · rw [Below.heap_alloc _ _ _ (by have := HB5.out.size; omega)]
            exact (HF5.out _ lR HM0.out hRc).trans HBK.out
          · exact (HFAR.out.trans HBEL.out.size (fun b hb hm => HMINE.out b (by omega) hm) HF5.out).below (by have := HBEL.out.size; have := HB5.out.size; omega) ((Below.refl _ _).alloc (Nat.le_refl _) _)
          · exact fun b hb hm => HM5.out b (by omega) (HMINE.out b hb hm)
          · exact (HBEL.out.trans HB5.out).alloc (by have := HBEL.out.size; have := HB5.out.size; have := SZ.out; omega) _
        case measure => simp [intOf]; omega
      · have hS2 : R.Same S := by
          have := HSAME.out
          rw [hfk, runR_stop (by rw [← hS.out]; exact hnd), ← hS.out] at this
          exact this
        have hnd1 : (S.nd != 0) = true := by simpa using hnd
        have HS2 : Hid (_) := hS2
        clear hc hok hsame hbk hfar hmine hbel hm0 hS hnd hS2 hfk
        go_wp2_with (go_at_call 139; refine hcall.mono ?_; clear hcall; rintro y w5 ⟨M5, hsm, rfl, hcore, hb5, hf5, hm5⟩; have HSM : Hid (_) := hsm; have HC5 : Hid (_) := hcore; have HB5 : Hid (_) := hb5; have HF5 : Hid (FarSame M0 cb wr w5) := hf5; have HM5 : Hid (MineSub M0 M5 wr.heap.size) := hm5; have hb6 := (hf5 _ lR HM0.out hRc).trans HBK.out; have r0 : w5.cell? ⟨w.heap.size, 0, none⟩ = some (.int .i64 0) := (by simp [World.cell?, hb6]); have r1 : w5.cell? ⟨w.heap.size, 1, none⟩ = some (.int .i64 0) := (by simp [World.cell?, hb6]); have f0 := frozen_of_block hb6 0; have f1 := frozen_of_block hb6 1; have l5 := lt_of_cell r0; dsimp only at l5; clear hb6 hsm hcore hb5 hf5 hm5)
        refine bp_genR fun V9 hV9 => ?_
        have sz9 : ((w5.setCell ⟨w.heap.size, 0, none⟩ (.int .i64 S.nd)).setCell ⟨w.heap.size, 1, none⟩ (.int .i64 S.v)).heap.size = w5.heap.size := by simp [World.setCell]
        obtain ⟨q0, q1⟩ := blk2R (v0 := .int .i64 S.nd) (v1 := .int .i64 S.v) r0 r1
        have k0 : V9.cell? ⟨w.heap.size, 0, none⟩ = some (.int .i64 S.nd) := by rw [hV9, World.cell?_alloc_past _ _ _ (by rw [sz9]; exact l5)]; exact q0
        have k1 : V9.cell? ⟨w.heap.size, 1, none⟩ = some (.int .i64 S.v) := by rw [hV9, World.cell?_alloc_past _ _ _ (by rw [sz9]; exact l5)]; exact q1
        have hm5 : ¬ Mine M5 w.heap.size := HM5.out _ lR HM0.out
        have HC9 : Core n0 V9 cb M5 ((m : Int) + 1) S.pc S.rs := by rw [hV9]; exact ((HC5.out.far hm5 hRc 0 _).far hm5 hRc 1 _).keep ((Below.refl _ _).alloc (Nat.le_refl _) _)
        have HB9 : Below n0 w V9 := by rw [hV9]; exact (((HBEL.out.trans HB5.out).setCell SZ.out _).setCell SZ.out _).alloc (by rw [sz9]; have := HBEL.out.size; have := HB5.out.size; have := SZ.out; omega) _
        have HF9 : FarSame M cb w V9 := by
          rw [hV9]
          exact (((HFAR.out.trans HBEL.out.size (fun b hb hm => HMINE.out b (by omega) hm) HF5.out).set (.inl (Nat.le_refl _)) 0 _).set (.inl (Nat.le_refl _)) 1 _).below (by rw [sz9]; have := HBEL.out.size; have := HB5.out.size; omega) ((Below.refl _ _).alloc (Nat.le_refl _) _)
        clear hV9
        (try simp only [Exit.inBlock, Exit.then])
        refine bodyPost_ret (by simp [results, Tryz.results113, go_sem, k0, k1]; try rfl) rfl ?_
        refine ⟨M5, HSM.out.trans HS2.out.M.symm, by rw [HS2.out.nd, HS2.out.v], ?_, HB9, HF9, fun b hb hm => HM5.out b (by have := HBEL.out.size; omega) (HMINE.out b (by omega) hm)⟩
        rw [HS2.out.pc, HS2.out.rs]
        exact HC9
    · have hkl : k = f := by omega
      have hge : ¬ ((k : Int) < (f : Int)) := by omega
      have hS2 : R.Same ⟨M0, pc0, rs0, 2, 0⟩ := by
        have := HSAME.out
        rw [show f - k = 0 by omega] at this
        exact this
      have HS2 : Hid (_) := hS2
      have HC5 : Hid (_) := hc
      have r0 : wr.cell? ⟨w.heap.size, 0, none⟩ = some (.int .i64 0) := by simp [World.cell?, hbk]
      have r1 : wr.cell? ⟨w.heap.size, 1, none⟩ = some (.int .i64 0) := by simp [World.cell?, hbk]
      have f0 := frozen_of_block hbk 0
      have f1 := frozen_of_block hbk 1
      clear hc hok hsame hbk hfar hmine hbel hm0 hS2 hkl
      go_wp2
      refine bp_genR fun V9 hV9 => ?_
      obtain ⟨k0, k1⟩ := blk2R (v0 := .int .i64 2) (v1 := .int .i64 0) r0 r1
      rw [← hV9] at k0 k1
      have HC9 : Core n0 V9 cb M0 ((m : Int) + 1) pc0 rs0 := by rw [hV9]; exact (HC5.out.far HM0.out hRc 0 _).far HM0.out hRc 1 _
      have HB9 : Below n0 w V9 := by rw [hV9]; exact (HBEL.out.setCell SZ.out _).setCell SZ.out _
      have HF9 : FarSame M cb w V9 := by rw [hV9]; exact (HFAR.out.set (.inl (Nat.le_refl _)) 0 _).set (.inl (Nat.le_refl _)) 1 _
      clear hV9
      (try simp only [Exit.inBlock, Exit.then])
      refine bodyPost_ret (by simp [results, Tryz.results113, go_sem, k0, k1]; try rfl) rfl ?_
      refine ⟨M0, HS2.out.M.symm, by rw [HS2.out.nd, HS2.out.v], ?_, HB9, HF9, fun b hb hm => HMINE.out b (by omega) hm⟩
      rw [HS2.out.pc, HS2.out.rs]
      exact HC9

end Go.Proofs.YtdngbojbpmdegaaGreatDoor
