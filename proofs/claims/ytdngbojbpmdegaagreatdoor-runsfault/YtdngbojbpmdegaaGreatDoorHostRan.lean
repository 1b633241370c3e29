/-
  Methods of a site (own work). The conditions: those of a site.
-/
import Derived.Test.YtdngbojbpmdegaaGreatDoorJHostSmall
namespace Go.Proofs.YtdngbojbpmdegaaGreatDoor
open Go.RowKit
set_option linter.unusedVariables false

/-- what a call answers that ran an enclave -/
def ranC (nd x : Int) : Int := if x = 0 then (if nd = 2 then 9 else if nd = 3 then 10 else 0) else x
def ranN (nd v x : Int) : Int := if x = 0 then (if nd = 2 then 0 else if nd = 3 then 0 else v) else 0

set_option maxRecDepth 100000 in
set_option maxHeartbeats 2000000 in
theorem ran_no {n0 : Nat} {w : World} {b : Nat} {M N : Mv} {C : Cv} (h : Site n0 w b M C) (hO : Owned n0 w N) (off : ¬ Mine N b) {v : Int} {nd x : Int} (hx : ¬ x = 0) :
    Calls Tryz.prog 103 #[.pointer (some ⟨b, 0, none⟩), N.val, .agg #[.int .i64 nd, .int .i64 v], .int .i64 x] w fun y w' => y = .returned (.agg #[.int .i64 x, .int .i64 0]) ∧ Site n0 w' b M C ∧ Far b w w' := by
  unfold Mv.val
  obtain ⟨W2, hW2⟩ : ∃ W2, Hid (W2 = ((w.alloc (.cells #[.slice N.fa N.frs.length N.fcap, .slice N.ea N.ens.length N.ecap, .slice N.qa N.qus.length N.qcap] 29)).alloc (.cells #[.int .i64 nd, .int .i64 v] 47)).alloc (.cells #[.int .i64 0, .int .i64 0] 39)) := ⟨_, rfl⟩
  obtain ⟨bw, q1, q3, q2⟩ := al3w w (.cells #[.slice N.fa N.frs.length N.fcap, .slice N.ea N.ens.length N.ecap, .slice N.qa N.qus.length N.qcap] 29) (.cells #[.int .i64 nd, .int .i64 v] 47) (.cells #[.int .i64 0, .int .i64 0] 39)
  rw [← hW2.out] at bw q1 q2 q3
  have BW : Hid (_) := bw
  have HST : Hid (Site n0 W2 b M C) := h.keep bw
  have HON : Hid (Owned n0 W2 N ∧ ¬ Mine N b ∧ ¬ Mine N (w.heap.size + 1 + 1)) := ⟨hO.below bw, off, fun q => by have := (Mine.fresh hO q).2; omega⟩
  have HNR : Hid (¬ (w.heap.size + 1 + 1 = b ∨ Mine M (w.heap.size + 1 + 1) ∨ MineC C (w.heap.size + 1 + 1))) := h.new (by omega)
  have hbl : b < w.heap.size := h.lt
  have nb : w.heap.size + 1 + 1 ≠ b := by omega
  have nb2 : w.heap.size ≠ b := by omega
  have nb3 : w.heap.size + 1 ≠ b := by omega
  have p0 : W2.cell? ⟨w.heap.size, 0, none⟩ = some (.slice N.fa N.frs.length N.fcap) := by simp [World.cell?, q1]
  have p1 : W2.cell? ⟨w.heap.size, 1, none⟩ = some (.slice N.ea N.ens.length N.ecap) := by simp [World.cell?, q1]
  have p2 : W2.cell? ⟨w.heap.size, 2, none⟩ = some (.slice N.qa N.qus.length N.qcap) := by simp [World.cell?, q1]
  have pl : w.heap.size < W2.heap.size := lt_of_cell p0
  have o0 : W2.cell? ⟨w.heap.size + 1, 0, none⟩ = some (.int .i64 nd) := by simp [World.cell?, q3]
  have o1 : W2.cell? ⟨w.heap.size + 1, 1, none⟩ = some (.int .i64 v) := by simp [World.cell?, q3]
  have ol : w.heap.size + 1 < W2.heap.size := lt_of_cell o0
  have r0 : W2.cell? ⟨w.heap.size + 1 + 1, 0, none⟩ = some (.int .i64 0) := by simp [World.cell?, q2]
  have r1 : W2.cell? ⟨w.heap.size + 1 + 1, 1, none⟩ = some (.int .i64 0) := by simp [World.cell?, q2]
  have rl : w.heap.size + 1 + 1 < W2.heap.size := lt_of_cell r0
  have rf0 := frozen_of_block q2 0
  have rf1 := frozen_of_block q2 1
  have s0 := HST.out.c0
  have sf0 := HST.out.fz 0
  have s1 := HST.out.c1
  have sf1 := HST.out.fz 1
  have s2 := HST.out.c2
  have sf2 := HST.out.fz 2
  have sl := HST.out.lt
  have hx1 : (x != 0) = true := by simpa using hx
  clear h hO off bw q1 q2 q3 hx
  go_enter Tryz.func103, Tryz.ntmps103
  go_upto_region 1 with fail
  rw [← hW2.out]
  clear hW2
  go_wp2
  refine bp_genR fun V9 hV9 => ?_
  obtain ⟨k9, k0, k1⟩ := HST.out.ans HNR.out r0 r1 hV9
  have F9 : Far b w V9 := by rw [hV9]; exact ((Far.of_below BW.out).set (.inr (by omega)) 0 _).set (.inr (by omega)) 1 _
  clear hV9
  (try simp only [Exit.inBlock, Exit.then])
  refine bodyPost_ret (by simp [results, Tryz.results103, go_sem, k0, k1]; try rfl) rfl ?_
  exact ⟨rfl, k9, F9⟩

set_option maxRecDepth 100000 in
set_option maxHeartbeats 2000000 in
theorem ran_held {n0 : Nat} {w : World} {b : Nat} {M N : Mv} {C : Cv} (h : Site n0 w b M C) (hO : Owned n0 w N) (off : ¬ Mine N b) {v : Int} :
    Calls Tryz.prog 103 #[.pointer (some ⟨b, 0, none⟩), N.val, .agg #[.int .i64 2, .int .i64 v], .int .i64 0] w fun y w' => y = .returned (.agg #[.int .i64 9, .int .i64 0]) ∧ Site n0 w' b N C ∧ Far b w w' := by
  unfold Mv.val
  obtain ⟨W2, hW2⟩ : ∃ W2, Hid (W2 = ((w.alloc (.cells #[.slice N.fa N.frs.length N.fcap, .slice N.ea N.ens.length N.ecap, .slice N.qa N.qus.length N.qcap] 29)).alloc (.cells #[.int .i64 2, .int .i64 v] 47)).alloc (.cells #[.int .i64 0, .int .i64 0] 39)) := ⟨_, rfl⟩
  obtain ⟨bw, q1, q3, q2⟩ := al3w w (.cells #[.slice N.fa N.frs.length N.fcap, .slice N.ea N.ens.length N.ecap, .slice N.qa N.qus.length N.qcap] 29) (.cells #[.int .i64 2, .int .i64 v] 47) (.cells #[.int .i64 0, .int .i64 0] 39)
  rw [← hW2.out] at bw q1 q2 q3
  have BW : Hid (_) := bw
  have HST : Hid (Site n0 W2 b M C) := h.keep bw
  have HON : Hid (Owned n0 W2 N ∧ ¬ Mine N b ∧ ¬ Mine N (w.heap.size + 1 + 1)) := ⟨hO.below bw, off, fun q => by have := (Mine.fresh hO q).2; omega⟩
  have HNR : Hid (¬ (w.heap.size + 1 + 1 = b ∨ Mine M (w.heap.size + 1 + 1) ∨ MineC C (w.heap.size + 1 + 1))) := h.new (by omega)
  have hbl : b < w.heap.size := h.lt
  have nb : w.heap.size + 1 + 1 ≠ b := by omega
  have nb2 : w.heap.size ≠ b := by omega
  have nb3 : w.heap.size + 1 ≠ b := by omega
  have p0 : W2.cell? ⟨w.heap.size, 0, none⟩ = some (.slice N.fa N.frs.length N.fcap) := by simp [World.cell?, q1]
  have p1 : W2.cell? ⟨w.heap.size, 1, none⟩ = some (.slice N.ea N.ens.length N.ecap) := by simp [World.cell?, q1]
  have p2 : W2.cell? ⟨w.heap.size, 2, none⟩ = some (.slice N.qa N.qus.length N.qcap) := by simp [World.cell?, q1]
  have pl : w.heap.size < W2.heap.size := lt_of_cell p0
  have o0 : W2.cell? ⟨w.heap.size + 1, 0, none⟩ = some (.int .i64 2) := by simp [World.cell?, q3]
  have o1 : W2.cell? ⟨w.heap.size + 1, 1, none⟩ = some (.int .i64 v) := by simp [World.cell?, q3]
  have ol : w.heap.size + 1 < W2.heap.size := lt_of_cell o0
  have r0 : W2.cell? ⟨w.heap.size + 1 + 1, 0, none⟩ = some (.int .i64 0) := by simp [World.cell?, q2]
  have r1 : W2.cell? ⟨w.heap.size + 1 + 1, 1, none⟩ = some (.int .i64 0) := by simp [World.cell?, q2]
  have rl : w.heap.size + 1 + 1 < W2.heap.size := lt_of_cell r0
  have rf0 := frozen_of_block q2 0
  have rf1 := frozen_of_block q2 1
  have s0 := HST.out.c0
  have sf0 := HST.out.fz 0
  have s1 := HST.out.c1
  have sf1 := HST.out.fz 1
  have s2 := HST.out.c2
  have sf2 := HST.out.fz 2
  have sl := HST.out.lt
  clear h hO off bw q1 q2 q3
  go_enter Tryz.func103, Tryz.ntmps103
  go_upto_region 1 with fail
  rw [← hW2.out]
  clear hW2
  go_wp2
  refine bp_genR fun V9 hV9 => ?_
  have s3 := HST.out.putM HON.out.1 HON.out.2.1
  have hh := blk3_heap (w := W2) (b := b) (v0 := .slice N.fa N.frs.length N.fcap) (v1 := .slice N.ea N.ens.length N.ecap) (v2 := .slice N.qa N.qus.length N.qcap) (w.heap.size + 1 + 1) nb
  have F3 : Far b w (((W2.setCell ⟨b, 0, none⟩ (.slice N.fa N.frs.length N.fcap)).setCell ⟨b, 1, none⟩ (.slice N.ea N.ens.length N.ecap)).setCell ⟨b, 2, none⟩ (.slice N.qa N.qus.length N.qcap)) := (((Far.of_below BW.out).set (.inl rfl) 0 _).set (.inl rfl) 1 _).set (.inl rfl) 2 _
  generalize ((W2.setCell ⟨b, 0, none⟩ (.slice N.fa N.frs.length N.fcap)).setCell ⟨b, 1, none⟩ (.slice N.ea N.ens.length N.ecap)).setCell ⟨b, 2, none⟩ (.slice N.qa N.qus.length N.qcap) = V3 at hV9 s3 hh F3
  obtain ⟨k9, k0, k1⟩ := s3.ans (R := w.heap.size + 1 + 1) (by rintro (q | q | q); exact nb q; exact HON.out.2.2 q; exact HNR.out (.inr (.inr q))) ((World.cell?_of_block hh).trans r0) ((World.cell?_of_block hh).trans r1) hV9
  have F9 : Far b w V9 := by rw [hV9]; exact (F3.set (.inr (by omega)) 0 _).set (.inr (by omega)) 1 _
  clear hV9
  (try simp only [Exit.inBlock, Exit.then])
  refine bodyPost_ret (by simp [results, Tryz.results103, go_sem, k0, k1]; try rfl) rfl ?_
  exact ⟨rfl, k9, F9⟩

set_option maxRecDepth 100000 in
set_option maxHeartbeats 2000000 in
theorem ran_fault {n0 : Nat} {w : World} {b : Nat} {M N : Mv} {C : Cv} (h : Site n0 w b M C) (hO : Owned n0 w N) (off : ¬ Mine N b) {v : Int} :
    Calls Tryz.prog 103 #[.pointer (some ⟨b, 0, none⟩), N.val, .agg #[.int .i64 3, .int .i64 v], .int .i64 0] w fun y w' => y = .returned (.agg #[.int .i64 10, .int .i64 0]) ∧ Site n0 w' b N C ∧ Far b w w' := by
  unfold Mv.val
  obtain ⟨W2, hW2⟩ : ∃ W2, Hid (W2 = ((w.alloc (.cells #[.slice N.fa N.frs.length N.fcap, .slice N.ea N.ens.length N.ecap, .slice N.qa N.qus.length N.qcap] 29)).alloc (.cells #[.int .i64 3, .int .i64 v] 47)).alloc (.cells #[.int .i64 0, .int .i64 0] 39)) := ⟨_, rfl⟩
  obtain ⟨bw, q1, q3, q2⟩ := al3w w (.cells #[.slice N.fa N.frs.length N.fcap, .slice N.ea N.ens.length N.ecap, .slice N.qa N.qus.length N.qcap] 29) (.cells #[.int .i64 3, .int .i64 v] 47) (.cells #[.int .i64 0, .int .i64 0] 39)
  rw [← hW2.out] at bw q1 q2 q3
  have BW : Hid (_) := bw
  have HST : Hid (Site n0 W2 b M C) := h.keep bw
  have HON : Hid (Owned n0 W2 N ∧ ¬ Mine N b ∧ ¬ Mine N (w.heap.size + 1 + 1)) := ⟨hO.below bw, off, fun q => by have := (Mine.fresh hO q).2; omega⟩
  have HNR : Hid (¬ (w.heap.size + 1 + 1 = b ∨ Mine M (w.heap.size + 1 + 1) ∨ MineC C (w.heap.size + 1 + 1))) := h.new (by omega)
  have hbl : b < w.heap.size := h.lt
  have nb : w.heap.size + 1 + 1 ≠ b := by omega
  have nb2 : w.heap.size ≠ b := by omega
  have nb3 : w.heap.size + 1 ≠ b := by omega
  have p0 : W2.cell? ⟨w.heap.size, 0, none⟩ = some (.slice N.fa N.frs.length N.fcap) := by simp [World.cell?, q1]
  have p1 : W2.cell? ⟨w.heap.size, 1, none⟩ = some (.slice N.ea N.ens.length N.ecap) := by simp [World.cell?, q1]
  have p2 : W2.cell? ⟨w.heap.size, 2, none⟩ = some (.slice N.qa N.qus.length N.qcap) := by simp [World.cell?, q1]
  have pl : w.heap.size < W2.heap.size := lt_of_cell p0
  have o0 : W2.cell? ⟨w.heap.size + 1, 0, none⟩ = some (.int .i64 3) := by simp [World.cell?, q3]
  have o1 : W2.cell? ⟨w.heap.size + 1, 1, none⟩ = some (.int .i64 v) := by simp [World.cell?, q3]
  have ol : w.heap.size + 1 < W2.heap.size := lt_of_cell o0
  have r0 : W2.cell? ⟨w.heap.size + 1 + 1, 0, none⟩ = some (.int .i64 0) := by simp [World.cell?, q2]
  have r1 : W2.cell? ⟨w.heap.size + 1 + 1, 1, none⟩ = some (.int .i64 0) := by simp [World.cell?, q2]
  have rl : w.heap.size + 1 + 1 < W2.heap.size := lt_of_cell r0
  have rf0 := frozen_of_block q2 0
  have rf1 := frozen_of_block q2 1
  have s0 := HST.out.c0
  have sf0 := HST.out.fz 0
  have s1 := HST.out.c1
  have sf1 := HST.out.fz 1
  have s2 := HST.out.c2
  have sf2 := HST.out.fz 2
  have sl := HST.out.lt
  clear h hO off bw q1 q2 q3
  go_enter Tryz.func103, Tryz.ntmps103
  go_upto_region 1 with fail
  rw [← hW2.out]
  clear hW2
  go_wp2
  refine bp_genR fun V9 hV9 => ?_
  have s3 := HST.out.putM HON.out.1 HON.out.2.1
  have hh := blk3_heap (w := W2) (b := b) (v0 := .slice N.fa N.frs.length N.fcap) (v1 := .slice N.ea N.ens.length N.ecap) (v2 := .slice N.qa N.qus.length N.qcap) (w.heap.size + 1 + 1) nb
  have F3 : Far b w (((W2.setCell ⟨b, 0, none⟩ (.slice N.fa N.frs.length N.fcap)).setCell ⟨b, 1, none⟩ (.slice N.ea N.ens.length N.ecap)).setCell ⟨b, 2, none⟩ (.slice N.qa N.qus.length N.qcap)) := (((Far.of_below BW.out).set (.inl rfl) 0 _).set (.inl rfl) 1 _).set (.inl rfl) 2 _
  generalize ((W2.setCell ⟨b, 0, none⟩ (.slice N.fa N.frs.length N.fcap)).setCell ⟨b, 1, none⟩ (.slice N.ea N.ens.length N.ecap)).setCell ⟨b, 2, none⟩ (.slice N.qa N.qus.length N.qcap) = V3 at hV9 s3 hh F3
  obtain ⟨k9, k0, k1⟩ := s3.ans (R := w.heap.size + 1 + 1) (by rintro (q | q | q); exact nb q; exact HON.out.2.2 q; exact HNR.out (.inr (.inr q))) ((World.cell?_of_block hh).trans r0) ((World.cell?_of_block hh).trans r1) hV9
  have F9 : Far b w V9 := by rw [hV9]; exact (F3.set (.inr (by omega)) 0 _).set (.inr (by omega)) 1 _
  clear hV9
  (try simp only [Exit.inBlock, Exit.then])
  refine bodyPost_ret (by simp [results, Tryz.results103, go_sem, k0, k1]; try rfl) rfl ?_
  exact ⟨rfl, k9, F9⟩

set_option maxRecDepth 100000 in
set_option maxHeartbeats 2000000 in
theorem ran_done {n0 : Nat} {w : World} {b : Nat} {M N : Mv} {C : Cv} (h : Site n0 w b M C) (hO : Owned n0 w N) (off : ¬ Mine N b) {v : Int} {nd : Int} (h2 : ¬ nd = 2) (h3 : ¬ nd = 3) :
    Calls Tryz.prog 103 #[.pointer (some ⟨b, 0, none⟩), N.val, .agg #[.int .i64 nd, .int .i64 v], .int .i64 0] w fun y w' => y = .returned (.agg #[.int .i64 0, .int .i64 v]) ∧ Site n0 w' b N C ∧ Far b w w' := by
  unfold Mv.val
  obtain ⟨W2, hW2⟩ : ∃ W2, Hid (W2 = ((w.alloc (.cells #[.slice N.fa N.frs.length N.fcap, .slice N.ea N.ens.length N.ecap, .slice N.qa N.qus.length N.qcap] 29)).alloc (.cells #[.int .i64 nd, .int .i64 v] 47)).alloc (.cells #[.int .i64 0, .int .i64 0] 39)) := ⟨_, rfl⟩
  obtain ⟨bw, q1, q3, q2⟩ := al3w w (.cells #[.slice N.fa N.frs.length N.fcap, .slice N.ea N.ens.length N.ecap, .slice N.qa N.qus.length N.qcap] 29) (.cells #[.int .i64 nd, .int .i64 v] 47) (.cells #[.int .i64 0, .int .i64 0] 39)
  rw [← hW2.out] at bw q1 q2 q3
  have BW : Hid (_) := bw
  have HST : Hid (Site n0 W2 b M C) := h.keep bw
  have HON : Hid (Owned n0 W2 N ∧ ¬ Mine N b ∧ ¬ Mine N (w.heap.size + 1 + 1)) := ⟨hO.below bw, off, fun q => by have := (Mine.fresh hO q).2; omega⟩
  have HNR : Hid (¬ (w.heap.size + 1 + 1 = b ∨ Mine M (w.heap.size + 1 + 1) ∨ MineC C (w.heap.size + 1 + 1))) := h.new (by omega)
  have hbl : b < w.heap.size := h.lt
  have nb : w.heap.size + 1 + 1 ≠ b := by omega
  have nb2 : w.heap.size ≠ b := by omega
  have nb3 : w.heap.size + 1 ≠ b := by omega
  have p0 : W2.cell? ⟨w.heap.size, 0, none⟩ = some (.slice N.fa N.frs.length N.fcap) := by simp [World.cell?, q1]
  have p1 : W2.cell? ⟨w.heap.size, 1, none⟩ = some (.slice N.ea N.ens.length N.ecap) := by simp [World.cell?, q1]
  have p2 : W2.cell? ⟨w.heap.size, 2, none⟩ = some (.slice N.qa N.qus.length N.qcap) := by simp [World.cell?, q1]
  have pl : w.heap.size < W2.heap.size := lt_of_cell p0
  have o0 : W2.cell? ⟨w.heap.size + 1, 0, none⟩ = some (.int .i64 nd) := by simp [World.cell?, q3]
  have o1 : W2.cell? ⟨w.heap.size + 1, 1, none⟩ = some (.int .i64 v) := by simp [World.cell?, q3]
  have ol : w.heap.size + 1 < W2.heap.size := lt_of_cell o0
  have r0 : W2.cell? ⟨w.heap.size + 1 + 1, 0, none⟩ = some (.int .i64 0) := by simp [World.cell?, q2]
  have r1 : W2.cell? ⟨w.heap.size + 1 + 1, 1, none⟩ = some (.int .i64 0) := by simp [World.cell?, q2]
  have rl : w.heap.size + 1 + 1 < W2.heap.size := lt_of_cell r0
  have rf0 := frozen_of_block q2 0
  have rf1 := frozen_of_block q2 1
  have s0 := HST.out.c0
  have sf0 := HST.out.fz 0
  have s1 := HST.out.c1
  have sf1 := HST.out.fz 1
  have s2 := HST.out.c2
  have sf2 := HST.out.fz 2
  have sl := HST.out.lt
  have h21 : (nd == 2) = false := by simpa using h2
  have h31 : (nd == 3) = false := by simpa using h3
  clear h hO off bw q1 q2 q3 h2 h3
  go_enter Tryz.func103, Tryz.ntmps103
  go_upto_region 1 with fail
  rw [← hW2.out]
  clear hW2
  go_wp2
  refine bp_genR fun V9 hV9 => ?_
  have s3 := HST.out.putM HON.out.1 HON.out.2.1
  have hh := blk3_heap (w := W2) (b := b) (v0 := .slice N.fa N.frs.length N.fcap) (v1 := .slice N.ea N.ens.length N.ecap) (v2 := .slice N.qa N.qus.length N.qcap) (w.heap.size + 1 + 1) nb
  have F3 : Far b w (((W2.setCell ⟨b, 0, none⟩ (.slice N.fa N.frs.length N.fcap)).setCell ⟨b, 1, none⟩ (.slice N.ea N.ens.length N.ecap)).setCell ⟨b, 2, none⟩ (.slice N.qa N.qus.length N.qcap)) := (((Far.of_below BW.out).set (.inl rfl) 0 _).set (.inl rfl) 1 _).set (.inl rfl) 2 _
  generalize ((W2.setCell ⟨b, 0, none⟩ (.slice N.fa N.frs.length N.fcap)).setCell ⟨b, 1, none⟩ (.slice N.ea N.ens.length N.ecap)).setCell ⟨b, 2, none⟩ (.slice N.qa N.qus.length N.qcap) = V3 at hV9 s3 hh F3
  obtain ⟨k9, k0, k1⟩ := s3.ans (R := w.heap.size + 1 + 1) (by rintro (q | q | q); exact nb q; exact HON.out.2.2 q; exact HNR.out (.inr (.inr q))) ((World.cell?_of_block hh).trans r0) ((World.cell?_of_block hh).trans r1) hV9
  have F9 : Far b w V9 := by rw [hV9]; exact (F3.set (.inr (by omega)) 0 _).set (.inr (by omega)) 1 _
  clear hV9
  (try simp only [Exit.inBlock, Exit.then])
  refine bodyPost_ret (by simp [results, Tryz.results103, go_sem, k0, k1]; try rfl) rfl ?_
  exact ⟨rfl, k9, F9⟩

theorem ranS_any {n0 : Nat} {w : World} {b : Nat} {M N : Mv} {C : Cv} (h : Site n0 w b M C) (hO : Owned n0 w N) (off : ¬ Mine N b) (nd v x : Int) :
    Calls Tryz.prog 103 #[.pointer (some ⟨b, 0, none⟩), N.val, .agg #[.int .i64 nd, .int .i64 v], .int .i64 x] w fun y w' => ∃ M', M' = (if x = 0 then N else M) ∧ y = .returned (.agg #[.int .i64 (ranC nd x), .int .i64 (ranN nd v x)]) ∧ Site n0 w' b M' C ∧ Far b w w' := by
  by_cases hx : x = 0
  · subst hx
    by_cases h2 : nd = 2
    · subst h2
      exact (ran_held h hO off).mono fun y w' ⟨a, p, c⟩ => ⟨N, (by rw [if_pos rfl]), a.trans rfl, p, c⟩
    · by_cases h3 : nd = 3
      · subst h3
        exact (ran_fault h hO off).mono fun y w' ⟨a, p, c⟩ => ⟨N, (by rw [if_pos rfl]), a.trans rfl, p, c⟩
      · exact (ran_done h hO off h2 h3).mono fun y w' ⟨a, p, c⟩ => ⟨N, (by rw [if_pos rfl]), (by rw [a]; unfold ranC ranN; rw [if_pos rfl, if_pos rfl, if_neg h2, if_neg h2, if_neg h3, if_neg h3]), p, c⟩
  · exact (ran_no h hO off hx).mono fun y w' ⟨a, p, c⟩ => ⟨M, (by rw [if_neg hx]), (by rw [a]; unfold ranC ranN; rw [if_neg hx, if_neg hx]), p, c⟩

end Go.Proofs.YtdngbojbpmdegaaGreatDoor
