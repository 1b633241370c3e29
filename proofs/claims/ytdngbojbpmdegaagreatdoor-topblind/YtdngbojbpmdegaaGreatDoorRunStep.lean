/-
  What the call step of package run does (own work): one instruction. The conditions: the core holds a machine that may be, an address and registers that may be.
-/
import Derived.Test.YtdngbojbpmdegaaGreatDoorRunSay
namespace Go.Proofs.YtdngbojbpmdegaaGreatDoor
open Go.RowKit

theorem reg_nat {x : Int} (_h : 0 ≤ x) : x / 16 % 4 = (regA x : Int) ∧ x / 256 % 4 = (regB x : Int) ∧ regA x < 4 ∧ regB x < 4 := by
  unfold regA regB
  omega
theorem one_true (w : World) : Calls Tryz.prog 148 #[.bool true] w fun x w' => x = .returned (.int .i64 1) ∧ w = w' := oneIf_run true w
theorem one_false (w : World) : Calls Tryz.prog 148 #[.bool false] w fun x w' => x = .returned (.int .i64 0) ∧ w = w' := oneIf_run false w
theorem cell_off {w : World} {b c : Nat} (h : c ≠ b) (o i : Nat) (v : Value) : (w.setCell ⟨b, o, none⟩ v).cell? ⟨c, i, none⟩ = w.cell? ⟨c, i, none⟩ := World.cell?_setCell_other _ _ _ _ (by intro q; simp only [Addr.mk.injEq] at q; exact h q.1.symm)
theorem wp_name {P : Program} {c : Code} {Q : Exit → Act → World → Prop} {a : Act} {W : World} (h : ∀ V, Hid (V = W) → Code.wp P c Q a V) : Code.wp P c Q a W := h _ rfl
theorem kk_cases (k : Int) : k = 1 ∨ k = 2 ∨ k = 3 ∨ k = 4 ∨ k = 5 ∨ k = 6 ∨ k = 7 ∨ k = 8 ∨ k = 9 ∨ (k == 1) = false ∧ (k == 2) = false ∧ (k == 3) = false ∧ (k == 4) = false ∧ (k == 5) = false ∧ (k == 6) = false ∧ (k == 7) = false ∧ (k == 8) = false ∧ (k == 9) = false := by
  simp only [beq_eq_false_iff_ne]
  omega
/-- the walk stops at the return -/
structure Kept (p : Prop) : Prop where
  out : p
theorem kept_bp {P : Program} {f : Func} {Q : Ending → World → Prop} {ex : Exit} {a : Act} {W : World} (h : Kept (bodyPost P f Q ex a W)) : bodyPost P f Q ex a W := h.out
/-- the answer's two cells are stored -/
theorem step_end {n0 : Nat} {w X V : World} {cb : Nat} {M N : Mv} {e pc : Int} {rs : List Int} {v0 v1 x0 x1 : Value} (hV : V = (X.setCell ⟨w.heap.size, 0, none⟩ v0).setCell ⟨w.heap.size, 1, none⟩ v1) (hC : Core n0 X cb N e pc rs) (hB : Below n0 w X) (hF : FarSame M cb w X) (hn : n0 ≤ w.heap.size) (hM : ¬ Mine N w.heap.size) (hc : w.heap.size ≠ cb) (h0 : X.cell? ⟨w.heap.size, 0, none⟩ = some x0) (h1 : X.cell? ⟨w.heap.size, 1, none⟩ = some x1) :
    (V.cell? ⟨w.heap.size, 0, none⟩ = some v0 ∧ V.cell? ⟨w.heap.size, 1, none⟩ = some v1) ∧ Core n0 V cb N e pc rs ∧ Below n0 w V ∧ FarSame M cb w V := by
  rw [hV]
  exact ⟨blk2R h0 h1, (hC.far hM hc 0 _).far hM hc 1 _, (hB.setCell hn _).setCell hn _, (hF.set (.inl (Nat.le_refl _)) 0 _).set (.inl (Nat.le_refl _)) 1 _⟩

set_option maxRecDepth 100000 in
set_option maxHeartbeats 100000000 in
theorem step_go {n0 : Nat} {w : World} {cb : Nat} {M : Mv} {m : Nat} {pc : Int} {rs : List Int} (h : Core n0 w cb M ((m : Int) + 1) pc rs) (ho : RunOk M m pc rs) (hn0 : n0 ≤ w.heap.size) {x n : Int} {a1 a2 : Addr} (hf1 : wAddr M ((m : Int) + 1) pc 4 = some a1) (hf2 : wAddr M ((m : Int) + 1) (pc + 1) 4 = some a2)
    (hx : wordAt M (frmF M.frs ((m : Int) + 1) pc 4) pc = x) (hx2 : wordAt M (frmF M.frs ((m : Int) + 1) (pc + 1) 4) (pc + 1) = n) :
    Calls Tryz.prog 139 #[.pointer (some ⟨cb, 0, none⟩)] w fun y w' => ∃ M' : Mv, M'.Same (doR M m pc rs x n (fun a b => bits .xor .i64 a b)).M ∧ y = .returned (.agg #[.int .i64 (doR M m pc rs x n (fun a b => bits .xor .i64 a b)).nd, .int .i64 (doR M m pc rs x n (fun a b => bits .xor .i64 a b)).v]) ∧ Core n0 w' cb M' ((m : Int) + 1) (doR M m pc rs x n (fun a b => bits .xor .i64 a b)).pc (doR M m pc rs x n (fun a b => bits .xor .i64 a b)).rs ∧ Below n0 w w' ∧ FarSame M cb w w' ∧ MineSub M M' w.heap.size := by
  obtain ⟨e, he⟩ : ∃ e : Int, Hid (e = (m : Int) + 1) := ⟨_, rfl⟩
  rw [← he.out] at h hf1 hf2 hx hx2 ⊢
  obtain ⟨W2, hW2⟩ : ∃ W2, Hid (W2 = w.alloc (.cells #[.int .i64 0, .int .i64 0] 47)) := ⟨_, rfl⟩
  have BW : Hid (Below w.heap.size w W2) := by show Below _ _ _; rw [hW2.out]; exact (Below.refl _ _).alloc (Nat.le_refl _) _
  have hblk : W2.heap[w.heap.size]? = some (.cells #[.int .i64 0, .int .i64 0] 47 (0, 0)) := by rw [hW2.out]; exact Go.Deep.blk_alloc_new _ _
  have rl : w.heap.size < W2.heap.size := (Array.getElem?_eq_some_iff.1 hblk).1
  have RB : Hid (∀ w', Below W2.heap.size W2 w' → w'.heap[w.heap.size]? = some (.cells #[.int .i64 0, .int .i64 0] 47 (0, 0))) := fun w' h => (h.block _ rl).trans hblk
  have hMR : Hid (¬ Mine M w.heap.size) := fun q => by have := (Mine.fresh h.own q).2; omega
  have hRc : w.heap.size ≠ cb := by have := h.at_.lt; omega
  have HC2 : Hid (Core n0 W2 cb M e pc rs) := h.keep BW.out
  have hF := fetch_some M e pc x n rs cb W2 HC2.out.at_ HC2.out.own.at_ ho.good ho.pc.1 ho.pc.2 hf1 hf2 hx hx2
  have hxb : 0 ≤ x := by
    obtain ⟨_, _, _, k, hk, hfk, _⟩ := wAddr_word h.own.at_ ho.good ho.pc.1 hf1
    have := wordAt_in ho.good hk pc
    rw [← hfk, hx] at this
    exact this.1
  obtain ⟨ea, eb, la, lb⟩ := reg_nat hxb
  have hpc := run_at (wAddr_word h.own.at_ ho.good ho.pc.1 hf1).2.2.1 ho.pc.1
  have hN : 0 ≤ n ∧ n ≤ 65535 := by
    obtain ⟨_, _, _, k, hk, hfk, _⟩ := wAddr_word h.own.at_ ho.good (n := pc + 1) (by have := ho.pc; omega) hf2
    have := wordAt_in ho.good hk (pc + 1)
    rw [← hfk, hx2] at this
    exact this
  have hp2 : IntKind.i64.wrap (pc + 2) = pc + 2 := by rw [IntKind.wrap_i64]; have := ho.pc; omega
  obtain ⟨kk, hk⟩ : ∃ kk, x % 16 = kk := ⟨_, rfl⟩
  rw [hk, ea, eb] at hF
  obtain ⟨R, hR⟩ : ∃ R, Hid (R = doR M m pc rs x n (fun a b => bits .xor .i64 a b)) := ⟨_, rfl⟩
  rw [← hR.out]
  have hRR := hR.out
  unfold doR at hRR
  rw [show kindR x = kk from hk] at hRR
  have hcr := ho.rs
  have hcl := ho.len
  generalize regA x = a at hRR ea la hF
  generalize regB x = b at hRR eb lb hF
  obtain ⟨ra, hra⟩ : ∃ ra, Hid (rs.getD a 0 = ra) := ⟨_, rfl⟩
  obtain ⟨rb, hrb⟩ : ∃ rb, Hid (rs.getD b 0 = rb) := ⟨_, rfl⟩
  have hba := hcr a
  have hbb := hcr b
  rw [hra.out] at hba hRR
  rw [hrb.out] at hbb hRR
  have HO : Hid (_) := ho
  have HRR : Hid (_) := hRR
  have HLA : Hid (a < 4) := la
  have HLB : Hid (b < 4) := lb
  have ha4 : (a : Int) < 4 := by omega
  have hb4 : (b : Int) < 4 := by omega
  clear hRR hR hf1 hf2 hx hx2 hk ea eb ho hcr hblk h la lb
  go_enter Tryz.func139, Tryz.ntmps139
  go_upto_region 1 with fail
  rw [← hW2.out]
  go_upto_region 5 with (go_at_call 146; refine hF.mono ?_; clear hF; rintro y W1 ⟨rfl, hb⟩; have HB1 : Hid (_) := hb; have hC1 := HC2.out.keep hb; have p4 := hC1.at_.c4; have pf := hC1.at_.fz 4; have pl := hC1.at_.lt; clear hb hC1)
  refine wp_name fun V3 hV3 => ?_
  have hs1 : (W1.setCell ⟨cb, 4, none⟩ (.int .i64 (pc + 2))).heap.size = W1.heap.size := by simp [World.setCell]
  have HC1 : Hid (Core n0 W1 cb M e pc rs) := HC2.out.keep HB1.out
  have HC3 : Hid (Core n0 V3 cb M e (pc + 2) rs) := by show Core _ _ _ _ _ _ _; rw [hV3.out]; exact (HC1.out.pcSet (pc + 2)).keep ((Below.refl _ _).alloc (Nat.le_refl _) _)
  have hib : V3.heap[W1.heap.size]? = some (.cells #[.int .i64 kk, .int .i64 (a : Int), .int .i64 (b : Int), .int .i64 n] 184 (0, 0)) := by
    rw [hV3.out, ← hs1]; exact Go.Deep.blk_alloc_new _ _
  have hrb' : V3.heap[w.heap.size]? = some (.cells #[.int .i64 0, .int .i64 0] 47 (0, 0)) := by
    have h1 := RB.out W1 HB1.out
    have h2 : w.heap.size < W1.heap.size := (Array.getElem?_eq_some_iff.1 h1).1
    rw [hV3.out, Below.heap_alloc _ _ _ (by rw [hs1]; exact h2), Below.heap_setCell _ _ _ _ hRc]
    exact h1
  have HB3 : Hid (Below n0 w V3) := by
    show Below _ _ _
    rw [hV3.out]
    have q := (BW.out.mono hn0).trans (HB1.out.mono (by have := BW.out.size; omega))
    exact (q.setCell HC2.out.ge _).alloc (by rw [hs1]; have := q.size; omega) _
  have hIc : W1.heap.size ≠ cb := by have := HC1.out.at_.lt; omega
  have hIr : W1.heap.size ≠ w.heap.size := by have := HB1.out.size; have := rl; omega
  have FF : Hid (∀ V, Below V3.heap.size V3 V → V.cell? ⟨W1.heap.size, 0, none⟩ = some (.int .i64 kk) ∧ V.cell? ⟨W1.heap.size, 1, none⟩ = some (.int .i64 (a : Int)) ∧ V.cell? ⟨W1.heap.size, 2, none⟩ = some (.int .i64 (b : Int)) ∧ V.cell? ⟨W1.heap.size, 3, none⟩ = some (.int .i64 n) ∧ V.cell? ⟨cb, 5 + a, none⟩ = some (.int .i64 ra) ∧ V.cell? ⟨cb, 5 + b, none⟩ = some (.int .i64 rb) ∧ V.cell? ⟨cb, 4, none⟩ = some (.int .i64 (pc + 2)) ∧ V.cell? ⟨w.heap.size, 0, none⟩ = some (.int .i64 0) ∧ V.cell? ⟨w.heap.size, 1, none⟩ = some (.int .i64 0) ∧ V.frozen? ⟨cb, 5 + a, none⟩ = false ∧ V.frozen? ⟨cb, 4, none⟩ = false ∧ V.frozen? ⟨w.heap.size, 0, none⟩ = false ∧ V.frozen? ⟨w.heap.size, 1, none⟩ = false ∧ cb < V.heap.size ∧ w.heap.size < V.heap.size ∧ W1.heap.size < V.heap.size) := fun V hV => by
    have li : W1.heap.size < V3.heap.size := (Array.getElem?_eq_some_iff.1 hib).1
    have lr : w.heap.size < V3.heap.size := (Array.getElem?_eq_some_iff.1 hrb').1
    have hib2 := (hV.block _ li).trans hib
    have hrb2 := (hV.block _ lr).trans hrb'
    have c := HC3.out.keep hV
    have ga := c.at_.cr a HLA.out
    have gb := c.at_.cr b HLB.out
    rw [hra.out] at ga
    rw [hrb.out] at gb
    exact ⟨by simp [World.cell?, hib2], by simp [World.cell?, hib2], by simp [World.cell?, hib2], by simp [World.cell?, hib2], ga, gb, c.at_.c4, by simp [World.cell?, hrb2], by simp [World.cell?, hrb2], c.at_.fz _, c.at_.fz _, frozen_of_block hrb2 0, frozen_of_block hrb2 1, c.at_.lt, Nat.lt_of_lt_of_le lr hV.size, Nat.lt_of_lt_of_le li hV.size⟩
  have HRB : Hid (∀ V, Below V3.heap.size V3 V → V.heap[w.heap.size]? = some (.cells #[.int .i64 0, .int .i64 0] 47 (0, 0))) := fun V hV => (hV.block _ (Array.getElem?_eq_some_iff.1 hrb').1).trans hrb'
  have HF3 : Hid (FarSame M cb w V3) := by
    show FarSame _ _ _ _
    have q := ((FarSame.refl M cb w).below (Nat.le_refl _) BW.out).below BW.out.size HB1.out
    rw [hV3.out]
    exact (q.set (.inr (.inr rfl)) 4 _).below (by rw [hs1]; have := BW.out.size; have := HB1.out.size; omega) ((Below.refl _ _).alloc (Nat.le_refl _) _)
  have HS3 : Hid (w.heap.size ≤ V3.heap.size) := HB3.out.size
  obtain ⟨i0, i1, i2, i3, ga, gb, g4, r0, r1, fa, f4, f0, f1, lc, lr, li⟩ := FF.out V3 (Below.refl _ _)
  clear hV3 hib hrb' hs1 HC1 p4 pf pl HB1 RB BW
  go_quiet (fail)
  obtain ⟨V4, hV4⟩ : ∃ V4, Hid (V4 = V3.drewN nq) := ⟨_, rfl⟩
  rw [← hV4.out]
  have hB4 : Below V3.heap.size V3 V4 := by rw [hV4.out]; exact below_drewN (Below.refl _ _) nq
  clear i0 i1 i2 i3 ga gb g4 r0 r1 fa f4 f0 f1 lc lr li
  obtain ⟨i0, i1, i2, i3, ga, gb, g4, r0, r1, fa, f4, f0, f1, lc, lr, li⟩ := FF.out V4 hB4
  have HC4 : Hid (Core n0 V4 cb M e (pc + 2) rs) := HC3.out.keep hB4
  have HB4 : Hid (Below n0 w V4) := HB3.out.trans (hB4.mono (by have := HB3.out.size; omega))
  have HF4 : Hid (FarSame M cb w V4) := HF3.out.below HS3.out hB4
  have HRK : Hid (_) := HRB.out V4 hB4
  have hn4 : n0 ≤ V4.heap.size := by have := HB4.out.size; omega
  have hS4 : Hid (w.heap.size ≤ V4.heap.size) := HB4.out.size
  clear hB4 hV4 FF HC3 HB3 HF3 HRB HS3
  rcases kk_cases kk with rfl | rfl | rfl | rfl | rfl | rfl | rfl | rfl | rfl | ⟨n1, n2, n3, n4, n5, n6, n7, n8, n9⟩
  focus
    go_wp2_with (with_reducible refine kept_bp ?_)
    have HCX : Hid (Core n0 (V4.setCell ⟨cb, 5 + a, none⟩ (.int .i64 (n))) cb _ _ _ _) := HC4.out.regSet HLA.out hcl (n)
    have HBX : Hid (Below n0 w (V4.setCell ⟨cb, 5 + a, none⟩ (.int .i64 (n)))) := HB4.out.setCell HC4.out.ge _
    have HFX : Hid (FarSame M cb w (V4.setCell ⟨cb, 5 + a, none⟩ (.int .i64 (n)))) := HF4.out.set (.inr (.inr rfl)) (5 + a) _
    have HQ0 : Hid ((V4.setCell ⟨cb, 5 + a, none⟩ (.int .i64 (n))).cell? ⟨w.heap.size, 0, none⟩ = _) := (cell_off hRc _ _ _).trans r0
    have HQ1 : Hid ((V4.setCell ⟨cb, 5 + a, none⟩ (.int .i64 (n))).cell? ⟨w.heap.size, 1, none⟩ = _) := (cell_off hRc _ _ _).trans r1
    have HMX : Hid (_) := hMR.out
    have HSX : Hid (_) := (Mv.Same.refl M)
    have HMS : Hid (MineSub M _ w.heap.size) := (MineSub.refl _ _)
    have HRX : Hid (R = ⟨M, pc + 2, rs.set a (n), 0, 0⟩) := HRR.out.trans (by simp)
  rotate_left
  focus
    have d1 : IntKind.i64.wrap (ra + rb) = ra + rb := by rw [IntKind.wrap_i64]; omega
    have d2 : Int.tmod (ra + rb) 65536 = (ra + rb) % 65536 := Int.tmod_eq_emod_of_nonneg (by omega)
    go_wp2_with (with_reducible refine kept_bp ?_)
    have HCX : Hid (Core n0 (V4.setCell ⟨cb, 5 + a, none⟩ (.int .i64 ((ra + rb) % 65536))) cb _ _ _ _) := HC4.out.regSet HLA.out hcl ((ra + rb) % 65536)
    have HBX : Hid (Below n0 w (V4.setCell ⟨cb, 5 + a, none⟩ (.int .i64 ((ra + rb) % 65536)))) := HB4.out.setCell HC4.out.ge _
    have HFX : Hid (FarSame M cb w (V4.setCell ⟨cb, 5 + a, none⟩ (.int .i64 ((ra + rb) % 65536)))) := HF4.out.set (.inr (.inr rfl)) (5 + a) _
    have HQ0 : Hid ((V4.setCell ⟨cb, 5 + a, none⟩ (.int .i64 ((ra + rb) % 65536))).cell? ⟨w.heap.size, 0, none⟩ = _) := (cell_off hRc _ _ _).trans r0
    have HQ1 : Hid ((V4.setCell ⟨cb, 5 + a, none⟩ (.int .i64 ((ra + rb) % 65536))).cell? ⟨w.heap.size, 1, none⟩ = _) := (cell_off hRc _ _ _).trans r1
    have HMX : Hid (_) := hMR.out
    have HSX : Hid (_) := (Mv.Same.refl M)
    have HMS : Hid (MineSub M _ w.heap.size) := (MineSub.refl _ _)
    have HRX : Hid (R = ⟨M, pc + 2, rs.set a ((ra + rb) % 65536), 0, 0⟩) := HRR.out.trans (by simp)
  rotate_left
  focus
    go_wp2_with (with_reducible refine kept_bp ?_)
    have HCX : Hid (Core n0 (V4.setCell ⟨cb, 5 + a, none⟩ (.int .i64 (bits .xor .i64 ra rb))) cb _ _ _ _) := HC4.out.regSet HLA.out hcl (bits .xor .i64 ra rb)
    have HBX : Hid (Below n0 w (V4.setCell ⟨cb, 5 + a, none⟩ (.int .i64 (bits .xor .i64 ra rb)))) := HB4.out.setCell HC4.out.ge _
    have HFX : Hid (FarSame M cb w (V4.setCell ⟨cb, 5 + a, none⟩ (.int .i64 (bits .xor .i64 ra rb)))) := HF4.out.set (.inr (.inr rfl)) (5 + a) _
    have HQ0 : Hid ((V4.setCell ⟨cb, 5 + a, none⟩ (.int .i64 (bits .xor .i64 ra rb))).cell? ⟨w.heap.size, 0, none⟩ = _) := (cell_off hRc _ _ _).trans r0
    have HQ1 : Hid ((V4.setCell ⟨cb, 5 + a, none⟩ (.int .i64 (bits .xor .i64 ra rb))).cell? ⟨w.heap.size, 1, none⟩ = _) := (cell_off hRc _ _ _).trans r1
    have HMX : Hid (_) := hMR.out
    have HSX : Hid (_) := (Mv.Same.refl M)
    have HMS : Hid (MineSub M _ w.heap.size) := (MineSub.refl _ _)
    have HRX : Hid (R = ⟨M, pc + 2, rs.set a (bits .xor .i64 ra rb), 0, 0⟩) := HRR.out.trans (by simp)
  rotate_left
  by_cases hlt : ra < rb
  focus
    have HLT : Hid (ra < rb) := hlt
    go_wp2_with (first | (with_reducible refine kept_bp ?_) | (go_at_call 148; refine (one_true _).mono ?_; rintro y w' ⟨rfl, rfl⟩))
    have HCX : Hid (Core n0 (V4.setCell ⟨cb, 5 + a, none⟩ (.int .i64 (1))) cb _ _ _ _) := HC4.out.regSet HLA.out hcl (1)
    have HBX : Hid (Below n0 w (V4.setCell ⟨cb, 5 + a, none⟩ (.int .i64 (1)))) := HB4.out.setCell HC4.out.ge _
    have HFX : Hid (FarSame M cb w (V4.setCell ⟨cb, 5 + a, none⟩ (.int .i64 (1)))) := HF4.out.set (.inr (.inr rfl)) (5 + a) _
    have HQ0 : Hid ((V4.setCell ⟨cb, 5 + a, none⟩ (.int .i64 (1))).cell? ⟨w.heap.size, 0, none⟩ = _) := (cell_off hRc _ _ _).trans r0
    have HQ1 : Hid ((V4.setCell ⟨cb, 5 + a, none⟩ (.int .i64 (1))).cell? ⟨w.heap.size, 1, none⟩ = _) := (cell_off hRc _ _ _).trans r1
    have HMX : Hid (_) := hMR.out
    have HSX : Hid (_) := (Mv.Same.refl M)
    have HMS : Hid (MineSub M _ w.heap.size) := (MineSub.refl _ _)
    have HRX : Hid (R = ⟨M, pc + 2, rs.set a (1), 0, 0⟩) := HRR.out.trans (by rw [if_pos (c := ra < rb) (by have := HLT.out; omega)]; simp)
  rotate_left
  focus
    have HLT : Hid (¬ ra < rb) := hlt
    go_wp2_with (first | (with_reducible refine kept_bp ?_) | (go_at_call 148; refine (one_false _).mono ?_; rintro y w' ⟨rfl, rfl⟩))
    have HCX : Hid (Core n0 (V4.setCell ⟨cb, 5 + a, none⟩ (.int .i64 (0))) cb _ _ _ _) := HC4.out.regSet HLA.out hcl (0)
    have HBX : Hid (Below n0 w (V4.setCell ⟨cb, 5 + a, none⟩ (.int .i64 (0)))) := HB4.out.setCell HC4.out.ge _
    have HFX : Hid (FarSame M cb w (V4.setCell ⟨cb, 5 + a, none⟩ (.int .i64 (0)))) := HF4.out.set (.inr (.inr rfl)) (5 + a) _
    have HQ0 : Hid ((V4.setCell ⟨cb, 5 + a, none⟩ (.int .i64 (0))).cell? ⟨w.heap.size, 0, none⟩ = _) := (cell_off hRc _ _ _).trans r0
    have HQ1 : Hid ((V4.setCell ⟨cb, 5 + a, none⟩ (.int .i64 (0))).cell? ⟨w.heap.size, 1, none⟩ = _) := (cell_off hRc _ _ _).trans r1
    have HMX : Hid (_) := hMR.out
    have HSX : Hid (_) := (Mv.Same.refl M)
    have HMS : Hid (MineSub M _ w.heap.size) := (MineSub.refl _ _)
    have HRX : Hid (R = ⟨M, pc + 2, rs.set a (0), 0, 0⟩) := HRR.out.trans (by rw [if_neg (c := ra < rb) (by have := HLT.out; omega)]; simp)
  rotate_left
  rcases hw5 : wAddr M e rb 1 with _ | ad
  focus
    have hlt5 := wAddr_none HC4.out.own.at_ HO.out.good hbb.1 hw5
    have hcall := load_none HC4.out HO.out.good hn4 (a := a) hbb.1 hbb.2 hw5
    clear hw5
    go_wp2_with (first | (with_reducible refine kept_bp ?_) | (go_at_call 149; refine hcall.mono ?_; clear hcall; rintro y w5 ⟨rfl, hcore, hbel, hfar⟩; clear r0 r1 f0 f1 i0 i1 i2 i3 g4; have hb6 := (hfar w.heap.size lr hMR.out hRc).trans HRK.out; have r0 : w5.cell? ⟨w.heap.size, 0, none⟩ = some (.int .i64 0) := (by simp [World.cell?, hb6]); have r1 : w5.cell? ⟨w.heap.size, 1, none⟩ = some (.int .i64 0) := (by simp [World.cell?, hb6]); have f0 := frozen_of_block hb6 0; have f1 := frozen_of_block hb6 1; have l5 := lt_of_cell r0; dsimp only at l5; have HC5 : Hid (_) := hcore; have HB5 : Hid (_) := hbel; have HF5 : Hid (FarSame M cb w w5) := HF4.out.trans HB4.out.size (MineSub.refl _ _) hfar; clear hb6 hcore hbel hfar))
    have HCX : Hid (_) := HC5.out
    have HBX : Hid (_) := HB4.out.trans HB5.out
    have HFX : Hid (_) := HF5.out
    have HQ0 : Hid (_) := r0
    have HQ1 : Hid (_) := r1
    have HMX : Hid (_) := hMR.out
    have HSX : Hid (_) := (Mv.Same.refl M)
    have HMS : Hid (MineSub M _ w.heap.size) := (MineSub.refl _ _)
    have HRX : Hid (R = ⟨M, pc + 2, rs, 3, 0⟩) := HRR.out.trans (by rw [← he.out, if_pos hlt5]; simp)
  rotate_left
  focus
    have hlt5 := (wAddr_word HC4.out.own.at_ HO.out.good hbb.1 hw5).2.2.1
    have hcall := load_some HC4.out HO.out.good hn4 HLA.out hcl hbb.1 hbb.2 hw5
    clear hw5
    go_wp2_with (first | (with_reducible refine kept_bp ?_) | (go_at_call 149; refine hcall.mono ?_; clear hcall; rintro y w5 ⟨rfl, hcore, hbel, hfar⟩; clear r0 r1 f0 f1 i0 i1 i2 i3 g4; have hb6 := (hfar w.heap.size lr hMR.out hRc).trans HRK.out; have r0 : w5.cell? ⟨w.heap.size, 0, none⟩ = some (.int .i64 0) := (by simp [World.cell?, hb6]); have r1 : w5.cell? ⟨w.heap.size, 1, none⟩ = some (.int .i64 0) := (by simp [World.cell?, hb6]); have f0 := frozen_of_block hb6 0; have f1 := frozen_of_block hb6 1; have l5 := lt_of_cell r0; dsimp only at l5; have HC5 : Hid (_) := hcore; have HB5 : Hid (_) := hbel; have HF5 : Hid (FarSame M cb w w5) := HF4.out.trans HB4.out.size (MineSub.refl _ _) hfar; clear hb6 hcore hbel hfar))
    have HCX : Hid (_) := HC5.out
    have HBX : Hid (_) := HB4.out.trans HB5.out
    have HFX : Hid (_) := HF5.out
    have HQ0 : Hid (_) := r0
    have HQ1 : Hid (_) := r1
    have HMX : Hid (_) := hMR.out
    have HSX : Hid (_) := (Mv.Same.refl M)
    have HMS : Hid (MineSub M _ w.heap.size) := (MineSub.refl _ _)
    have HRX : Hid (R = ⟨M, pc + 2, rs.set a (wordAt M (frmF M.frs e rb 1) rb), 0, 0⟩) := HRR.out.trans (by rw [← he.out, if_neg (show ¬ frmF M.frs e rb 1 < 0 by omega)]; simp)
  rotate_left
  rcases hw5 : wAddr M e rb 2 with _ | ad
  focus
    have hlt5 := wAddr_none HC4.out.own.at_ HO.out.good hbb.1 hw5
    have hcall := store_none HC4.out HO.out.good hn4 (v := ra) hbb.1 hbb.2 hw5
    clear hw5
    go_wp2_with (first | (with_reducible refine kept_bp ?_) | (go_at_call 150; refine hcall.mono ?_; clear hcall; rintro y w5 ⟨rfl, hcore, hbel, hfar⟩; clear r0 r1 f0 f1 i0 i1 i2 i3 g4; have hb6 := (hfar w.heap.size lr hMR.out hRc).trans HRK.out; have r0 : w5.cell? ⟨w.heap.size, 0, none⟩ = some (.int .i64 0) := (by simp [World.cell?, hb6]); have r1 : w5.cell? ⟨w.heap.size, 1, none⟩ = some (.int .i64 0) := (by simp [World.cell?, hb6]); have f0 := frozen_of_block hb6 0; have f1 := frozen_of_block hb6 1; have l5 := lt_of_cell r0; dsimp only at l5; have HC5 : Hid (_) := hcore; have HB5 : Hid (_) := hbel; have HF5 : Hid (FarSame M cb w w5) := HF4.out.trans HB4.out.size (MineSub.refl _ _) hfar; clear hb6 hcore hbel hfar))
    have HCX : Hid (_) := HC5.out
    have HBX : Hid (_) := HB4.out.trans HB5.out
    have HFX : Hid (_) := HF5.out
    have HQ0 : Hid (_) := r0
    have HQ1 : Hid (_) := r1
    have HMX : Hid (_) := hMR.out
    have HSX : Hid (_) := (Mv.Same.refl M)
    have HMS : Hid (MineSub M _ w.heap.size) := (MineSub.refl _ _)
    have HRX : Hid (R = ⟨M, pc + 2, rs, 3, 0⟩) := HRR.out.trans (by rw [← he.out, if_pos hlt5]; simp)
  rotate_left
  focus
    have hlt5 := (wAddr_word HC4.out.own.at_ HO.out.good hbb.1 hw5).2.2.1
    have hcall := store_some HC4.out HO.out.good hn4 (v := ra) (by simp [Lit.wf, IntKind.min, IntKind.max, IntKind.bits, IntKind.signed]; omega) hbb.1 hbb.2 hw5
    clear hw5
    go_wp2_with (first | (with_reducible refine kept_bp ?_) | (go_at_call 150; refine hcall.mono ?_; clear hcall; rintro y w5 ⟨rfl, hcore, hbel, hfar, hms⟩; have HM5 : Hid (_) := hms; clear hms; clear r0 r1 f0 f1 i0 i1 i2 i3 g4; have hb6 := (hfar w.heap.size lr hMR.out hRc).trans HRK.out; have r0 : w5.cell? ⟨w.heap.size, 0, none⟩ = some (.int .i64 0) := (by simp [World.cell?, hb6]); have r1 : w5.cell? ⟨w.heap.size, 1, none⟩ = some (.int .i64 0) := (by simp [World.cell?, hb6]); have f0 := frozen_of_block hb6 0; have f1 := frozen_of_block hb6 1; have l5 := lt_of_cell r0; dsimp only at l5; have HC5 : Hid (_) := hcore; have HB5 : Hid (_) := hbel; have HF5 : Hid (FarSame M cb w w5) := HF4.out.trans HB4.out.size (MineSub.refl _ _) hfar; clear hb6 hcore hbel hfar))
    have HCX : Hid (_) := HC5.out
    have HBX : Hid (_) := HB4.out.trans HB5.out
    have HFX : Hid (_) := HF5.out
    have HQ0 : Hid (_) := r0
    have HQ1 : Hid (_) := r1
    have HMX : Hid (_) := (show Hid _ from HM5.out _ (by have := hS4.out; omega) hMR.out).out
    have HSX : Hid (_) := (Mv.Same.refl (putWord M (frmF M.frs e rb 2) rb ra))
    have HMS : Hid (MineSub M _ w.heap.size) := fun b hb hm => HM5.out b (by have := hS4.out; omega) hm
    have HRX : Hid (R = ⟨putWord M (frmF M.frs e rb 2) rb ra, pc + 2, rs, 0, 0⟩) := HRR.out.trans (by rw [← he.out, if_neg (show ¬ frmF M.frs e rb 2 < 0 by omega)]; simp)
  rotate_left
  by_cases hz : ra = 0
  focus
    have hz2 : (ra == 0) = true := by simpa using hz
    go_wp2_with (with_reducible refine kept_bp ?_)
    have HCX : Hid (Core n0 (V4.setCell ⟨cb, 4, none⟩ (.int .i64 n)) cb _ _ _ _) := HC4.out.pcSet n
    have HBX : Hid (Below n0 w (V4.setCell ⟨cb, 4, none⟩ (.int .i64 n))) := HB4.out.setCell HC4.out.ge _
    have HFX : Hid (FarSame M cb w (V4.setCell ⟨cb, 4, none⟩ (.int .i64 n))) := HF4.out.set (.inr (.inr rfl)) 4 _
    have HQ0 : Hid ((V4.setCell ⟨cb, 4, none⟩ (.int .i64 n)).cell? ⟨w.heap.size, 0, none⟩ = _) := (cell_off hRc _ _ _).trans r0
    have HQ1 : Hid ((V4.setCell ⟨cb, 4, none⟩ (.int .i64 n)).cell? ⟨w.heap.size, 1, none⟩ = _) := (cell_off hRc _ _ _).trans r1
    have HMX : Hid (_) := hMR.out
    have HSX : Hid (_) := (Mv.Same.refl M)
    have HMS : Hid (MineSub M _ w.heap.size) := (MineSub.refl _ _)
    have HRX : Hid (R = ⟨M, n, rs, 0, 0⟩) := HRR.out.trans (by simp [hz])
  rotate_left
  focus
    have hz2 : (ra == 0) = false := by simpa using hz
    go_wp2_with (with_reducible refine kept_bp ?_)
    have HCX : Hid (_) := HC4.out
    have HBX : Hid (_) := HB4.out
    have HFX : Hid (_) := HF4.out
    have HQ0 : Hid (_) := r0
    have HQ1 : Hid (_) := r1
    have HMX : Hid (_) := hMR.out
    have HSX : Hid (_) := (Mv.Same.refl M)
    have HMS : Hid (MineSub M _ w.heap.size) := (MineSub.refl _ _)
    have HRX : Hid (R = ⟨M, pc + 2, rs, 0, 0⟩) := HRR.out.trans (by simp [hz])
  rotate_left
  focus
    go_wp2_with (with_reducible refine kept_bp ?_)
    have HCX : Hid (_) := HC4.out
    have HBX : Hid (_) := HB4.out
    have HFX : Hid (_) := HF4.out
    have HQ0 : Hid (_) := r0
    have HQ1 : Hid (_) := r1
    have HMX : Hid (_) := hMR.out
    have HSX : Hid (_) := (Mv.Same.refl M)
    have HMS : Hid (MineSub M _ w.heap.size) := (MineSub.refl _ _)
    have HRX : Hid (R = ⟨M, pc + 2, rs, 1, ra⟩) := HRR.out.trans (by simp)
  rotate_left
  by_cases h40 : 40 ≤ M.qus.length
  focus
    have hcall := say_none HC4.out hn4 (v := ra) h40
    go_wp2_with (first | (with_reducible refine kept_bp ?_) | (go_at_call 151; refine hcall.mono ?_; clear hcall; rintro y w5 ⟨rfl, hcore, hbel, hfar⟩; clear r0 r1 f0 f1 i0 i1 i2 i3 g4; have hb6 := (hfar w.heap.size lr hMR.out hRc).trans HRK.out; have r0 : w5.cell? ⟨w.heap.size, 0, none⟩ = some (.int .i64 0) := (by simp [World.cell?, hb6]); have r1 : w5.cell? ⟨w.heap.size, 1, none⟩ = some (.int .i64 0) := (by simp [World.cell?, hb6]); have f0 := frozen_of_block hb6 0; have f1 := frozen_of_block hb6 1; have l5 := lt_of_cell r0; dsimp only at l5; have HC5 : Hid (_) := hcore; have HB5 : Hid (_) := hbel; have HF5 : Hid (FarSame M cb w w5) := HF4.out.trans HB4.out.size (MineSub.refl _ _) hfar; clear hb6 hcore hbel hfar))
    have HCX : Hid (_) := HC5.out
    have HBX : Hid (_) := HB4.out.trans HB5.out
    have HFX : Hid (_) := HF5.out
    have HQ0 : Hid (_) := r0
    have HQ1 : Hid (_) := r1
    have HMX : Hid (_) := hMR.out
    have HSX : Hid (_) := (Mv.Same.refl M)
    have HMS : Hid (MineSub M _ w.heap.size) := (MineSub.refl _ _)
    have HRX : Hid (R = ⟨M, pc + 2, rs, 3, 0⟩) := HRR.out.trans (by rw [if_pos h40]; simp)
  rotate_left
  focus
    have hC4 := HC4.out
    rw [he.out] at hC4
    have hcall := say_some hC4 HO.out.good hn4 HO.out.m4 (v := ra) (by simp [Lit.wf, IntKind.min, IntKind.max, IntKind.bits, IntKind.signed]; omega) h40
    rw [← he.out] at hcall
    clear hC4
    go_wp2_with (first | (with_reducible refine kept_bp ?_) | (go_at_call 151; refine hcall.mono ?_; clear hcall; rintro y w5 ⟨M5, hsm, rfl, hcore, hbel, hfar, hms⟩; have HM5 : Hid (_) := hms; have HSM : Hid (_) := hsm; clear hms hsm; clear r0 r1 f0 f1 i0 i1 i2 i3 g4; have hb6 := (hfar w.heap.size lr hMR.out hRc).trans HRK.out; have r0 : w5.cell? ⟨w.heap.size, 0, none⟩ = some (.int .i64 0) := (by simp [World.cell?, hb6]); have r1 : w5.cell? ⟨w.heap.size, 1, none⟩ = some (.int .i64 0) := (by simp [World.cell?, hb6]); have f0 := frozen_of_block hb6 0; have f1 := frozen_of_block hb6 1; have l5 := lt_of_cell r0; dsimp only at l5; have HC5 : Hid (_) := hcore; have HB5 : Hid (_) := hbel; have HF5 : Hid (FarSame M cb w w5) := HF4.out.trans HB4.out.size (MineSub.refl _ _) hfar; clear hb6 hcore hbel hfar))
    have HCX : Hid (_) := HC5.out
    have HBX : Hid (_) := HB4.out.trans HB5.out
    have HFX : Hid (_) := HF5.out
    have HQ0 : Hid (_) := r0
    have HQ1 : Hid (_) := r1
    have HMX : Hid (_) := (show Hid _ from HM5.out _ (by have := hS4.out; omega) hMR.out).out
    have HSX : Hid (_) := HSM.out
    have HMS : Hid (MineSub M _ w.heap.size) := fun b hb hm => HM5.out b (by have := hS4.out; omega) hm
    have HRX : Hid (R = ⟨sayM M m ra, pc + 2, rs, 0, 0⟩) := HRR.out.trans (by rw [if_neg h40]; simp)
  rotate_left
  focus
    go_wp2_with (first | (with_reducible refine kept_bp ?_) | (go_at_call 147; refine (fault_run _).mono ?_; rintro y w5 ⟨rfl, hb⟩; have hb6 := (hb.block w.heap.size lr).trans HRK.out; clear r0 r1 f0 f1; have r0 : w5.cell? ⟨w.heap.size, 0, none⟩ = some (.int .i64 0) := (by simp [World.cell?, hb6]); have r1 : w5.cell? ⟨w.heap.size, 1, none⟩ = some (.int .i64 0) := (by simp [World.cell?, hb6]); have f0 := frozen_of_block hb6 0; have f1 := frozen_of_block hb6 1; have l5 := lt_of_cell r0; dsimp only at l5; have HC5 : Hid (_) := HC4.out.keep hb; have HB5 : Hid (Below n0 V4 w5) := hb.mono (by have := HB4.out.size; omega); have HF5 : Hid (FarSame M cb w w5) := HF4.out.below HB4.out.size hb; clear hb6 hb))
    have HCX : Hid (_) := HC5.out
    have HBX : Hid (_) := HB4.out.trans HB5.out
    have HFX : Hid (_) := HF5.out
    have HQ0 : Hid (_) := r0
    have HQ1 : Hid (_) := r1
    have HMX : Hid (_) := hMR.out
    have HSX : Hid (_) := (Mv.Same.refl M)
    have HMS : Hid (MineSub M _ w.heap.size) := (MineSub.refl _ _)
    have HRX : Hid (R = ⟨M, pc + 2, rs, 3, 0⟩) := HRR.out.trans (by simp at n1 n2 n3 n4 n5 n6 n7 n8 n9; simp [n1, n2, n3, n4, n5, n6, n7, n8, n9])
  rotate_left
  all_goals
    as_aux_lemma =>
      refine Kept.mk ?_
      refine bp_genR fun V9 hV9 => ?_
      obtain ⟨⟨k0, k1⟩, HC9, HB9, HF9⟩ := step_end hV9 HCX.out HBX.out HFX.out hn0 HMX.out hRc HQ0.out HQ1.out
      clear hV9
      (try simp only [Exit.inBlock, Exit.then])
      refine bodyPost_ret (by simp [results, Tryz.results139, go_sem, k0, k1]; try rfl) rfl ?_
      rw [HRX.out]
      exact ⟨_, HSX.out, rfl, HC9, HB9, HF9, HMS.out⟩

set_option maxRecDepth 100000 in
set_option maxHeartbeats 4000000 in
theorem step_bad {n0 : Nat} {w : World} {cb : Nat} {M : Mv} {e pc : Int} {rs : List Int} (h : Core n0 w cb M e pc rs) (hG : Good M) (hn0 : n0 ≤ w.heap.size) (h0 : 0 ≤ pc) (h1 : pc ≤ 65535) (hf : wAddr M e pc 4 = none ∨ wAddr M e (pc + 1) 4 = none) :
    Calls Tryz.prog 139 #[.pointer (some ⟨cb, 0, none⟩)] w fun y w' => y = .returned (.agg #[.int .i64 3, .int .i64 0]) ∧ Core n0 w' cb M e pc rs ∧ Below n0 w w' ∧ FarSame M cb w w' := by
  obtain ⟨W2, hW2⟩ : ∃ W2, Hid (W2 = w.alloc (.cells #[.int .i64 0, .int .i64 0] 47)) := ⟨_, rfl⟩
  have BW : Hid (Below w.heap.size w W2) := by show Below _ _ _; rw [hW2.out]; exact (Below.refl _ _).alloc (Nat.le_refl _) _
  have hblk : W2.heap[w.heap.size]? = some (.cells #[.int .i64 0, .int .i64 0] 47 (0, 0)) := by rw [hW2.out]; exact Go.Deep.blk_alloc_new _ _
  have rl : w.heap.size < W2.heap.size := (Array.getElem?_eq_some_iff.1 hblk).1
  have RB : Hid (∀ w', Below W2.heap.size W2 w' → w'.heap[w.heap.size]? = some (.cells #[.int .i64 0, .int .i64 0] 47 (0, 0))) := fun w' h => (h.block _ rl).trans hblk
  have hMR : Hid (¬ Mine M w.heap.size) := fun q => by have := (Mine.fresh h.own q).2; omega
  have hRc : w.heap.size ≠ cb := by have := h.at_.lt; omega
  have HC2 : Hid (Core n0 W2 cb M e pc rs) := h.keep BW.out
  have hF := fetch_none M e pc rs cb W2 HC2.out.at_ HC2.out.own.at_ hG h0 h1 hf
  clear hf h hblk
  go_enter Tryz.func139, Tryz.ntmps139
  go_upto_region 1 with fail
  rw [← hW2.out]
  go_wp2_with (first
    | (go_at_call 146; refine hF.mono ?_; clear hF; rintro x w1 ⟨rfl, hb⟩; have HBa : Hid (Below W2.heap.size W2 w1) := hb; clear hb)
    | (go_at_call 147; refine (fault_run _).mono ?_; rintro x W1 ⟨rfl, hb⟩; have HB1 : Hid (Below W2.heap.size W2 W1) := (HBa.out.alloc HBa.out.size _).trans (hb.mono (by have := HBa.out.size; simp; omega)); have hblk := RB.out W1 HB1.out; have r0 : W1.cell? ⟨w.heap.size, 0, none⟩ = some (.int .i64 0) := (by simp [World.cell?, hblk]); have r1 : W1.cell? ⟨w.heap.size, 1, none⟩ = some (.int .i64 0) := (by simp [World.cell?, hblk]); have f0 := frozen_of_block hblk 0; have f1 := frozen_of_block hblk 1; have rl1 := lt_of_cell r0; dsimp only at rl1; clear hblk; clear hb)
    | fail)
  refine bp_genR fun V9 hV9 => ?_
  obtain ⟨k0, k1⟩ := blk2R (v0 := .int .i64 3) (v1 := .int .i64 0) r0 r1
  rw [← hV9] at k0 k1
  have HC9 : Core n0 V9 cb M e pc rs := by rw [hV9]; exact ((HC2.out.keep HB1.out).far hMR.out hRc 0 _).far hMR.out hRc 1 _
  have HB9 : Below n0 w V9 := by rw [hV9]; exact (((BW.out.mono hn0).trans (HB1.out.mono (by have := BW.out.size; omega))).setCell hn0 _).setCell hn0 _
  have HF9 : FarSame M cb w V9 := by rw [hV9]; exact ((((FarSame.refl M cb w).below (Nat.le_refl _) BW.out).below BW.out.size HB1.out).set (.inl (Nat.le_refl _)) 0 _).set (.inl (Nat.le_refl _)) 1 _
  clear hV9
  (try simp only [Exit.inBlock, Exit.then])
  refine bodyPost_ret (by simp [results, Tryz.results139, go_sem, k0, k1]; try rfl) rfl ?_
  exact ⟨rfl, HC9, HB9, HF9⟩

def xorR : Int → Int → Int := (fun a b => bits .xor .i64 a b)
theorem step_run {n0 : Nat} {w : World} {cb : Nat} {M : Mv} {m : Nat} {pc : Int} {rs : List Int} (h : Core n0 w cb M ((m : Int) + 1) pc rs) (ho : RunOk M m pc rs) (hn0 : n0 ≤ w.heap.size) :
    Calls Tryz.prog 139 #[.pointer (some ⟨cb, 0, none⟩)] w fun y w' => ∃ M' : Mv, M'.Same (stepR M m pc rs xorR).M ∧ y = .returned (.agg #[.int .i64 (stepR M m pc rs xorR).nd, .int .i64 (stepR M m pc rs xorR).v]) ∧ Core n0 w' cb M' ((m : Int) + 1) (stepR M m pc rs xorR).pc (stepR M m pc rs xorR).rs ∧ Below n0 w w' ∧ FarSame M cb w w' ∧ MineSub M M' w.heap.size := by
  have hp1 : 0 ≤ pc + 1 := by have := ho.pc; omega
  have bad : (wAddr M ((m : Int) + 1) pc 4 = none ∨ wAddr M ((m : Int) + 1) (pc + 1) 4 = none) → stepR M m pc rs xorR = ⟨M, pc, rs, 3, 0⟩ := fun q => by
    unfold stepR
    rw [if_pos]
    rcases q with q | q
    · exact .inl (wAddr_none h.own.at_ ho.good ho.pc.1 q)
    · exact .inr (wAddr_none h.own.at_ ho.good hp1 q)
  cases h1 : wAddr M ((m : Int) + 1) pc 4 with
  | none =>
    rw [bad (.inl h1)]
    refine (step_bad h ho.good hn0 ho.pc.1 ho.pc.2 (.inl h1)).mono ?_
    rintro y w' ⟨rfl, a, b, c⟩
    exact ⟨M, Mv.Same.refl _, rfl, a, b, c, MineSub.refl _ _⟩
  | some a1 =>
    cases h2 : wAddr M ((m : Int) + 1) (pc + 1) 4 with
    | none =>
      rw [bad (.inr h2)]
      refine (step_bad h ho.good hn0 ho.pc.1 ho.pc.2 (.inr h2)).mono ?_
      rintro y w' ⟨rfl, a, b, c⟩
      exact ⟨M, Mv.Same.refl _, rfl, a, b, c, MineSub.refl _ _⟩
    | some a2 =>
      have n1 := (wAddr_word h.own.at_ ho.good ho.pc.1 h1).2.2.1
      have n2 := (wAddr_word h.own.at_ ho.good hp1 h2).2.2.1
      have e : stepR M m pc rs xorR = doR M m pc rs (wordAt M (frmF M.frs ((m : Int) + 1) pc 4) pc) (wordAt M (frmF M.frs ((m : Int) + 1) (pc + 1) 4) (pc + 1)) xorR := by
        unfold stepR
        rw [if_neg (by rintro (q | q); exact n1 q; exact n2 q)]
      rw [e]
      obtain ⟨x, hx⟩ : ∃ x, wordAt M (frmF M.frs ((m : Int) + 1) pc 4) pc = x := ⟨_, rfl⟩
      obtain ⟨n, hn⟩ : ∃ n, wordAt M (frmF M.frs ((m : Int) + 1) (pc + 1) 4) (pc + 1) = n := ⟨_, rfl⟩
      rw [hx, hn]
      unfold xorR
      exact step_go h ho hn0 h1 h2 hx hn

end Go.Proofs.YtdngbojbpmdegaaGreatDoor
