import Derived.Test.YtdngbojbpmdegaaGreatDoorJRunStepH
namespace Go.Proofs.YtdngbojbpmdegaaGreatDoor
open Go.RowKit
set_option maxRecDepth 100000 in
set_option maxHeartbeats 4000000 in
theorem step_li {n0 : Nat} {w : World} {cb : Nat} {M : Mv} {m : Nat} {pc : Int} {rs : List Int} (h : Core n0 w cb M ((m : Int) + 1) pc rs) (ho : RunOk M m pc rs) (hn0 : n0 <= w.heap.size) {x n : Int} {a1 a2 : Addr} (hf1 : wAddr M ((m : Int) + 1) pc 4 = some a1) (hf2 : wAddr M ((m : Int) + 1) (pc + 1) 4 = some a2)
    (hx : wordAt M (frmF M.frs ((m : Int) + 1) pc 4) pc = x) (hx2 : wordAt M (frmF M.frs ((m : Int) + 1) (pc + 1) 4) (pc + 1) = n) (hk : x % 16 = 1) :
    Calls Tryz.prog 139 #[.pointer (some ⟨cb, 0, none⟩)] w fun y w' => ∃ M' : Mv, M'.Same (doR M m pc rs x n (fun a b => bits .xor .i64 a b)).M /\ y = .returned (.agg #[.int .i64 (doR M m pc rs x n (fun a b => bits .xor .i64 a b)).nd, .int .i64 (doR M m pc rs x n (fun a b => bits .xor .i64 a b)).v]) /\ Core n0 w' cb M' ((m : Int) + 1) (doR M m pc rs x n (fun a b => bits .xor .i64 a b)).pc (doR M m pc rs x n (fun a b => bits .xor .i64 a b)).rs /\ Below n0 w w' /\ FarSame M cb w w' /\ MineSub M M' w.heap.size := by
  obtain ⟨e, he⟩ : ∃ e : Int, Hid (e = (m : Int) + 1) := ⟨_, rfl⟩
  rw [<- he.out] at h hf1 hf2 hx hx2 ⊢
  obtain ⟨W2, hW2⟩ : ∃ W2, Hid (W2 = w.alloc (.cells #[.int .i64 0, .int .i64 0] 47)) := ⟨_, rfl⟩
  have BW : Hid (Below w.heap.size w W2) := by show Below _ _ _; rw [hW2.out]; exact (Below.refl _ _).alloc (Nat.le_refl _) _
  have hblk : W2.heap[w.heap.size]? = some (.cells #[.int .i64 0, .int .i64 0] 47 (0, 0)) := by rw [hW2.out]; exact Go.Deep.blk_alloc_new _ _
  have rl : w.heap.size < W2.heap.size := (Array.getElem?_eq_some_iff.1 hblk).1
  have RB : Hid (∀ w', Below W2.heap.size W2 w' -> w'.heap[w.heap.size]? = some (.cells #[.int .i64 0, .int .i64 0] 47 (0, 0))) := fun w' h => (h.block _ rl).trans hblk
  have hMR : Hid (¬ Mine M w.heap.size) := fun q => by have := (Mine.fresh h.own q).2; omega
  have hRc : w.heap.size ≠ cb := by have := h.at_.lt; omega
  have HC2 : Hid (Core n0 W2 cb M e pc rs) := h.keep BW.out
  have hF := fetch_some M e pc x n rs cb W2 HC2.out.at_ HC2.out.own.at_ ho.good ho.pc.1 ho.pc.2 hf1 hf2 hx hx2
  have hxb : 0 <= x := by
    obtain ⟨_, _, _, k, hk, hfk, _⟩ := wAddr_word h.own.at_ ho.good ho.pc.1 hf1
    have := wordAt_in ho.good hk pc
    rw [<- hfk, hx] at this
    exact this.1
  obtain ⟨ea, eb, la, lb⟩ := reg_nat hxb
  have hpc := run_at (wAddr_word h.own.at_ ho.good ho.pc.1 hf1).2.2.1 ho.pc.1
  have hN : 0 <= n /\ n <= 65535 := by
    obtain ⟨_, _, _, k, hk, hfk, _⟩ := wAddr_word h.own.at_ ho.good (n := pc + 1) (by have := ho.pc; omega) hf2
    have := wordAt_in ho.good hk (pc + 1)
    rw [<- hfk, hx2] at this
    exact this
  have hp2 : IntKind.i64.wrap (pc + 2) = pc + 2 := by rw [IntKind.wrap_i64]; have := ho.pc; omega
  rw [hk, ea, eb] at hF
  obtain ⟨R, hR⟩ : ∃ R, Hid (R = doR M m pc rs x n (fun a b => bits .xor .i64 a b)) := ⟨_, rfl⟩
  rw [<- hR.out]
  have hRR := hR.out
  unfold doR at hRR
  rw [show kindR x = 1 from hk] at hRR
  have hkx : x % 16 = 1 := hk
  have hcr := ho.rs
  have hcl := ho.len
  generalize regA x = a at hRR ea la hF
  generalize regB x = b at hRR eb lb hF
  obtain ⟨ra, hra⟩ : ∃ ra, Hid (rs.getD a 0 = ra) := ⟨_, rfl⟩
  obtain ⟨rb, hrb⟩ : ∃ rb, Hid (rs.getD b 0 = rb) := ⟨_, rfl⟩
  have hba := hcr a
  have hbb := hcr b
  rw [hra.out] at hba hRR
  rw [hrb.out] at hbb hRR
  have HO : Hid (_) := ho
  have HRR : Hid (_) := hRR
  have HLA : Hid (a < 4) := la
  have HLB : Hid (b < 4) := lb
  have ha4 : (a : Int) < 4 := by omega
  have hb4 : (b : Int) < 4 := by omega
  clear hRR hR hf1 hf2 hx hx2 hk ea eb ho hcr hblk h hkx la lb
  go_enter Tryz.func139, Tryz.ntmps139
  go_upto_region 1 with fail
  rw [<- hW2.out]
  go_upto_region 5 with (go_at_call 146; refine hF.mono ?_; clear hF; rintro y W1 ⟨rfl, hb⟩; have HB1 : Hid (_) := hb; have hC1 := HC2.out.keep hb; have p4 := hC1.at_.c4; have pf := hC1.at_.fz 4; have pl := hC1.at_.lt; clear hb hC1)
  obtain ⟨V3, hV3⟩ : ∃ V3, Hid (V3 = (W1.setCell ⟨cb, 4, none⟩ (.int .i64 (pc + 2))).alloc (.cells #[.int .i64 1, .int .i64 (a : Int), .int .i64 (b : Int), .int .i64 n] 184)) := ⟨_, rfl⟩
  rw [<- hV3.out]
  have hs1 : (W1.setCell ⟨cb, 4, none⟩ (.int .i64 (pc + 2))).heap.size = W1.heap.size := by simp [World.setCell]
  have HC1 : Hid (Core n0 W1 cb M e pc rs) := HC2.out.keep HB1.out
  have HC3 : Hid (Core n0 V3 cb M e (pc + 2) rs) := by show Core _ _ _ _ _ _ _; rw [hV3.out]; exact (HC1.out.pcSet (pc + 2)).keep ((Below.refl _ _).alloc (Nat.le_refl _) _)
  have hib : V3.heap[W1.heap.size]? = some (.cells #[.int .i64 1, .int .i64 (a : Int), .int .i64 (b : Int), .int .i64 n] 184 (0, 0)) := by
    rw [hV3.out, <- hs1]; exact Go.Deep.blk_alloc_new _ _
  have hrb' : V3.heap[w.heap.size]? = some (.cells #[.int .i64 0, .int .i64 0] 47 (0, 0)) := by
    have h1 := RB.out W1 HB1.out
    have h2 : w.heap.size < W1.heap.size := (Array.getElem?_eq_some_iff.1 h1).1
    rw [hV3.out, Below.heap_alloc _ _ _ (by rw [hs1]; exact h2), Below.heap_setCell _ _ _ _ hRc]
    exact h1
  have HB3 : Hid (Below n0 w V3) := by
    show Below _ _ _
    rw [hV3.out]
    have q := (BW.out.mono hn0).trans (HB1.out.mono (by have := BW.out.size; omega))
    exact (q.setCell HC2.out.ge _).alloc (by rw [hs1]; have := q.size; omega) _
  have hIc : W1.heap.size ≠ cb := by have := HC1.out.at_.lt; omega
  have hIr : W1.heap.size ≠ w.heap.size := by have := HB1.out.size; have := rl; omega
  have FF : Hid (∀ V, Below V3.heap.size V3 V -> V.cell? ⟨W1.heap.size, 0, none⟩ = some (.int .i64 1) /\ V.cell? ⟨W1.heap.size, 1, none⟩ = some (.int .i64 (a : Int)) /\ V.cell? ⟨W1.heap.size, 2, none⟩ = some (.int .i64 (b : Int)) /\ V.cell? ⟨W1.heap.size, 3, none⟩ = some (.int .i64 n) /\ V.cell? ⟨cb, 5 + a, none⟩ = some (.int .i64 ra) /\ V.cell? ⟨cb, 5 + b, none⟩ = some (.int .i64 rb) /\ V.cell? ⟨cb, 4, none⟩ = some (.int .i64 (pc + 2)) /\ V.cell? ⟨w.heap.size, 0, none⟩ = some (.int .i64 0) /\ V.cell? ⟨w.heap.size, 1, none⟩ = some (.int .i64 0) /\ V.frozen? ⟨cb, 5 + a, none⟩ = false /\ V.frozen? ⟨cb, 4, none⟩ = false /\ V.frozen? ⟨w.heap.size, 0, none⟩ = false /\ V.frozen? ⟨w.heap.size, 1, none⟩ = false /\ cb < V.heap.size /\ w.heap.size < V.heap.size /\ W1.heap.size < V.heap.size) := fun V hV => by
    have li : W1.heap.size < V3.heap.size := (Array.getElem?_eq_some_iff.1 hib).1
    have lr : w.heap.size < V3.heap.size := (Array.getElem?_eq_some_iff.1 hrb').1
    have hib2 := (hV.block _ li).trans hib
    have hrb2 := (hV.block _ lr).trans hrb'
    have c := HC3.out.keep hV
    have ga := c.at_.cr a HLA.out
    have gb := c.at_.cr b HLB.out
    rw [hra.out] at ga
    rw [hrb.out] at gb
    exact ⟨by simp [World.cell?, hib2], by simp [World.cell?, hib2], by simp [World.cell?, hib2], by simp [World.cell?, hib2], ga, gb, c.at_.c4, by simp [World.cell?, hrb2], by simp [World.cell?, hrb2], c.at_.fz _, c.at_.fz _, frozen_of_block hrb2 0, frozen_of_block hrb2 1, c.at_.lt, Nat.lt_of_lt_of_le lr hV.size, Nat.lt_of_lt_of_le li hV.size⟩
  have HRB : Hid (∀ V, Below V3.heap.size V3 V -> V.heap[w.heap.size]? = some (.cells #[.int .i64 0, .int .i64 0] 47 (0, 0))) := fun V hV => (hV.block _ (Array.getElem?_eq_some_iff.1 hrb').1).trans hrb'
  have HF3 : Hid (FarSame M cb w V3) := by
    show FarSame _ _ _ _
    have q := ((FarSame.refl M cb w).below (Nat.le_refl _) BW.out).below BW.out.size HB1.out
    rw [hV3.out]
    exact (q.set (.inr (.inr rfl)) 4 _).below (by rw [hs1]; have := BW.out.size; have := HB1.out.size; omega) ((Below.refl _ _).alloc (Nat.le_refl _) _)
  have HS3 : Hid (w.heap.size <= V3.heap.size) := HB3.out.size
  obtain ⟨i0, i1, i2, i3, ga, gb, g4, r0, r1, fa, f4, f0, f1, lc, lr, li⟩ := FF.out V3 (Below.refl _ _)
  clear hV3 hib hrb' hs1 HC1 p4 pf pl HB1 RB BW
  go_quiet (fail)
  obtain ⟨V4, hV4⟩ : ∃ V4, Hid (V4 = V3.drewN nq) := ⟨_, rfl⟩
  rw [<- hV4.out]
  have hB4 : Below V3.heap.size V3 V4 := by rw [hV4.out]; exact below_drewN (Below.refl _ _) nq
  clear i0 i1 i2 i3 ga gb g4 r0 r1 fa f4 f0 f1 lc lr li
  obtain ⟨i0, i1, i2, i3, ga, gb, g4, r0, r1, fa, f4, f0, f1, lc, lr, li⟩ := FF.out V4 hB4
  have HC4 : Hid (Core n0 V4 cb M e (pc + 2) rs) := HC3.out.keep hB4
  have HB4 : Hid (Below n0 w V4) := HB3.out.trans (hB4.mono (by have := HB3.out.size; omega))
  have HF4 : Hid (FarSame M cb w V4) := HF3.out.below HS3.out hB4
  have HRK : Hid (_) := HRB.out V4 hB4
  clear hB4 hV4 FF HC3 HB3 HF3 HRB HS3
  go_wp2
  refine bp_genR fun V9 hV9 => ?_
  have q0 : (V4.setCell ⟨cb, 5 + a, none⟩ (.int .i64 (n))).cell? ⟨w.heap.size, 0, none⟩ = some (.int .i64 0) := (World.cell?_setCell_other _ _ _ _ (by intro q; simp only [Addr.mk.injEq] at q; exact hRc q.1.symm)).trans r0
  have q1 : (V4.setCell ⟨cb, 5 + a, none⟩ (.int .i64 (n))).cell? ⟨w.heap.size, 1, none⟩ = some (.int .i64 0) := (World.cell?_setCell_other _ _ _ _ (by intro q; simp only [Addr.mk.injEq] at q; exact hRc q.1.symm)).trans r1
  obtain ⟨k0, k1⟩ := blk2R (v0 := .int .i64 0) (v1 := .int .i64 0) q0 q1
  rw [<- hV9] at k0 k1
  have HC9 : Core n0 V9 cb M e (pc + 2) (rs.set a (n)) := by rw [hV9]; exact ((HC4.out.regSet HLA.out hcl (n)).far hMR.out hRc 0 _).far hMR.out hRc 1 _
  have HB9 : Below n0 w V9 := by rw [hV9]; exact ((HB4.out.setCell HC4.out.ge _).setCell hn0 _).setCell hn0 _
  have HF9 : FarSame M cb w V9 := by rw [hV9]; exact ((HF4.out.set (.inr (.inr rfl)) (5 + a) _).set (.inl (Nat.le_refl _)) 0 _).set (.inl (Nat.le_refl _)) 1 _
  have hR9 : R = ⟨M, pc + 2, rs.set a (n), 0, 0⟩ := by rw [HRR.out]; simp
  clear hV9
  (try simp only [Exit.inBlock, Exit.then])
  refine bodyPost_ret (by simp [results, Tryz.results139, go_sem, k0, k1]; try rfl) rfl ?_
  rw [hR9]
  exact ⟨M, Mv.Same.refl _, rfl, HC9, HB9, HF9, MineSub.refl _ _⟩
set_option maxRecDepth 100000 in
set_option maxHeartbeats 4000000 in
theorem step_add {n0 : Nat} {w : World} {cb : Nat} {M : Mv} {m : Nat} {pc : Int} {rs : List Int} (h : Core n0 w cb M ((m : Int) + 1) pc rs) (ho : RunOk M m pc rs) (hn0 : n0 <= w.heap.size) {x n : Int} {a1 a2 : Addr} (hf1 : wAddr M ((m : Int) + 1) pc 4 = some a1) (hf2 : wAddr M ((m : Int) + 1) (pc + 1) 4 = some a2)
    (hx : wordAt M (frmF M.frs ((m : Int) + 1) pc 4) pc = x) (hx2 : wordAt M (frmF M.frs ((m : Int) + 1) (pc + 1) 4) (pc + 1) = n) (hk : x % 16 = 2) :
    Calls Tryz.prog 139 #[.pointer (some ⟨cb, 0, none⟩)] w fun y w' => ∃ M' : Mv, M'.Same (doR M m pc rs x n (fun a b => bits .xor .i64 a b)).M /\ y = .returned (.agg #[.int .i64 (doR M m pc rs x n (fun a b => bits .xor .i64 a b)).nd, .int .i64 (doR M m pc rs x n (fun a b => bits .xor .i64 a b)).v]) /\ Core n0 w' cb M' ((m : Int) + 1) (doR M m pc rs x n (fun a b => bits .xor .i64 a b)).pc (doR M m pc rs x n (fun a b => bits .xor .i64 a b)).rs /\ Below n0 w w' /\ FarSame M cb w w' /\ MineSub M M' w.heap.size := by
  obtain ⟨e, he⟩ : ∃ e : Int, Hid (e = (m : Int) + 1) := ⟨_, rfl⟩
  rw [<- he.out] at h hf1 hf2 hx hx2 ⊢
  obtain ⟨W2, hW2⟩ : ∃ W2, Hid (W2 = w.alloc (.cells #[.int .i64 0, .int .i64 0] 47)) := ⟨_, rfl⟩
  have BW : Hid (Below w.heap.size w W2) := by show Below _ _ _; rw [hW2.out]; exact (Below.refl _ _).alloc (Nat.le_refl _) _
  have hblk : W2.heap[w.heap.size]? = some (.cells #[.int .i64 0, .int .i64 0] 47 (0, 0)) := by rw [hW2.out]; exact Go.Deep.blk_alloc_new _ _
  have rl : w.heap.size < W2.heap.size := (Array.getElem?_eq_some_iff.1 hblk).1
  have RB : Hid (∀ w', Below W2.heap.size W2 w' -> w'.heap[w.heap.size]? = some (.cells #[.int .i64 0, .int .i64 0] 47 (0, 0))) := fun w' h => (h.block _ rl).trans hblk
  have hMR : Hid (¬ Mine M w.heap.size) := fun q => by have := (Mine.fresh h.own q).2; omega
  have hRc : w.heap.size ≠ cb := by have := h.at_.lt; omega
  have HC2 : Hid (Core n0 W2 cb M e pc rs) := h.keep BW.out
  have hF := fetch_some M e pc x n rs cb W2 HC2.out.at_ HC2.out.own.at_ ho.good ho.pc.1 ho.pc.2 hf1 hf2 hx hx2
  have hxb : 0 <= x := by
    obtain ⟨_, _, _, k, hk, hfk, _⟩ := wAddr_word h.own.at_ ho.good ho.pc.1 hf1
    have := wordAt_in ho.good hk pc
    rw [<- hfk, hx] at this
    exact this.1
  obtain ⟨ea, eb, la, lb⟩ := reg_nat hxb
  have hpc := run_at (wAddr_word h.own.at_ ho.good ho.pc.1 hf1).2.2.1 ho.pc.1
  have hN : 0 <= n /\ n <= 65535 := by
    obtain ⟨_, _, _, k, hk, hfk, _⟩ := wAddr_word h.own.at_ ho.good (n := pc + 1) (by have := ho.pc; omega) hf2
    have := wordAt_in ho.good hk (pc + 1)
    rw [<- hfk, hx2] at this
    exact this
  have hp2 : IntKind.i64.wrap (pc + 2) = pc + 2 := by rw [IntKind.wrap_i64]; have := ho.pc; omega
  rw [hk, ea, eb] at hF
  obtain ⟨R, hR⟩ : ∃ R, Hid (R = doR M m pc rs x n (fun a b => bits .xor .i64 a b)) := ⟨_, rfl⟩
  rw [<- hR.out]
  have hRR := hR.out
  unfold doR at hRR
  rw [show kindR x = 2 from hk] at hRR
  have hkx : x % 16 = 2 := hk
  have hcr := ho.rs
  have hcl := ho.len
  generalize regA x = a at hRR ea la hF
  generalize regB x = b at hRR eb lb hF
  obtain ⟨ra, hra⟩ : ∃ ra, Hid (rs.getD a 0 = ra) := ⟨_, rfl⟩
  obtain ⟨rb, hrb⟩ : ∃ rb, Hid (rs.getD b 0 = rb) := ⟨_, rfl⟩
  have hba := hcr a
  have hbb := hcr b
  rw [hra.out] at hba hRR
  rw [hrb.out] at hbb hRR
  have HO : Hid (_) := ho
  have HRR : Hid (_) := hRR
  have HLA : Hid (a < 4) := la
  have HLB : Hid (b < 4) := lb
  have ha4 : (a : Int) < 4 := by omega
  have hb4 : (b : Int) < 4 := by omega
  clear hRR hR hf1 hf2 hx hx2 hk ea eb ho hcr hblk h hkx la lb
  go_enter Tryz.func139, Tryz.ntmps139
  go_upto_region 1 with fail
  rw [<- hW2.out]
  go_upto_region 5 with (go_at_call 146; refine hF.mono ?_; clear hF; rintro y W1 ⟨rfl, hb⟩; have HB1 : Hid (_) := hb; have hC1 := HC2.out.keep hb; have p4 := hC1.at_.c4; have pf := hC1.at_.fz 4; have pl := hC1.at_.lt; clear hb hC1)
  obtain ⟨V3, hV3⟩ : ∃ V3, Hid (V3 = (W1.setCell ⟨cb, 4, none⟩ (.int .i64 (pc + 2))).alloc (.cells #[.int .i64 2, .int .i64 (a : Int), .int .i64 (b : Int), .int .i64 n] 184)) := ⟨_, rfl⟩
  rw [<- hV3.out]
  have hs1 : (W1.setCell ⟨cb, 4, none⟩ (.int .i64 (pc + 2))).heap.size = W1.heap.size := by simp [World.setCell]
  have HC1 : Hid (Core n0 W1 cb M e pc rs) := HC2.out.keep HB1.out
  have HC3 : Hid (Core n0 V3 cb M e (pc + 2) rs) := by show Core _ _ _ _ _ _ _; rw [hV3.out]; exact (HC1.out.pcSet (pc + 2)).keep ((Below.refl _ _).alloc (Nat.le_refl _) _)
  have hib : V3.heap[W1.heap.size]? = some (.cells #[.int .i64 2, .int .i64 (a : Int), .int .i64 (b : Int), .int .i64 n] 184 (0, 0)) := by
    rw [hV3.out, <- hs1]; exact Go.Deep.blk_alloc_new _ _
  have hrb' : V3.heap[w.heap.size]? = some (.cells #[.int .i64 0, .int .i64 0] 47 (0, 0)) := by
    have h1 := RB.out W1 HB1.out
    have h2 : w.heap.size < W1.heap.size := (Array.getElem?_eq_some_iff.1 h1).1
    rw [hV3.out, Below.heap_alloc _ _ _ (by rw [hs1]; exact h2), Below.heap_setCell _ _ _ _ hRc]
    exact h1
  have HB3 : Hid (Below n0 w V3) := by
    show Below _ _ _
    rw [hV3.out]
    have q := (BW.out.mono hn0).trans (HB1.out.mono (by have := BW.out.size; omega))
    exact (q.setCell HC2.out.ge _).alloc (by rw [hs1]; have := q.size; omega) _
  have hIc : W1.heap.size ≠ cb := by have := HC1.out.at_.lt; omega
  have hIr : W1.heap.size ≠ w.heap.size := by have := HB1.out.size; have := rl; omega
  have FF : Hid (∀ V, Below V3.heap.size V3 V -> V.cell? ⟨W1.heap.size, 0, none⟩ = some (.int .i64 2) /\ V.cell? ⟨W1.heap.size, 1, none⟩ = some (.int .i64 (a : Int)) /\ V.cell? ⟨W1.heap.size, 2, none⟩ = some (.int .i64 (b : Int)) /\ V.cell? ⟨W1.heap.size, 3, none⟩ = some (.int .i64 n) /\ V.cell? ⟨cb, 5 + a, none⟩ = some (.int .i64 ra) /\ V.cell? ⟨cb, 5 + b, none⟩ = some (.int .i64 rb) /\ V.cell? ⟨cb, 4, none⟩ = some (.int .i64 (pc + 2)) /\ V.cell? ⟨w.heap.size, 0, none⟩ = some (.int .i64 0) /\ V.cell? ⟨w.heap.size, 1, none⟩ = some (.int .i64 0) /\ V.frozen? ⟨cb, 5 + a, none⟩ = false /\ V.frozen? ⟨cb, 4, none⟩ = false /\ V.frozen? ⟨w.heap.size, 0, none⟩ = false /\ V.frozen? ⟨w.heap.size, 1, none⟩ = false /\ cb < V.heap.size /\ w.heap.size < V.heap.size /\ W1.heap.size < V.heap.size) := fun V hV => by
    have li : W1.heap.size < V3.heap.size := (Array.getElem?_eq_some_iff.1 hib).1
    have lr : w.heap.size < V3.heap.size := (Array.getElem?_eq_some_iff.1 hrb').1
    have hib2 := (hV.block _ li).trans hib
    have hrb2 := (hV.block _ lr).trans hrb'
    have c := HC3.out.keep hV
    have ga := c.at_.cr a HLA.out
    have gb := c.at_.cr b HLB.out
    rw [hra.out] at ga
    rw [hrb.out] at gb
    exact ⟨by simp [World.cell?, hib2], by simp [World.cell?, hib2], by simp [World.cell?, hib2], by simp [World.cell?, hib2], ga, gb, c.at_.c4, by simp [World.cell?, hrb2], by simp [World.cell?, hrb2], c.at_.fz _, c.at_.fz _, frozen_of_block hrb2 0, frozen_of_block hrb2 1, c.at_.lt, Nat.lt_of_lt_of_le lr hV.size, Nat.lt_of_lt_of_le li hV.size⟩
  have HRB : Hid (∀ V, Below V3.heap.size V3 V -> V.heap[w.heap.size]? = some (.cells #[.int .i64 0, .int .i64 0] 47 (0, 0))) := fun V hV => (hV.block _ (Array.getElem?_eq_some_iff.1 hrb').1).trans hrb'
  have HF3 : Hid (FarSame M cb w V3) := by
    show FarSame _ _ _ _
    have q := ((FarSame.refl M cb w).below (Nat.le_refl _) BW.out).below BW.out.size HB1.out
    rw [hV3.out]
    exact (q.set (.inr (.inr rfl)) 4 _).below (by rw [hs1]; have := BW.out.size; have := HB1.out.size; omega) ((Below.refl _ _).alloc (Nat.le_refl _) _)
  have HS3 : Hid (w.heap.size <= V3.heap.size) := HB3.out.size
  obtain ⟨i0, i1, i2, i3, ga, gb, g4, r0, r1, fa, f4, f0, f1, lc, lr, li⟩ := FF.out V3 (Below.refl _ _)
  clear hV3 hib hrb' hs1 HC1 p4 pf pl HB1 RB BW
  go_quiet (fail)
  obtain ⟨V4, hV4⟩ : ∃ V4, Hid (V4 = V3.drewN nq) := ⟨_, rfl⟩
  rw [<- hV4.out]
  have hB4 : Below V3.heap.size V3 V4 := by rw [hV4.out]; exact below_drewN (Below.refl _ _) nq
  clear i0 i1 i2 i3 ga gb g4 r0 r1 fa f4 f0 f1 lc lr li
  obtain ⟨i0, i1, i2, i3, ga, gb, g4, r0, r1, fa, f4, f0, f1, lc, lr, li⟩ := FF.out V4 hB4
  have HC4 : Hid (Core n0 V4 cb M e (pc + 2) rs) := HC3.out.keep hB4
  have HB4 : Hid (Below n0 w V4) := HB3.out.trans (hB4.mono (by have := HB3.out.size; omega))
  have HF4 : Hid (FarSame M cb w V4) := HF3.out.below HS3.out hB4
  have HRK : Hid (_) := HRB.out V4 hB4
  clear hB4 hV4 FF HC3 HB3 HF3 HRB HS3
  have d1 : IntKind.i64.wrap (ra + rb) = ra + rb := by rw [IntKind.wrap_i64]; omega
  have d2 : Int.tmod (ra + rb) 65536 = (ra + rb) % 65536 := Int.tmod_eq_emod_of_nonneg (by omega)
  go_wp2
  refine bp_genR fun V9 hV9 => ?_
  have q0 : (V4.setCell ⟨cb, 5 + a, none⟩ (.int .i64 ((ra + rb) % 65536))).cell? ⟨w.heap.size, 0, none⟩ = some (.int .i64 0) := (World.cell?_setCell_other _ _ _ _ (by intro q; simp only [Addr.mk.injEq] at q; exact hRc q.1.symm)).trans r0
  have q1 : (V4.setCell ⟨cb, 5 + a, none⟩ (.int .i64 ((ra + rb) % 65536))).cell? ⟨w.heap.size, 1, none⟩ = some (.int .i64 0) := (World.cell?_setCell_other _ _ _ _ (by intro q; simp only [Addr.mk.injEq] at q; exact hRc q.1.symm)).trans r1
  obtain ⟨k0, k1⟩ := blk2R (v0 := .int .i64 0) (v1 := .int .i64 0) q0 q1
  rw [<- hV9] at k0 k1
  have HC9 : Core n0 V9 cb M e (pc + 2) (rs.set a ((ra + rb) % 65536)) := by rw [hV9]; exact ((HC4.out.regSet HLA.out hcl ((ra + rb) % 65536)).far hMR.out hRc 0 _).far hMR.out hRc 1 _
  have HB9 : Below n0 w V9 := by rw [hV9]; exact ((HB4.out.setCell HC4.out.ge _).setCell hn0 _).setCell hn0 _
  have HF9 : FarSame M cb w V9 := by rw [hV9]; exact ((HF4.out.set (.inr (.inr rfl)) (5 + a) _).set (.inl (Nat.le_refl _)) 0 _).set (.inl (Nat.le_refl _)) 1 _
  have hR9 : R = ⟨M, pc + 2, rs.set a ((ra + rb) % 65536), 0, 0⟩ := by rw [HRR.out]; simp
  clear hV9
  (try simp only [Exit.inBlock, Exit.then])
  refine bodyPost_ret (by simp [results, Tryz.results139, go_sem, k0, k1]; try rfl) rfl ?_
  rw [hR9]
  exact ⟨M, Mv.Same.refl _, rfl, HC9, HB9, HF9, MineSub.refl _ _⟩
set_option maxRecDepth 100000 in
set_option maxHeartbeats 4000000 in
theorem step_xor {n0 : Nat} {w : World} {cb : Nat} {M : Mv} {m : Nat} {pc : Int} {rs : List Int} (h : Core n0 w cb M ((m : Int) + 1) pc rs) (ho : RunOk M m pc rs) (hn0 : n0 <= w.heap.size) {x n : Int} {a1 a2 : Addr} (hf1 : wAddr M ((m : Int) + 1) pc 4 = some a1) (hf2 : wAddr M ((m : Int) + 1) (pc + 1) 4 = some a2)
    (hx : wordAt M (frmF M.frs ((m : Int) + 1) pc 4) pc = x) (hx2 : wordAt M (frmF M.frs ((m : Int) + 1) (pc + 1) 4) (pc + 1) = n) (hk : x % 16 = 3) :
    Calls Tryz.prog 139 #[.pointer (some ⟨cb, 0, none⟩)] w fun y w' => ∃ M' : Mv, M'.Same (doR M m pc rs x n (fun a b => bits .xor .i64 a b)).M /\ y = .returned (.agg #[.int .i64 (doR M m pc rs x n (fun a b => bits .xor .i64 a b)).nd, .int .i64 (doR M m pc rs x n (fun a b => bits .xor .i64 a b)).v]) /\ Core n0 w' cb M' ((m : Int) + 1) (doR M m pc rs x n (fun a b => bits .xor .i64 a b)).pc (doR M m pc rs x n (fun a b => bits .xor .i64 a b)).rs /\ Below n0 w w' /\ FarSame M cb w w' /\ MineSub M M' w.heap.size := by
  obtain ⟨e, he⟩ : ∃ e : Int, Hid (e = (m : Int) + 1) := ⟨_, rfl⟩
  rw [<- he.out] at h hf1 hf2 hx hx2 ⊢
  obtain ⟨W2, hW2⟩ : ∃ W2, Hid (W2 = w.alloc (.cells #[.int .i64 0, .int .i64 0] 47)) := ⟨_, rfl⟩
  have BW : Hid (Below w.heap.size w W2) := by show Below _ _ _; rw [hW2.out]; exact (Below.refl _ _).alloc (Nat.le_refl _) _
  have hblk : W2.heap[w.heap.size]? = some (.cells #[.int .i64 0, .int .i64 0] 47 (0, 0)) := by rw [hW2.out]; exact Go.Deep.blk_alloc_new _ _
  have rl : w.heap.size < W2.heap.size := (Array.getElem?_eq_some_iff.1 hblk).1
  have RB : Hid (∀ w', Below W2.heap.size W2 w' -> w'.heap[w.heap.size]? = some (.cells #[.int .i64 0, .int .i64 0] 47 (0, 0))) := fun w' h => (h.block _ rl).trans hblk
  have hMR : Hid (¬ Mine M w.heap.size) := fun q => by have := (Mine.fresh h.own q).2; omega
  have hRc : w.heap.size ≠ cb := by have := h.at_.lt; omega
  have HC2 : Hid (Core n0 W2 cb M e pc rs) := h.keep BW.out
  have hF := fetch_some M e pc x n rs cb W2 HC2.out.at_ HC2.out.own.at_ ho.good ho.pc.1 ho.pc.2 hf1 hf2 hx hx2
  have hxb : 0 <= x := by
    obtain ⟨_, _, _, k, hk, hfk, _⟩ := wAddr_word h.own.at_ ho.good ho.pc.1 hf1
    have := wordAt_in ho.good hk pc
    rw [<- hfk, hx] at this
    exact this.1
  obtain ⟨ea, eb, la, lb⟩ := reg_nat hxb
  have hpc := run_at (wAddr_word h.own.at_ ho.good ho.pc.1 hf1).2.2.1 ho.pc.1
  have hN : 0 <= n /\ n <= 65535 := by
    obtain ⟨_, _, _, k, hk, hfk, _⟩ := wAddr_word h.own.at_ ho.good (n := pc + 1) (by have := ho.pc; omega) hf2
    have := wordAt_in ho.good hk (pc + 1)
    rw [<- hfk, hx2] at this
    exact this
  have hp2 : IntKind.i64.wrap (pc + 2) = pc + 2 := by rw [IntKind.wrap_i64]; have := ho.pc; omega
  rw [hk, ea, eb] at hF
  obtain ⟨R, hR⟩ : ∃ R, Hid (R = doR M m pc rs x n (fun a b => bits .xor .i64 a b)) := ⟨_, rfl⟩
  rw [<- hR.out]
  have hRR := hR.out
  unfold doR at hRR
  rw [show kindR x = 3 from hk] at hRR
  have hkx : x % 16 = 3 := hk
  have hcr := ho.rs
  have hcl := ho.len
  generalize regA x = a at hRR ea la hF
  generalize regB x = b at hRR eb lb hF
  obtain ⟨ra, hra⟩ : ∃ ra, Hid (rs.getD a 0 = ra) := ⟨_, rfl⟩
  obtain ⟨rb, hrb⟩ : ∃ rb, Hid (rs.getD b 0 = rb) := ⟨_, rfl⟩
  have hba := hcr a
  have hbb := hcr b
  rw [hra.out] at hba hRR
  rw [hrb.out] at hbb hRR
  have HO : Hid (_) := ho
  have HRR : Hid (_) := hRR
  have HLA : Hid (a < 4) := la
  have HLB : Hid (b < 4) := lb
  have ha4 : (a : Int) < 4 := by omega
  have hb4 : (b : Int) < 4 := by omega
  clear hRR hR hf1 hf2 hx hx2 hk ea eb ho hcr hblk h hkx la lb
  go_enter Tryz.func139, Tryz.ntmps139
  go_upto_region 1 with fail
  rw [<- hW2.out]
  go_upto_region 5 with (go_at_call 146; refine hF.mono ?_; clear hF; rintro y W1 ⟨rfl, hb⟩; have HB1 : Hid (_) := hb; have hC1 := HC2.out.keep hb; have p4 := hC1.at_.c4; have pf := hC1.at_.fz 4; have pl := hC1.at_.lt; clear hb hC1)
  obtain ⟨V3, hV3⟩ : ∃ V3, Hid (V3 = (W1.setCell ⟨cb, 4, none⟩ (.int .i64 (pc + 2))).alloc (.cells #[.int .i64 3, .int .i64 (a : Int), .int .i64 (b : Int), .int .i64 n] 184)) := ⟨_, rfl⟩
  rw [<- hV3.out]
  have hs1 : (W1.setCell ⟨cb, 4, none⟩ (.int .i64 (pc + 2))).heap.size = W1.heap.size := by simp [World.setCell]
  have HC1 : Hid (Core n0 W1 cb M e pc rs) := HC2.out.keep HB1.out
  have HC3 : Hid (Core n0 V3 cb M e (pc + 2) rs) := by show Core _ _ _ _ _ _ _; rw [hV3.out]; exact (HC1.out.pcSet (pc + 2)).keep ((Below.refl _ _).alloc (Nat.le_refl _) _)
  have hib : V3.heap[W1.heap.size]? = some (.cells #[.int .i64 3, .int .i64 (a : Int), .int .i64 (b : Int), .int .i64 n] 184 (0, 0)) := by
    rw [hV3.out, <- hs1]; exact Go.Deep.blk_alloc_new _ _
  have hrb' : V3.heap[w.heap.size]? = some (.cells #[.int .i64 0, .int .i64 0] 47 (0, 0)) := by
    have h1 := RB.out W1 HB1.out
    have h2 : w.heap.size < W1.heap.size := (Array.getElem?_eq_some_iff.1 h1).1
    rw [hV3.out, Below.heap_alloc _ _ _ (by rw [hs1]; exact h2), Below.heap_setCell _ _ _ _ hRc]
    exact h1
  have HB3 : Hid (Below n0 w V3) := by
    show Below _ _ _
    rw [hV3.out]
    have q := (BW.out.mono hn0).trans (HB1.out.mono (by have := BW.out.size; omega))
    exact (q.setCell HC2.out.ge _).alloc (by rw [hs1]; have := q.size; omega) _
  have hIc : W1.heap.size ≠ cb := by have := HC1.out.at_.lt; omega
  have hIr : W1.heap.size ≠ w.heap.size := by have := HB1.out.size; have := rl; omega
  have FF : Hid (∀ V, Below V3.heap.size V3 V -> V.cell? ⟨W1.heap.size, 0, none⟩ = some (.int .i64 3) /\ V.cell? ⟨W1.heap.size, 1, none⟩ = some (.int .i64 (a : Int)) /\ V.cell? ⟨W1.heap.size, 2, none⟩ = some (.int .i64 (b : Int)) /\ V.cell? ⟨W1.heap.size, 3, none⟩ = some (.int .i64 n) /\ V.cell? ⟨cb, 5 + a, none⟩ = some (.int .i64 ra) /\ V.cell? ⟨cb, 5 + b, none⟩ = some (.int .i64 rb) /\ V.cell? ⟨cb, 4, none⟩ = some (.int .i64 (pc + 2)) /\ V.cell? ⟨w.heap.size, 0, none⟩ = some (.int .i64 0) /\ V.cell? ⟨w.heap.size, 1, none⟩ = some (.int .i64 0) /\ V.frozen? ⟨cb, 5 + a, none⟩ = false /\ V.frozen? ⟨cb, 4, none⟩ = false /\ V.frozen? ⟨w.heap.size, 0, none⟩ = false /\ V.frozen? ⟨w.heap.size, 1, none⟩ = false /\ cb < V.heap.size /\ w.heap.size < V.heap.size /\ W1.heap.size < V.heap.size) := fun V hV => by
    have li : W1.heap.size < V3.heap.size := (Array.getElem?_eq_some_iff.1 hib).1
    have lr : w.heap.size < V3.heap.size := (Array.getElem?_eq_some_iff.1 hrb').1
    have hib2 := (hV.block _ li).trans hib
    have hrb2 := (hV.block _ lr).trans hrb'
    have c := HC3.out.keep hV
    have ga := c.at_.cr a HLA.out
    have gb := c.at_.cr b HLB.out
    rw [hra.out] at ga
    rw [hrb.out] at gb
    exact ⟨by simp [World.cell?, hib2], by simp [World.cell?, hib2], by simp [World.cell?, hib2], by simp [World.cell?, hib2], ga, gb, c.at_.c4, by simp [World.cell?, hrb2], by simp [World.cell?, hrb2], c.at_.fz _, c.at_.fz _, frozen_of_block hrb2 0, frozen_of_block hrb2 1, c.at_.lt, Nat.lt_of_lt_of_le lr hV.size, Nat.lt_of_lt_of_le li hV.size⟩
  have HRB : Hid (∀ V, Below V3.heap.size V3 V -> V.heap[w.heap.size]? = some (.cells #[.int .i64 0, .int .i64 0] 47 (0, 0))) := fun V hV => (hV.block _ (Array.getElem?_eq_some_iff.1 hrb').1).trans hrb'
  have HF3 : Hid (FarSame M cb w V3) := by
    show FarSame _ _ _ _
    have q := ((FarSame.refl M cb w).below (Nat.le_refl _) BW.out).below BW.out.size HB1.out
    rw [hV3.out]
    exact (q.set (.inr (.inr rfl)) 4 _).below (by rw [hs1]; have := BW.out.size; have := HB1.out.size; omega) ((Below.refl _ _).alloc (Nat.le_refl _) _)
  have HS3 : Hid (w.heap.size <= V3.heap.size) := HB3.out.size
  obtain ⟨i0, i1, i2, i3, ga, gb, g4, r0, r1, fa, f4, f0, f1, lc, lr, li⟩ := FF.out V3 (Below.refl _ _)
  clear hV3 hib hrb' hs1 HC1 p4 pf pl HB1 RB BW
  go_quiet (fail)
  obtain ⟨V4, hV4⟩ : ∃ V4, Hid (V4 = V3.drewN nq) := ⟨_, rfl⟩
  rw [<- hV4.out]
  have hB4 : Below V3.heap.size V3 V4 := by rw [hV4.out]; exact below_drewN (Below.refl _ _) nq
  clear i0 i1 i2 i3 ga gb g4 r0 r1 fa f4 f0 f1 lc lr li
  obtain ⟨i0, i1, i2, i3, ga, gb, g4, r0, r1, fa, f4, f0, f1, lc, lr, li⟩ := FF.out V4 hB4
  have HC4 : Hid (Core n0 V4 cb M e (pc + 2) rs) := HC3.out.keep hB4
  have HB4 : Hid (Below n0 w V4) := HB3.out.trans (hB4.mono (by have := HB3.out.size; omega))
  have HF4 : Hid (FarSame M cb w V4) := HF3.out.below HS3.out hB4
  have HRK : Hid (_) := HRB.out V4 hB4
  clear hB4 hV4 FF HC3 HB3 HF3 HRB HS3
  go_wp2
  refine bp_genR fun V9 hV9 => ?_
  have q0 : (V4.setCell ⟨cb, 5 + a, none⟩ (.int .i64 (bits .xor .i64 ra rb))).cell? ⟨w.heap.size, 0, none⟩ = some (.int .i64 0) := (World.cell?_setCell_other _ _ _ _ (by intro q; simp only [Addr.mk.injEq] at q; exact hRc q.1.symm)).trans r0
  have q1 : (V4.setCell ⟨cb, 5 + a, none⟩ (.int .i64 (bits .xor .i64 ra rb))).cell? ⟨w.heap.size, 1, none⟩ = some (.int .i64 0) := (World.cell?_setCell_other _ _ _ _ (by intro q; simp only [Addr.mk.injEq] at q; exact hRc q.1.symm)).trans r1
  obtain ⟨k0, k1⟩ := blk2R (v0 := .int .i64 0) (v1 := .int .i64 0) q0 q1
  rw [<- hV9] at k0 k1
  have HC9 : Core n0 V9 cb M e (pc + 2) (rs.set a (bits .xor .i64 ra rb)) := by rw [hV9]; exact ((HC4.out.regSet HLA.out hcl (bits .xor .i64 ra rb)).far hMR.out hRc 0 _).far hMR.out hRc 1 _
  have HB9 : Below n0 w V9 := by rw [hV9]; exact ((HB4.out.setCell HC4.out.ge _).setCell hn0 _).setCell hn0 _
  have HF9 : FarSame M cb w V9 := by rw [hV9]; exact ((HF4.out.set (.inr (.inr rfl)) (5 + a) _).set (.inl (Nat.le_refl _)) 0 _).set (.inl (Nat.le_refl _)) 1 _
  have hR9 : R = ⟨M, pc + 2, rs.set a (bits .xor .i64 ra rb), 0, 0⟩ := by rw [HRR.out]; simp
  clear hV9
  (try simp only [Exit.inBlock, Exit.then])
  refine bodyPost_ret (by simp [results, Tryz.results139, go_sem, k0, k1]; try rfl) rfl ?_
  rw [hR9]
  exact ⟨M, Mv.Same.refl _, rfl, HC9, HB9, HF9, MineSub.refl _ _⟩
set_option maxRecDepth 100000 in
set_option maxHeartbeats 4000000 in
theorem step_lt {n0 : Nat} {w : World} {cb : Nat} {M : Mv} {m : Nat} {pc : Int} {rs : List Int} (h : Core n0 w cb M ((m : Int) + 1) pc rs) (ho : RunOk M m pc rs) (hn0 : n0 <= w.heap.size) {x n : Int} {a1 a2 : Addr} (hf1 : wAddr M ((m : Int) + 1) pc 4 = some a1) (hf2 : wAddr M ((m : Int) + 1) (pc + 1) 4 = some a2)
    (hx : wordAt M (frmF M.frs ((m : Int) + 1) pc 4) pc = x) (hx2 : wordAt M (frmF M.frs ((m : Int) + 1) (pc + 1) 4) (pc + 1) = n) (hk : x % 16 = 4) :
    Calls Tryz.prog 139 #[.pointer (some ⟨cb, 0, none⟩)] w fun y w' => ∃ M' : Mv, M'.Same (doR M m pc rs x n (fun a b => bits .xor .i64 a b)).M /\ y = .returned (.agg #[.int .i64 (doR M m pc rs x n (fun a b => bits .xor .i64 a b)).nd, .int .i64 (doR M m pc rs x n (fun a b => bits .xor .i64 a b)).v]) /\ Core n0 w' cb M' ((m : Int) + 1) (doR M m pc rs x n (fun a b => bits .xor .i64 a b)).pc (doR M m pc rs x n (fun a b => bits .xor .i64 a b)).rs /\ Below n0 w w' /\ FarSame M cb w w' /\ MineSub M M' w.heap.size := by
  obtain ⟨e, he⟩ : ∃ e : Int, Hid (e = (m : Int) + 1) := ⟨_, rfl⟩
  rw [<- he.out] at h hf1 hf2 hx hx2 ⊢
  obtain ⟨W2, hW2⟩ : ∃ W2, Hid (W2 = w.alloc (.cells #[.int .i64 0, .int .i64 0] 47)) := ⟨_, rfl⟩
  have BW : Hid (Below w.heap.size w W2) := by show Below _ _ _; rw [hW2.out]; exact (Below.refl _ _).alloc (Nat.le_refl _) _
  have hblk : W2.heap[w.heap.size]? = some (.cells #[.int .i64 0, .int .i64 0] 47 (0, 0)) := by rw [hW2.out]; exact Go.Deep.blk_alloc_new _ _
  have rl : w.heap.size < W2.heap.size := (Array.getElem?_eq_some_iff.1 hblk).1
  have RB : Hid (∀ w', Below W2.heap.size W2 w' -> w'.heap[w.heap.size]? = some (.cells #[.int .i64 0, .int .i64 0] 47 (0, 0))) := fun w' h => (h.block _ rl).trans hblk
  have hMR : Hid (¬ Mine M w.heap.size) := fun q => by have := (Mine.fresh h.own q).2; omega
  have hRc : w.heap.size ≠ cb := by have := h.at_.lt; omega
  have HC2 : Hid (Core n0 W2 cb M e pc rs) := h.keep BW.out
  have hF := fetch_some M e pc x n rs cb W2 HC2.out.at_ HC2.out.own.at_ ho.good ho.pc.1 ho.pc.2 hf1 hf2 hx hx2
  have hxb : 0 <= x := by
    obtain ⟨_, _, _, k, hk, hfk, _⟩ := wAddr_word h.own.at_ ho.good ho.pc.1 hf1
    have := wordAt_in ho.good hk pc
    rw [<- hfk, hx] at this
    exact this.1
  obtain ⟨ea, eb, la, lb⟩ := reg_nat hxb
  have hpc := run_at (wAddr_word h.own.at_ ho.good ho.pc.1 hf1).2.2.1 ho.pc.1
  have hN : 0 <= n /\ n <= 65535 := by
    obtain ⟨_, _, _, k, hk, hfk, _⟩ := wAddr_word h.own.at_ ho.good (n := pc + 1) (by have := ho.pc; omega) hf2
    have := wordAt_in ho.good hk (pc + 1)
    rw [<- hfk, hx2] at this
    exact this
  have hp2 : IntKind.i64.wrap (pc + 2) = pc + 2 := by rw [IntKind.wrap_i64]; have := ho.pc; omega
  rw [hk, ea, eb] at hF
  obtain ⟨R, hR⟩ : ∃ R, Hid (R = doR M m pc rs x n (fun a b => bits .xor .i64 a b)) := ⟨_, rfl⟩
  rw [<- hR.out]
  have hRR := hR.out
  unfold doR at hRR
  rw [show kindR x = 4 from hk] at hRR
  have hkx : x % 16 = 4 := hk
  have hcr := ho.rs
  have hcl := ho.len
  generalize regA x = a at hRR ea la hF
  generalize regB x = b at hRR eb lb hF
  obtain ⟨ra, hra⟩ : ∃ ra, Hid (rs.getD a 0 = ra) := ⟨_, rfl⟩
  obtain ⟨rb, hrb⟩ : ∃ rb, Hid (rs.getD b 0 = rb) := ⟨_, rfl⟩
  have hba := hcr a
  have hbb := hcr b
  rw [hra.out] at hba hRR
  rw [hrb.out] at hbb hRR
  have HO : Hid (_) := ho
  have HRR : Hid (_) := hRR
  have HLA : Hid (a < 4) := la
  have HLB : Hid (b < 4) := lb
  have ha4 : (a : Int) < 4 := by omega
  have hb4 : (b : Int) < 4 := by omega
  clear hRR hR hf1 hf2 hx hx2 hk ea eb ho hcr hblk h hkx la lb
  go_enter Tryz.func139, Tryz.ntmps139
  go_upto_region 1 with fail
  rw [<- hW2.out]
  go_upto_region 5 with (go_at_call 146; refine hF.mono ?_; clear hF; rintro y W1 ⟨rfl, hb⟩; have HB1 : Hid (_) := hb; have hC1 := HC2.out.keep hb; have p4 := hC1.at_.c4; have pf := hC1.at_.fz 4; have pl := hC1.at_.lt; clear hb hC1)
  obtain ⟨V3, hV3⟩ : ∃ V3, Hid (V3 = (W1.setCell ⟨cb, 4, none⟩ (.int .i64 (pc + 2))).alloc (.cells #[.int .i64 4, .int .i64 (a : Int), .int .i64 (b : Int), .int .i64 n] 184)) := ⟨_, rfl⟩
  rw [<- hV3.out]
  have hs1 : (W1.setCell ⟨cb, 4, none⟩ (.int .i64 (pc + 2))).heap.size = W1.heap.size := by simp [World.setCell]
  have HC1 : Hid (Core n0 W1 cb M e pc rs) := HC2.out.keep HB1.out
  have HC3 : Hid (Core n0 V3 cb M e (pc + 2) rs) := by show Core _ _ _ _ _ _ _; rw [hV3.out]; exact (HC1.out.pcSet (pc + 2)).keep ((Below.refl _ _).alloc (Nat.le_refl _) _)
  have hib : V3.heap[W1.heap.size]? = some (.cells #[.int .i64 4, .int .i64 (a : Int), .int .i64 (b : Int), .int .i64 n] 184 (0, 0)) := by
    rw [hV3.out, <- hs1]; exact Go.Deep.blk_alloc_new _ _
  have hrb' : V3.heap[w.heap.size]? = some (.cells #[.int .i64 0, .int .i64 0] 47 (0, 0)) := by
    have h1 := RB.out W1 HB1.out
    have h2 : w.heap.size < W1.heap.size := (Array.getElem?_eq_some_iff.1 h1).1
    rw [hV3.out, Below.heap_alloc _ _ _ (by rw [hs1]; exact h2), Below.heap_setCell _ _ _ _ hRc]
    exact h1
  have HB3 : Hid (Below n0 w V3) := by
    show Below _ _ _
    rw [hV3.out]
    have q := (BW.out.mono hn0).trans (HB1.out.mono (by have := BW.out.size; omega))
    exact (q.setCell HC2.out.ge _).alloc (by rw [hs1]; have := q.size; omega) _
  have hIc : W1.heap.size ≠ cb := by have := HC1.out.at_.lt; omega
  have hIr : W1.heap.size ≠ w.heap.size := by have := HB1.out.size; have := rl; omega
  have FF : Hid (∀ V, Below V3.heap.size V3 V -> V.cell? ⟨W1.heap.size, 0, none⟩ = some (.int .i64 4) /\ V.cell? ⟨W1.heap.size, 1, none⟩ = some (.int .i64 (a : Int)) /\ V.cell? ⟨W1.heap.size, 2, none⟩ = some (.int .i64 (b : Int)) /\ V.cell? ⟨W1.heap.size, 3, none⟩ = some (.int .i64 n) /\ V.cell? ⟨cb, 5 + a, none⟩ = some (.int .i64 ra) /\ V.cell? ⟨cb, 5 + b, none⟩ = some (.int .i64 rb) /\ V.cell? ⟨cb, 4, none⟩ = some (.int .i64 (pc + 2)) /\ V.cell? ⟨w.heap.size, 0, none⟩ = some (.int .i64 0) /\ V.cell? ⟨w.heap.size, 1, none⟩ = some (.int .i64 0) /\ V.frozen? ⟨cb, 5 + a, none⟩ = false /\ V.frozen? ⟨cb, 4, none⟩ = false /\ V.frozen? ⟨w.heap.size, 0, none⟩ = false /\ V.frozen? ⟨w.heap.size, 1, none⟩ = false /\ cb < V.heap.size /\ w.heap.size < V.heap.size /\ W1.heap.size < V.heap.size) := fun V hV => by
    have li : W1.heap.size < V3.heap.size := (Array.getElem?_eq_some_iff.1 hib).1
    have lr : w.heap.size < V3.heap.size := (Array.getElem?_eq_some_iff.1 hrb').1
    have hib2 := (hV.block _ li).trans hib
    have hrb2 := (hV.block _ lr).trans hrb'
    have c := HC3.out.keep hV
    have ga := c.at_.cr a HLA.out
    have gb := c.at_.cr b HLB.out
    rw [hra.out] at ga
    rw [hrb.out] at gb
    exact ⟨by simp [World.cell?, hib2], by simp [World.cell?, hib2], by simp [World.cell?, hib2], by simp [World.cell?, hib2], ga, gb, c.at_.c4, by simp [World.cell?, hrb2], by simp [World.cell?, hrb2], c.at_.fz _, c.at_.fz _, frozen_of_block hrb2 0, frozen_of_block hrb2 1, c.at_.lt, Nat.lt_of_lt_of_le lr hV.size, Nat.lt_of_lt_of_le li hV.size⟩
  have HRB : Hid (∀ V, Below V3.heap.size V3 V -> V.heap[w.heap.size]? = some (.cells #[.int .i64 0, .int .i64 0] 47 (0, 0))) := fun V hV => (hV.block _ (Array.getElem?_eq_some_iff.1 hrb').1).trans hrb'
  have HF3 : Hid (FarSame M cb w V3) := by
    show FarSame _ _ _ _
    have q := ((FarSame.refl M cb w).below (Nat.le_refl _) BW.out).below BW.out.size HB1.out
    rw [hV3.out]
    exact (q.set (.inr (.inr rfl)) 4 _).below (by rw [hs1]; have := BW.out.size; have := HB1.out.size; omega) ((Below.refl _ _).alloc (Nat.le_refl _) _)
  have HS3 : Hid (w.heap.size <= V3.heap.size) := HB3.out.size
  obtain ⟨i0, i1, i2, i3, ga, gb, g4, r0, r1, fa, f4, f0, f1, lc, lr, li⟩ := FF.out V3 (Below.refl _ _)
  clear hV3 hib hrb' hs1 HC1 p4 pf pl HB1 RB BW
  go_quiet (fail)
  obtain ⟨V4, hV4⟩ : ∃ V4, Hid (V4 = V3.drewN nq) := ⟨_, rfl⟩
  rw [<- hV4.out]
  have hB4 : Below V3.heap.size V3 V4 := by rw [hV4.out]; exact below_drewN (Below.refl _ _) nq
  clear i0 i1 i2 i3 ga gb g4 r0 r1 fa f4 f0 f1 lc lr li
  obtain ⟨i0, i1, i2, i3, ga, gb, g4, r0, r1, fa, f4, f0, f1, lc, lr, li⟩ := FF.out V4 hB4
  have HC4 : Hid (Core n0 V4 cb M e (pc + 2) rs) := HC3.out.keep hB4
  have HB4 : Hid (Below n0 w V4) := HB3.out.trans (hB4.mono (by have := HB3.out.size; omega))
  have HF4 : Hid (FarSame M cb w V4) := HF3.out.below HS3.out hB4
  have HRK : Hid (_) := HRB.out V4 hB4
  clear hB4 hV4 FF HC3 HB3 HF3 HRB HS3
  by_cases hlt : ra < rb
  · have HLT : Hid (ra < rb) := hlt
    go_wp2_with (go_at_call 148; refine (one_true _).mono ?_; rintro y w' ⟨rfl, rfl⟩)
    refine bp_genR fun V9 hV9 => ?_
    have q0 : (V4.setCell ⟨cb, 5 + a, none⟩ (.int .i64 (1))).cell? ⟨w.heap.size, 0, none⟩ = some (.int .i64 0) := (World.cell?_setCell_other _ _ _ _ (by intro q; simp only [Addr.mk.injEq] at q; exact hRc q.1.symm)).trans r0
    have q1 : (V4.setCell ⟨cb, 5 + a, none⟩ (.int .i64 (1))).cell? ⟨w.heap.size, 1, none⟩ = some (.int .i64 0) := (World.cell?_setCell_other _ _ _ _ (by intro q; simp only [Addr.mk.injEq] at q; exact hRc q.1.symm)).trans r1
    obtain ⟨k0, k1⟩ := blk2R (v0 := .int .i64 0) (v1 := .int .i64 0) q0 q1
    rw [<- hV9] at k0 k1
    have HC9 : Core n0 V9 cb M e (pc + 2) (rs.set a (1)) := by rw [hV9]; exact ((HC4.out.regSet HLA.out hcl (1)).far hMR.out hRc 0 _).far hMR.out hRc 1 _
    have HB9 : Below n0 w V9 := by rw [hV9]; exact ((HB4.out.setCell HC4.out.ge _).setCell hn0 _).setCell hn0 _
    have HF9 : FarSame M cb w V9 := by rw [hV9]; exact ((HF4.out.set (.inr (.inr rfl)) (5 + a) _).set (.inl (Nat.le_refl _)) 0 _).set (.inl (Nat.le_refl _)) 1 _
    have hR9 : R = ⟨M, pc + 2, rs.set a (1), 0, 0⟩ := by rw [HRR.out, if_pos (c := ra < rb) (by have := HLT.out; omega)]; simp
    clear hV9
    (try simp only [Exit.inBlock, Exit.then])
    refine bodyPost_ret (by simp [results, Tryz.results139, go_sem, k0, k1]; try rfl) rfl ?_
    rw [hR9]
    exact ⟨M, Mv.Same.refl _, rfl, HC9, HB9, HF9, MineSub.refl _ _⟩
  · have HLT : Hid (¬ ra < rb) := hlt
    go_wp2_with (go_at_call 148; refine (one_false _).mono ?_; rintro y w' ⟨rfl, rfl⟩)
    refine bp_genR fun V9 hV9 => ?_
    have q0 : (V4.setCell ⟨cb, 5 + a, none⟩ (.int .i64 (0))).cell? ⟨w.heap.size, 0, none⟩ = some (.int .i64 0) := (World.cell?_setCell_other _ _ _ _ (by intro q; simp only [Addr.mk.injEq] at q; exact hRc q.1.symm)).trans r0
    have q1 : (V4.setCell ⟨cb, 5 + a, none⟩ (.int .i64 (0))).cell? ⟨w.heap.size, 1, none⟩ = some (.int .i64 0) := (World.cell?_setCell_other _ _ _ _ (by intro q; simp only [Addr.mk.injEq] at q; exact hRc q.1.symm)).trans r1
    obtain ⟨k0, k1⟩ := blk2R (v0 := .int .i64 0) (v1 := .int .i64 0) q0 q1
    rw [<- hV9] at k0 k1
    have HC9 : Core n0 V9 cb M e (pc + 2) (rs.set a (0)) := by rw [hV9]; exact ((HC4.out.regSet HLA.out hcl (0)).far hMR.out hRc 0 _).far hMR.out hRc 1 _
    have HB9 : Below n0 w V9 := by rw [hV9]; exact ((HB4.out.setCell HC4.out.ge _).setCell hn0 _).setCell hn0 _
    have HF9 : FarSame M cb w V9 := by rw [hV9]; exact ((HF4.out.set (.inr (.inr rfl)) (5 + a) _).set (.inl (Nat.le_refl _)) 0 _).set (.inl (Nat.le_refl _)) 1 _
    have hR9 : R = ⟨M, pc + 2, rs.set a (0), 0, 0⟩ := by rw [HRR.out, if_neg (c := ra < rb) (by have := HLT.out; omega)]; simp
    clear hV9
    (try simp only [Exit.inBlock, Exit.then])
    refine bodyPost_ret (by simp [results, Tryz.results139, go_sem, k0, k1]; try rfl) rfl ?_
    rw [hR9]
    exact ⟨M, Mv.Same.refl _, rfl, HC9, HB9, HF9, MineSub.refl _ _⟩
set_option maxRecDepth 100000 in
set_option maxHeartbeats 4000000 in
theorem step_exit {n0 : Nat} {w : World} {cb : Nat} {M : Mv} {m : Nat} {pc : Int} {rs : List Int} (h : Core n0 w cb M ((m : Int) + 1) pc rs) (ho : RunOk M m pc rs) (hn0 : n0 <= w.heap.size) {x n : Int} {a1 a2 : Addr} (hf1 : wAddr M ((m : Int) + 1) pc 4 = some a1) (hf2 : wAddr M ((m : Int) + 1) (pc + 1) 4 = some a2)
    (hx : wordAt M (frmF M.frs ((m : Int) + 1) pc 4) pc = x) (hx2 : wordAt M (frmF M.frs ((m : Int) + 1) (pc + 1) 4) (pc + 1) = n) (hk : x % 16 = 8) :
    Calls Tryz.prog 139 #[.pointer (some ⟨cb, 0, none⟩)] w fun y w' => ∃ M' : Mv, M'.Same (doR M m pc rs x n (fun a b => bits .xor .i64 a b)).M /\ y = .returned (.agg #[.int .i64 (doR M m pc rs x n (fun a b => bits .xor .i64 a b)).nd, .int .i64 (doR M m pc rs x n (fun a b => bits .xor .i64 a b)).v]) /\ Core n0 w' cb M' ((m : Int) + 1) (doR M m pc rs x n (fun a b => bits .xor .i64 a b)).pc (doR M m pc rs x n (fun a b => bits .xor .i64 a b)).rs /\ Below n0 w w' /\ FarSame M cb w w' /\ MineSub M M' w.heap.size := by
  obtain ⟨e, he⟩ : ∃ e : Int, Hid (e = (m : Int) + 1) := ⟨_, rfl⟩
  rw [<- he.out] at h hf1 hf2 hx hx2 ⊢
  obtain ⟨W2, hW2⟩ : ∃ W2, Hid (W2 = w.alloc (.cells #[.int .i64 0, .int .i64 0] 47)) := ⟨_, rfl⟩
  have BW : Hid (Below w.heap.size w W2) := by show Below _ _ _; rw [hW2.out]; exact (Below.refl _ _).alloc (Nat.le_refl _) _
  have hblk : W2.heap[w.heap.size]? = some (.cells #[.int .i64 0, .int .i64 0] 47 (0, 0)) := by rw [hW2.out]; exact Go.Deep.blk_alloc_new _ _
  have rl : w.heap.size < W2.heap.size := (Array.getElem?_eq_some_iff.1 hblk).1
  have RB : Hid (∀ w', Below W2.heap.size W2 w' -> w'.heap[w.heap.size]? = some (.cells #[.int .i64 0, .int .i64 0] 47 (0, 0))) := fun w' h => (h.block _ rl).trans hblk
  have hMR : Hid (¬ Mine M w.heap.size) := fun q => by have := (Mine.fresh h.own q).2; omega
  have hRc : w.heap.size ≠ cb := by have := h.at_.lt; omega
  have HC2 : Hid (Core n0 W2 cb M e pc rs) := h.keep BW.out
  have hF := fetch_some M e pc x n rs cb W2 HC2.out.at_ HC2.out.own.at_ ho.good ho.pc.1 ho.pc.2 hf1 hf2 hx hx2
  have hxb : 0 <= x := by
    obtain ⟨_, _, _, k, hk, hfk, _⟩ := wAddr_word h.own.at_ ho.good ho.pc.1 hf1
    have := wordAt_in ho.good hk pc
    rw [<- hfk, hx] at this
    exact this.1
  obtain ⟨ea, eb, la, lb⟩ := reg_nat hxb
  have hpc := run_at (wAddr_word h.own.at_ ho.good ho.pc.1 hf1).2.2.1 ho.pc.1
  have hN : 0 <= n /\ n <= 65535 := by
    obtain ⟨_, _, _, k, hk, hfk, _⟩ := wAddr_word h.own.at_ ho.good (n := pc + 1) (by have := ho.pc; omega) hf2
    have := wordAt_in ho.good hk (pc + 1)
    rw [<- hfk, hx2] at this
    exact this
  have hp2 : IntKind.i64.wrap (pc + 2) = pc + 2 := by rw [IntKind.wrap_i64]; have := ho.pc; omega
  rw [hk, ea, eb] at hF
  obtain ⟨R, hR⟩ : ∃ R, Hid (R = doR M m pc rs x n (fun a b => bits .xor .i64 a b)) := ⟨_, rfl⟩
  rw [<- hR.out]
  have hRR := hR.out
  unfold doR at hRR
  rw [show kindR x = 8 from hk] at hRR
  have hkx : x % 16 = 8 := hk
  have hcr := ho.rs
  have hcl := ho.len
  generalize regA x = a at hRR ea la hF
  generalize regB x = b at hRR eb lb hF
  obtain ⟨ra, hra⟩ : ∃ ra, Hid (rs.getD a 0 = ra) := ⟨_, rfl⟩
  obtain ⟨rb, hrb⟩ : ∃ rb, Hid (rs.getD b 0 = rb) := ⟨_, rfl⟩
  have hba := hcr a
  have hbb := hcr b
  rw [hra.out] at hba hRR
  rw [hrb.out] at hbb hRR
  have HO : Hid (_) := ho
  have HRR : Hid (_) := hRR
  have HLA : Hid (a < 4) := la
  have HLB : Hid (b < 4) := lb
  have ha4 : (a : Int) < 4 := by omega
  have hb4 : (b : Int) < 4 := by omega
  clear hRR hR hf1 hf2 hx hx2 hk ea eb ho hcr hblk h hkx la lb
  go_enter Tryz.func139, Tryz.ntmps139
  go_upto_region 1 with fail
  rw [<- hW2.out]
  go_upto_region 5 with (go_at_call 146; refine hF.mono ?_; clear hF; rintro y W1 ⟨rfl, hb⟩; have HB1 : Hid (_) := hb; have hC1 := HC2.out.keep hb; have p4 := hC1.at_.c4; have pf := hC1.at_.fz 4; have pl := hC1.at_.lt; clear hb hC1)
  obtain ⟨V3, hV3⟩ : ∃ V3, Hid (V3 = (W1.setCell ⟨cb, 4, none⟩ (.int .i64 (pc + 2))).alloc (.cells #[.int .i64 8, .int .i64 (a : Int), .int .i64 (b : Int), .int .i64 n] 184)) := ⟨_, rfl⟩
  rw [<- hV3.out]
  have hs1 : (W1.setCell ⟨cb, 4, none⟩ (.int .i64 (pc + 2))).heap.size = W1.heap.size := by simp [World.setCell]
  have HC1 : Hid (Core n0 W1 cb M e pc rs) := HC2.out.keep HB1.out
  have HC3 : Hid (Core n0 V3 cb M e (pc + 2) rs) := by show Core _ _ _ _ _ _ _; rw [hV3.out]; exact (HC1.out.pcSet (pc + 2)).keep ((Below.refl _ _).alloc (Nat.le_refl _) _)
  have hib : V3.heap[W1.heap.size]? = some (.cells #[.int .i64 8, .int .i64 (a : Int), .int .i64 (b : Int), .int .i64 n] 184 (0, 0)) := by
    rw [hV3.out, <- hs1]; exact Go.Deep.blk_alloc_new _ _
  have hrb' : V3.heap[w.heap.size]? = some (.cells #[.int .i64 0, .int .i64 0] 47 (0, 0)) := by
    have h1 := RB.out W1 HB1.out
    have h2 : w.heap.size < W1.heap.size := (Array.getElem?_eq_some_iff.1 h1).1
    rw [hV3.out, Below.heap_alloc _ _ _ (by rw [hs1]; exact h2), Below.heap_setCell _ _ _ _ hRc]
    exact h1
  have HB3 : Hid (Below n0 w V3) := by
    show Below _ _ _
    rw [hV3.out]
    have q := (BW.out.mono hn0).trans (HB1.out.mono (by have := BW.out.size; omega))
    exact (q.setCell HC2.out.ge _).alloc (by rw [hs1]; have := q.size; omega) _
  have hIc : W1.heap.size ≠ cb := by have := HC1.out.at_.lt; omega
  have hIr : W1.heap.size ≠ w.heap.size := by have := HB1.out.size; have := rl; omega
  have FF : Hid (∀ V, Below V3.heap.size V3 V -> V.cell? ⟨W1.heap.size, 0, none⟩ = some (.int .i64 8) /\ V.cell? ⟨W1.heap.size, 1, none⟩ = some (.int .i64 (a : Int)) /\ V.cell? ⟨W1.heap.size, 2, none⟩ = some (.int .i64 (b : Int)) /\ V.cell? ⟨W1.heap.size, 3, none⟩ = some (.int .i64 n) /\ V.cell? ⟨cb, 5 + a, none⟩ = some (.int .i64 ra) /\ V.cell? ⟨cb, 5 + b, none⟩ = some (.int .i64 rb) /\ V.cell? ⟨cb, 4, none⟩ = some (.int .i64 (pc + 2)) /\ V.cell? ⟨w.heap.size, 0, none⟩ = some (.int .i64 0) /\ V.cell? ⟨w.heap.size, 1, none⟩ = some (.int .i64 0) /\ V.frozen? ⟨cb, 5 + a, none⟩ = false /\ V.frozen? ⟨cb, 4, none⟩ = false /\ V.frozen? ⟨w.heap.size, 0, none⟩ = false /\ V.frozen? ⟨w.heap.size, 1, none⟩ = false /\ cb < V.heap.size /\ w.heap.size < V.heap.size /\ W1.heap.size < V.heap.size) := fun V hV => by
    have li : W1.heap.size < V3.heap.size := (Array.getElem?_eq_some_iff.1 hib).1
    have lr : w.heap.size < V3.heap.size := (Array.getElem?_eq_some_iff.1 hrb').1
    have hib2 := (hV.block _ li).trans hib
    have hrb2 := (hV.block _ lr).trans hrb'
    have c := HC3.out.keep hV
    have ga := c.at_.cr a HLA.out
    have gb := c.at_.cr b HLB.out
    rw [hra.out] at ga
    rw [hrb.out] at gb
    exact ⟨by simp [World.cell?, hib2], by simp [World.cell?, hib2], by simp [World.cell?, hib2], by simp [World.cell?, hib2], ga, gb, c.at_.c4, by simp [World.cell?, hrb2], by simp [World.cell?, hrb2], c.at_.fz _, c.at_.fz _, frozen_of_block hrb2 0, frozen_of_block hrb2 1, c.at_.lt, Nat.lt_of_lt_of_le lr hV.size, Nat.lt_of_lt_of_le li hV.size⟩
  have HRB : Hid (∀ V, Below V3.heap.size V3 V -> V.heap[w.heap.size]? = some (.cells #[.int .i64 0, .int .i64 0] 47 (0, 0))) := fun V hV => (hV.block _ (Array.getElem?_eq_some_iff.1 hrb').1).trans hrb'
  have HF3 : Hid (FarSame M cb w V3) := by
    show FarSame _ _ _ _
    have q := ((FarSame.refl M cb w).below (Nat.le_refl _) BW.out).below BW.out.size HB1.out
    rw [hV3.out]
    exact (q.set (.inr (.inr rfl)) 4 _).below (by rw [hs1]; have := BW.out.size; have := HB1.out.size; omega) ((Below.refl _ _).alloc (Nat.le_refl _) _)
  have HS3 : Hid (w.heap.size <= V3.heap.size) := HB3.out.size
  obtain ⟨i0, i1, i2, i3, ga, gb, g4, r0, r1, fa, f4, f0, f1, lc, lr, li⟩ := FF.out V3 (Below.refl _ _)
  clear hV3 hib hrb' hs1 HC1 p4 pf pl HB1 RB BW
  go_quiet (fail)
  obtain ⟨V4, hV4⟩ : ∃ V4, Hid (V4 = V3.drewN nq) := ⟨_, rfl⟩
  rw [<- hV4.out]
  have hB4 : Below V3.heap.size V3 V4 := by rw [hV4.out]; exact below_drewN (Below.refl _ _) nq
  clear i0 i1 i2 i3 ga gb g4 r0 r1 fa f4 f0 f1 lc lr li
  obtain ⟨i0, i1, i2, i3, ga, gb, g4, r0, r1, fa, f4, f0, f1, lc, lr, li⟩ := FF.out V4 hB4
  have HC4 : Hid (Core n0 V4 cb M e (pc + 2) rs) := HC3.out.keep hB4
  have HB4 : Hid (Below n0 w V4) := HB3.out.trans (hB4.mono (by have := HB3.out.size; omega))
  have HF4 : Hid (FarSame M cb w V4) := HF3.out.below HS3.out hB4
  have HRK : Hid (_) := HRB.out V4 hB4
  clear hB4 hV4 FF HC3 HB3 HF3 HRB HS3
  go_wp2
  refine bp_genR fun V9 hV9 => ?_
  obtain ⟨k0, k1⟩ := blk2R (v0 := .int .i64 1) (v1 := .int .i64 (ra)) r0 r1
  rw [<- hV9] at k0 k1
  have HC9 : Core n0 V9 cb M e (pc + 2) rs := by rw [hV9]; exact ((HC4.out).far hMR.out hRc 0 _).far hMR.out hRc 1 _
  have HB9 : Below n0 w V9 := by rw [hV9]; exact ((HB4.out).setCell hn0 _).setCell hn0 _
  have HF9 : FarSame M cb w V9 := by rw [hV9]; exact ((HF4.out).set (.inl (Nat.le_refl _)) 0 _).set (.inl (Nat.le_refl _)) 1 _
  have hR9 : R = ⟨M, pc + 2, rs, 1, ra⟩ := by rw [HRR.out]; simp
  clear hV9
  (try simp only [Exit.inBlock, Exit.then])
  refine bodyPost_ret (by simp [results, Tryz.results139, go_sem, k0, k1]; try rfl) rfl ?_
  rw [hR9]
  exact ⟨M, Mv.Same.refl _, rfl, HC9, HB9, HF9, MineSub.refl _ _⟩
set_option maxRecDepth 100000 in
set_option maxHeartbeats 4000000 in
theorem step_jz {n0 : Nat} {w : World} {cb : Nat} {M : Mv} {m : Nat} {pc : Int} {rs : List Int} (h : Core n0 w cb M ((m : Int) + 1) pc rs) (ho : RunOk M m pc rs) (hn0 : n0 <= w.heap.size) {x n : Int} {a1 a2 : Addr} (hf1 : wAddr M ((m : Int) + 1) pc 4 = some a1) (hf2 : wAddr M ((m : Int) + 1) (pc + 1) 4 = some a2)
    (hx : wordAt M (frmF M.frs ((m : Int) + 1) pc 4) pc = x) (hx2 : wordAt M (frmF M.frs ((m : Int) + 1) (pc + 1) 4) (pc + 1) = n) (hk : x % 16 = 7) :
    Calls Tryz.prog 139 #[.pointer (some ⟨cb, 0, none⟩)] w fun y w' => ∃ M' : Mv, M'.Same (doR M m pc rs x n (fun a b => bits .xor .i64 a b)).M /\ y = .returned (.agg #[.int .i64 (doR M m pc rs x n (fun a b => bits .xor .i64 a b)).nd, .int .i64 (doR M m pc rs x n (fun a b => bits .xor .i64 a b)).v]) /\ Core n0 w' cb M' ((m : Int) + 1) (doR M m pc rs x n (fun a b => bits .xor .i64 a b)).pc (doR M m pc rs x n (fun a b => bits .xor .i64 a b)).rs /\ Below n0 w w' /\ FarSame M cb w w' /\ MineSub M M' w.heap.size := by
  obtain ⟨e, he⟩ : ∃ e : Int, Hid (e = (m : Int) + 1) := ⟨_, rfl⟩
  rw [<- he.out] at h hf1 hf2 hx hx2 ⊢
  obtain ⟨W2, hW2⟩ : ∃ W2, Hid (W2 = w.alloc (.cells #[.int .i64 0, .int .i64 0] 47)) := ⟨_, rfl⟩
  have BW : Hid (Below w.heap.size w W2) := by show Below _ _ _; rw [hW2.out]; exact (Below.refl _ _).alloc (Nat.le_refl _) _
  have hblk : W2.heap[w.heap.size]? = some (.cells #[.int .i64 0, .int .i64 0] 47 (0, 0)) := by rw [hW2.out]; exact Go.Deep.blk_alloc_new _ _
  have rl : w.heap.size < W2.heap.size := (Array.getElem?_eq_some_iff.1 hblk).1
  have RB : Hid (∀ w', Below W2.heap.size W2 w' -> w'.heap[w.heap.size]? = some (.cells #[.int .i64 0, .int .i64 0] 47 (0, 0))) := fun w' h => (h.block _ rl).trans hblk
  have hMR : Hid (¬ Mine M w.heap.size) := fun q => by have := (Mine.fresh h.own q).2; omega
  have hRc : w.heap.size ≠ cb := by have := h.at_.lt; omega
  have HC2 : Hid (Core n0 W2 cb M e pc rs) := h.keep BW.out
  have hF := fetch_some M e pc x n rs cb W2 HC2.out.at_ HC2.out.own.at_ ho.good ho.pc.1 ho.pc.2 hf1 hf2 hx hx2
  have hxb : 0 <= x := by
    obtain ⟨_, _, _, k, hk, hfk, _⟩ := wAddr_word h.own.at_ ho.good ho.pc.1 hf1
    have := wordAt_in ho.good hk pc
    rw [<- hfk, hx] at this
    exact this.1
  obtain ⟨ea, eb, la, lb⟩ := reg_nat hxb
  have hpc := run_at (wAddr_word h.own.at_ ho.good ho.pc.1 hf1).2.2.1 ho.pc.1
  have hN : 0 <= n /\ n <= 65535 := by
    obtain ⟨_, _, _, k, hk, hfk, _⟩ := wAddr_word h.own.at_ ho.good (n := pc + 1) (by have := ho.pc; omega) hf2
    have := wordAt_in ho.good hk (pc + 1)
    rw [<- hfk, hx2] at this
    exact this
  have hp2 : IntKind.i64.wrap (pc + 2) = pc + 2 := by rw [IntKind.wrap_i64]; have := ho.pc; omega
  rw [hk, ea, eb] at hF
  obtain ⟨R, hR⟩ : ∃ R, Hid (R = doR M m pc rs x n (fun a b => bits .xor .i64 a b)) := ⟨_, rfl⟩
  rw [<- hR.out]
  have hRR := hR.out
  unfold doR at hRR
  rw [show kindR x = 7 from hk] at hRR
  have hkx : x % 16 = 7 := hk
  have hcr := ho.rs
  have hcl := ho.len
  generalize regA x = a at hRR ea la hF
  generalize regB x = b at hRR eb lb hF
  obtain ⟨ra, hra⟩ : ∃ ra, Hid (rs.getD a 0 = ra) := ⟨_, rfl⟩
  obtain ⟨rb, hrb⟩ : ∃ rb, Hid (rs.getD b 0 = rb) := ⟨_, rfl⟩
  have hba := hcr a
  have hbb := hcr b
  rw [hra.out] at hba hRR
  rw [hrb.out] at hbb hRR
  have HO : Hid (_) := ho
  have HRR : Hid (_) := hRR
  have HLA : Hid (a < 4) := la
  have HLB : Hid (b < 4) := lb
  have ha4 : (a : Int) < 4 := by omega
  have hb4 : (b : Int) < 4 := by omega
  clear hRR hR hf1 hf2 hx hx2 hk ea eb ho hcr hblk h hkx la lb
  go_enter Tryz.func139, Tryz.ntmps139
  go_upto_region 1 with fail
  rw [<- hW2.out]
  go_upto_region 5 with (go_at_call 146; refine hF.mono ?_; clear hF; rintro y W1 ⟨rfl, hb⟩; have HB1 : Hid (_) := hb; have hC1 := HC2.out.keep hb; have p4 := hC1.at_.c4; have pf := hC1.at_.fz 4; have pl := hC1.at_.lt; clear hb hC1)
  obtain ⟨V3, hV3⟩ : ∃ V3, Hid (V3 = (W1.setCell ⟨cb, 4, none⟩ (.int .i64 (pc + 2))).alloc (.cells #[.int .i64 7, .int .i64 (a : Int), .int .i64 (b : Int), .int .i64 n] 184)) := ⟨_, rfl⟩
  rw [<- hV3.out]
  have hs1 : (W1.setCell ⟨cb, 4, none⟩ (.int .i64 (pc + 2))).heap.size = W1.heap.size := by simp [World.setCell]
  have HC1 : Hid (Core n0 W1 cb M e pc rs) := HC2.out.keep HB1.out
  have HC3 : Hid (Core n0 V3 cb M e (pc + 2) rs) := by show Core _ _ _ _ _ _ _; rw [hV3.out]; exact (HC1.out.pcSet (pc + 2)).keep ((Below.refl _ _).alloc (Nat.le_refl _) _)
  have hib : V3.heap[W1.heap.size]? = some (.cells #[.int .i64 7, .int .i64 (a : Int), .int .i64 (b : Int), .int .i64 n] 184 (0, 0)) := by
    rw [hV3.out, <- hs1]; exact Go.Deep.blk_alloc_new _ _
  have hrb' : V3.heap[w.heap.size]? = some (.cells #[.int .i64 0, .int .i64 0] 47 (0, 0)) := by
    have h1 := RB.out W1 HB1.out
    have h2 : w.heap.size < W1.heap.size := (Array.getElem?_eq_some_iff.1 h1).1
    rw [hV3.out, Below.heap_alloc _ _ _ (by rw [hs1]; exact h2), Below.heap_setCell _ _ _ _ hRc]
    exact h1
  have HB3 : Hid (Below n0 w V3) := by
    show Below _ _ _
    rw [hV3.out]
    have q := (BW.out.mono hn0).trans (HB1.out.mono (by have := BW.out.size; omega))
    exact (q.setCell HC2.out.ge _).alloc (by rw [hs1]; have := q.size; omega) _
  have hIc : W1.heap.size ≠ cb := by have := HC1.out.at_.lt; omega
  have hIr : W1.heap.size ≠ w.heap.size := by have := HB1.out.size; have := rl; omega
  have FF : Hid (∀ V, Below V3.heap.size V3 V -> V.cell? ⟨W1.heap.size, 0, none⟩ = some (.int .i64 7) /\ V.cell? ⟨W1.heap.size, 1, none⟩ = some (.int .i64 (a : Int)) /\ V.cell? ⟨W1.heap.size, 2, none⟩ = some (.int .i64 (b : Int)) /\ V.cell? ⟨W1.heap.size, 3, none⟩ = some (.int .i64 n) /\ V.cell? ⟨cb, 5 + a, none⟩ = some (.int .i64 ra) /\ V.cell? ⟨cb, 5 + b, none⟩ = some (.int .i64 rb) /\ V.cell? ⟨cb, 4, none⟩ = some (.int .i64 (pc + 2)) /\ V.cell? ⟨w.heap.size, 0, none⟩ = some (.int .i64 0) /\ V.cell? ⟨w.heap.size, 1, none⟩ = some (.int .i64 0) /\ V.frozen? ⟨cb, 5 + a, none⟩ = false /\ V.frozen? ⟨cb, 4, none⟩ = false /\ V.frozen? ⟨w.heap.size, 0, none⟩ = false /\ V.frozen? ⟨w.heap.size, 1, none⟩ = false /\ cb < V.heap.size /\ w.heap.size < V.heap.size /\ W1.heap.size < V.heap.size) := fun V hV => by
    have li : W1.heap.size < V3.heap.size := (Array.getElem?_eq_some_iff.1 hib).1
    have lr : w.heap.size < V3.heap.size := (Array.getElem?_eq_some_iff.1 hrb').1
    have hib2 := (hV.block _ li).trans hib
    have hrb2 := (hV.block _ lr).trans hrb'
    have c := HC3.out.keep hV
    have ga := c.at_.cr a HLA.out
    have gb := c.at_.cr b HLB.out
    rw [hra.out] at ga
    rw [hrb.out] at gb
    exact ⟨by simp [World.cell?, hib2], by simp [World.cell?, hib2], by simp [World.cell?, hib2], by simp [World.cell?, hib2], ga, gb, c.at_.c4, by simp [World.cell?, hrb2], by simp [World.cell?, hrb2], c.at_.fz _, c.at_.fz _, frozen_of_block hrb2 0, frozen_of_block hrb2 1, c.at_.lt, Nat.lt_of_lt_of_le lr hV.size, Nat.lt_of_lt_of_le li hV.size⟩
  have HRB : Hid (∀ V, Below V3.heap.size V3 V -> V.heap[w.heap.size]? = some (.cells #[.int .i64 0, .int .i64 0] 47 (0, 0))) := fun V hV => (hV.block _ (Array.getElem?_eq_some_iff.1 hrb').1).trans hrb'
  have HF3 : Hid (FarSame M cb w V3) := by
    show FarSame _ _ _ _
    have q := ((FarSame.refl M cb w).below (Nat.le_refl _) BW.out).below BW.out.size HB1.out
    rw [hV3.out]
    exact (q.set (.inr (.inr rfl)) 4 _).below (by rw [hs1]; have := BW.out.size; have := HB1.out.size; omega) ((Below.refl _ _).alloc (Nat.le_refl _) _)
  have HS3 : Hid (w.heap.size <= V3.heap.size) := HB3.out.size
  obtain ⟨i0, i1, i2, i3, ga, gb, g4, r0, r1, fa, f4, f0, f1, lc, lr, li⟩ := FF.out V3 (Below.refl _ _)
  clear hV3 hib hrb' hs1 HC1 p4 pf pl HB1 RB BW
  go_quiet (fail)
  obtain ⟨V4, hV4⟩ : ∃ V4, Hid (V4 = V3.drewN nq) := ⟨_, rfl⟩
  rw [<- hV4.out]
  have hB4 : Below V3.heap.size V3 V4 := by rw [hV4.out]; exact below_drewN (Below.refl _ _) nq
  clear i0 i1 i2 i3 ga gb g4 r0 r1 fa f4 f0 f1 lc lr li
  obtain ⟨i0, i1, i2, i3, ga, gb, g4, r0, r1, fa, f4, f0, f1, lc, lr, li⟩ := FF.out V4 hB4
  have HC4 : Hid (Core n0 V4 cb M e (pc + 2) rs) := HC3.out.keep hB4
  have HB4 : Hid (Below n0 w V4) := HB3.out.trans (hB4.mono (by have := HB3.out.size; omega))
  have HF4 : Hid (FarSame M cb w V4) := HF3.out.below HS3.out hB4
  have HRK : Hid (_) := HRB.out V4 hB4
  clear hB4 hV4 FF HC3 HB3 HF3 HRB HS3
  by_cases hz : ra = 0
  · have hz2 : (ra == 0) = true := by simpa using hz
    go_wp2
    refine bp_genR fun V9 hV9 => ?_
    have q0 : (V4.setCell ⟨cb, 4, none⟩ (.int .i64 n)).cell? ⟨w.heap.size, 0, none⟩ = some (.int .i64 0) := (World.cell?_setCell_other _ _ _ _ (by intro q; simp only [Addr.mk.injEq] at q; exact hRc q.1.symm)).trans r0
    have q1 : (V4.setCell ⟨cb, 4, none⟩ (.int .i64 n)).cell? ⟨w.heap.size, 1, none⟩ = some (.int .i64 0) := (World.cell?_setCell_other _ _ _ _ (by intro q; simp only [Addr.mk.injEq] at q; exact hRc q.1.symm)).trans r1
    obtain ⟨k0, k1⟩ := blk2R (v0 := .int .i64 0) (v1 := .int .i64 0) q0 q1
    rw [<- hV9] at k0 k1
    have HC9 : Core n0 V9 cb M e n rs := by rw [hV9]; exact ((HC4.out.pcSet n).far hMR.out hRc 0 _).far hMR.out hRc 1 _
    have HB9 : Below n0 w V9 := by rw [hV9]; exact ((HB4.out.setCell HC4.out.ge _).setCell hn0 _).setCell hn0 _
    have HF9 : FarSame M cb w V9 := by rw [hV9]; exact ((HF4.out.set (.inr (.inr rfl)) 4 _).set (.inl (Nat.le_refl _)) 0 _).set (.inl (Nat.le_refl _)) 1 _
    have hR9 : R = ⟨M, n, rs, 0, 0⟩ := by rw [HRR.out]; simp [hz]
    clear hV9
    (try simp only [Exit.inBlock, Exit.then])
    refine bodyPost_ret (by simp [results, Tryz.results139, go_sem, k0, k1]; try rfl) rfl ?_
    rw [hR9]
    exact ⟨M, Mv.Same.refl _, rfl, HC9, HB9, HF9, MineSub.refl _ _⟩
  · have hz2 : (ra == 0) = false := by simpa using hz
    go_wp2
    refine bp_genR fun V9 hV9 => ?_
    obtain ⟨k0, k1⟩ := blk2R (v0 := .int .i64 0) (v1 := .int .i64 (0)) r0 r1
    rw [<- hV9] at k0 k1
    have HC9 : Core n0 V9 cb M e (pc + 2) rs := by rw [hV9]; exact ((HC4.out).far hMR.out hRc 0 _).far hMR.out hRc 1 _
    have HB9 : Below n0 w V9 := by rw [hV9]; exact ((HB4.out).setCell hn0 _).setCell hn0 _
    have HF9 : FarSame M cb w V9 := by rw [hV9]; exact ((HF4.out).set (.inl (Nat.le_refl _)) 0 _).set (.inl (Nat.le_refl _)) 1 _
    have hR9 : R = ⟨M, pc + 2, rs, 0, 0⟩ := by rw [HRR.out]; simp [hz]
    clear hV9
    (try simp only [Exit.inBlock, Exit.then])
    refine bodyPost_ret (by simp [results, Tryz.results139, go_sem, k0, k1]; try rfl) rfl ?_
    rw [hR9]
    exact ⟨M, Mv.Same.refl _, rfl, HC9, HB9, HF9, MineSub.refl _ _⟩
end Go.Proofs.YtdngbojbpmdegaaGreatDoor
