/-
  Methods of a site (own work). The conditions: those of a site.
-/
import Derived.Test.YtdngbojbpmdegaaGreatDoorJHostRan
import Derived.Test.YtdngbojbpmdegaaGreatDoorJLook
namespace Go.Proofs.YtdngbojbpmdegaaGreatDoor
open Go.RowKit
set_option linter.unusedVariables false

/-- what comes of looking at a quote of the machine's -/
def chkE (M : Mv) (C : Cv) (a : Int) : Int := if 0 ≤ a ∧ a < (M.qus.length : Int) then lookE C M.qus (M.qus.getD a.toNat default) else 5
def chkD (M : Mv) (C : Cv) (a : Int) : Cv := if chkE M C a = 0 then lookC C M.qus (M.qus.getD a.toNat default) else C
/-- a variable that holds a challenger, whenever it was made -/
structure CBx (n1 : Nat) (W V : World) (N : Cv) (P : Nat) : Prop where
  p0 : V.cell? ⟨P, 0, none⟩ = some (.slice N.ta N.tr.length N.tcap)
  p1 : V.cell? ⟨P, 1, none⟩ = some (.slice N.na N.ns.length N.ncap)
  bel : Below W.heap.size W V
  own : COwn n1 V N
  gp : W.heap.size ≤ P
structure ZC2 (w2 : World) (b : Nat) : Prop where
  e0 : w2.cell? ⟨b, 0, none⟩ = some (.slice none 0 0)
  e1 : w2.cell? ⟨b, 1, none⟩ = some (.slice none 0 0)
  fz : ∀ o, w2.frozen? ⟨b, o, none⟩ = false
  lt : b < w2.heap.size
theorem zc1 {Wb w2 : World} {t : TypeId} (hb : Below (Wb.alloc (.cells #[.slice none 0 0, .slice none 0 0] t)).drew.heap.size (Wb.alloc (.cells #[.slice none 0 0, .slice none 0 0] t)).drew w2) : ZC2 w2 Wb.heap.size := by
  have hX : (Wb.alloc (.cells #[.slice none 0 0, .slice none 0 0] t)).drew.heap[Wb.heap.size]? = some (.cells #[.slice none 0 0, .slice none 0 0] t) := Go.Deep.blk_alloc_new _ _
  have hlt := (Array.getElem?_eq_some_iff.1 hX).1
  have h2 := (hb.block _ hlt).trans hX
  exact ⟨by simp [World.cell?, h2], by simp [World.cell?, h2], fun o => frozen_of_block h2 o, Nat.lt_of_lt_of_le hlt hb.size⟩
theorem cbx1 {n1 : Nat} {W w2 : World} {N : Cv} {t : TypeId} (hb : Below W.heap.size W w2) (hO : COwn n1 w2 N) : CBx n1 W (w2.alloc (.cells #[.slice N.ta N.tr.length N.tcap, .slice N.na N.ns.length N.ncap] t)) N w2.heap.size := by
  obtain ⟨b2, q⟩ := al1w w2 (.cells #[.slice N.ta N.tr.length N.tcap, .slice N.na N.ns.length N.ncap] t)
  generalize w2.alloc (.cells #[.slice N.ta N.tr.length N.tcap, .slice N.na N.ns.length N.ncap] t) = V at b2 q
  exact ⟨by simp [World.cell?, q], by simp [World.cell?, q], hb.trans (b2.mono hb.size), hO.below b2, hb.size⟩
theorem cbx2 {n1 b : Nat} {W w2 : World} {N : Cv} (hb : Below W.heap.size W w2) (hO : COwn n1 w2 N) (hn : b < n1) (hg : W.heap.size ≤ b) (z : ZC2 w2 b) : CBx n1 W ((w2.setCell ⟨b, 0, none⟩ (.slice N.ta N.tr.length N.tcap)).setCell ⟨b, 1, none⟩ (.slice N.na N.ns.length N.ncap)) N b := by
  obtain ⟨k0, k1⟩ := blk2R (v0 := .slice N.ta N.tr.length N.tcap) (v1 := .slice N.na N.ns.length N.ncap) z.e0 z.e1
  have hh : ∀ c, c ≠ b → ((w2.setCell ⟨b, 0, none⟩ (.slice N.ta N.tr.length N.tcap)).setCell ⟨b, 1, none⟩ (.slice N.na N.ns.length N.ncap)).heap[c]? = w2.heap[c]? := fun c hc => by rw [set_heap _ _ _ _ _ hc, set_heap _ _ _ _ _ hc]
  exact ⟨k0, k1, (hb.setCell hg _).setCell hg _, hO.keepC (fun c hc => hh c (by have := (MineC.fresh hO hc).1; omega)), hg⟩
theorem CBx.mono {n1 n2 : Nat} {W V : World} {N : Cv} {P : Nat} (h : CBx n1 W V N P) (hn : n2 ≤ n1) : CBx n2 W V N P := ⟨h.p0, h.p1, h.bel, h.own.mono hn, h.gp⟩

set_option maxRecDepth 100000 in
set_option maxHeartbeats 2000000 in
theorem check_neg {n0 : Nat} {w : World} {b : Nat} {M : Mv} {C : Cv} (h : Site n0 w b M C) {a : Int} (ha : a < 0) :
    Calls Tryz.prog 105 #[.pointer (some ⟨b, 0, none⟩), .int .i64 a] w (DoSaid n0 w b M C 5 0 M C) := by
  obtain ⟨W1, hW1⟩ : ∃ W1, Hid (W1 = w.alloc (.cells #[.int .i64 0, .int .i64 0] 39)) := ⟨_, rfl⟩
  obtain ⟨bw, q1⟩ := al1w w (.cells #[.int .i64 0, .int .i64 0] 39)
  rw [← hW1.out] at bw q1
  have BW : Hid (_) := bw
  have QR : Hid (_) := q1
  have HST : Hid (Site n0 W1 b M C) := h.keep bw
  have HBL : Hid (b < w.heap.size) := h.lt
  have OLD : Hid (_) := h
  have nb : w.heap.size ≠ b := by have := HBL.out; omega
  have HNR : Hid (¬ (w.heap.size = b ∨ Mine M w.heap.size ∨ MineC C w.heap.size)) := OLD.out.new (Nat.le_refl _)
  have hql : M.qus.length ≤ 9223372036854775807 := by have := h.own.at_.qul; unfold maxLen at this; omega
  have r0 : W1.cell? ⟨w.heap.size, 0, none⟩ = some (.int .i64 0) := by simp [World.cell?, q1]
  have r1 : W1.cell? ⟨w.heap.size, 1, none⟩ = some (.int .i64 0) := by simp [World.cell?, q1]
  have rl : w.heap.size < W1.heap.size := lt_of_cell r0
  have rf0 := frozen_of_block q1 0
  have rf1 := frozen_of_block q1 1
  have s2 := HST.out.c2
  have sl := HST.out.lt
  clear h bw q1
  go_enter Tryz.func105, Tryz.ntmps105
  go_upto_region 1 with fail
  rw [← hW1.out]
  clear hW1
  go_wp2
  refine bp_genR fun V9 hV9 => ?_
  obtain ⟨k9, k0, k1⟩ := HST.out.ans HNR.out r0 r1 hV9
  have F9 : Far b w V9 := by rw [hV9]; exact ((Far.of_below BW.out).set (.inr (Nat.le_refl _)) 0 _).set (.inr (Nat.le_refl _)) 1 _
  clear hV9
  (try simp only [Exit.inBlock, Exit.then])
  refine bodyPost_ret (by simp [results, Tryz.results105, go_sem, k0, k1]; try rfl) rfl ?_
  exact ⟨M, C, rfl, Mv.Same.refl _, Cv.Same.refl _, k9, F9, fun _ _ q => q⟩

set_option maxRecDepth 100000 in
set_option maxHeartbeats 2000000 in
theorem check_big {n0 : Nat} {w : World} {b : Nat} {M : Mv} {C : Cv} (h : Site n0 w b M C) {a : Int} (ha : ¬ a < 0) (hb : (M.qus.length : Int) ≤ a) :
    Calls Tryz.prog 105 #[.pointer (some ⟨b, 0, none⟩), .int .i64 a] w (DoSaid n0 w b M C 5 0 M C) := by
  obtain ⟨W1, hW1⟩ : ∃ W1, Hid (W1 = w.alloc (.cells #[.int .i64 0, .int .i64 0] 39)) := ⟨_, rfl⟩
  obtain ⟨bw, q1⟩ := al1w w (.cells #[.int .i64 0, .int .i64 0] 39)
  rw [← hW1.out] at bw q1
  have BW : Hid (_) := bw
  have QR : Hid (_) := q1
  have HST : Hid (Site n0 W1 b M C) := h.keep bw
  have HBL : Hid (b < w.heap.size) := h.lt
  have OLD : Hid (_) := h
  have nb : w.heap.size ≠ b := by have := HBL.out; omega
  have HNR : Hid (¬ (w.heap.size = b ∨ Mine M w.heap.size ∨ MineC C w.heap.size)) := OLD.out.new (Nat.le_refl _)
  have hql : M.qus.length ≤ 9223372036854775807 := by have := h.own.at_.qul; unfold maxLen at this; omega
  have r0 : W1.cell? ⟨w.heap.size, 0, none⟩ = some (.int .i64 0) := by simp [World.cell?, q1]
  have r1 : W1.cell? ⟨w.heap.size, 1, none⟩ = some (.int .i64 0) := by simp [World.cell?, q1]
  have rl : w.heap.size < W1.heap.size := lt_of_cell r0
  have rf0 := frozen_of_block q1 0
  have rf1 := frozen_of_block q1 1
  have s2 := HST.out.c2
  have sl := HST.out.lt
  clear h bw q1
  go_enter Tryz.func105, Tryz.ntmps105
  go_upto_region 1 with fail
  rw [← hW1.out]
  clear hW1
  go_wp2
  refine bp_genR fun V9 hV9 => ?_
  obtain ⟨k9, k0, k1⟩ := HST.out.ans HNR.out r0 r1 hV9
  have F9 : Far b w V9 := by rw [hV9]; exact ((Far.of_below BW.out).set (.inr (Nat.le_refl _)) 0 _).set (.inr (Nat.le_refl _)) 1 _
  clear hV9
  (try simp only [Exit.inBlock, Exit.then])
  refine bodyPost_ret (by simp [results, Tryz.results105, go_sem, k0, k1]; try rfl) rfl ?_
  exact ⟨M, C, rfl, Mv.Same.refl _, Cv.Same.refl _, k9, F9, fun _ _ q => q⟩

set_option maxRecDepth 100000 in
set_option maxHeartbeats 2000000 in
theorem check_ok {n0 : Nat} {w : World} {b : Nat} {M : Mv} {C : Cv} (h : Site n0 w b M C) (hF : C.Fits) {k : Nat} (hk : k < M.qus.length) (hz0 : lookE C M.qus (M.qus.getD k default) = 0) :
    Calls Tryz.prog 105 #[.pointer (some ⟨b, 0, none⟩), .int .i64 (k : Int)] w (DoSaid n0 w b M C (lookE C M.qus (M.qus.getD k default)) 0 M (lookC C M.qus (M.qus.getD k default))) := by
  obtain ⟨W1, hW1⟩ : ∃ W1, Hid (W1 = w.alloc (.cells #[.int .i64 0, .int .i64 0] 39)) := ⟨_, rfl⟩
  obtain ⟨bw, q1⟩ := al1w w (.cells #[.int .i64 0, .int .i64 0] 39)
  rw [← hW1.out] at bw q1
  have BW : Hid (_) := bw
  have QR : Hid (_) := q1
  have HST : Hid (Site n0 W1 b M C) := h.keep bw
  have HBL : Hid (b < w.heap.size) := h.lt
  have OLD : Hid (_) := h
  have nb : w.heap.size ≠ b := by have := HBL.out; omega
  have HNR : Hid (¬ (w.heap.size = b ∨ Mine M w.heap.size ∨ MineC C w.heap.size)) := OLD.out.new (Nat.le_refl _)
  have hql : M.qus.length ≤ 9223372036854775807 := by have := h.own.at_.qul; unfold maxLen at this; omega
  obtain ⟨qb, qo, hqa, t0, t1⟩ := HST.out.own.at_.quote hk
  have hqk := HST.out.own.at_.quok k hk
  have c1 := fun w' (hb : Below W1.heap.size W1 w') => look_any C M.qa M.qus M.qcap (M.qus.getD k default) w' (HST.out.cown.at_.below hb) hF HST.out.own.at_.qul (RowsAt.below (cells := Qu.cells) (fun _ => rfl) HST.out.own.at_.qu hb) hqk
  obtain ⟨z, hz⟩ : ∃ z, Hid (z = lookE C M.qus (M.qus.getD k default)) := ⟨_, rfl⟩
  obtain ⟨T, hT⟩ : ∃ T, Hid (T = lookC C M.qus (M.qus.getD k default)) := ⟨_, rfl⟩
  rw [← hz.out, ← hT.out]
  rw [← hz.out, ← hT.out] at c1
  rw [← hz.out] at hz0
  subst hz0
  obtain ⟨lg, HLG⟩ : ∃ lg, Hid ((M.qus.getD k default).log = lg) := ⟨_, rfl⟩
  obtain ⟨dt, HDT⟩ : ∃ dt, Hid ((M.qus.getD k default).data = dt) := ⟨_, rfl⟩
  rw [HLG.out] at t0 c1
  rw [HDT.out] at t1 c1
  unfold Cv.val at c1
  have ql : qb < W1.heap.size := lt_of_cell t0
  have HCH : Hid (_) := HST.out.c3
  have s2 := HST.out.c2
  rw [hqa] at s2 c1
  have s3 := HST.out.c3
  have s4 := HST.out.c4
  have sl := HST.out.lt
  have hk1 : (k : Int) < (M.qus.length : Int) := by omega
  have hk0 : ¬ ((k : Int) < 0) := by omega
  have hkn : ¬ (M.qus.length ≤ k) := by omega
  have hwk : IntKind.i64.wrap (k : Int) = (k : Int) := by rw [IntKind.wrap_i64]; omega
  have GG : Hid (∀ w', Below W1.heap.size W1 w' → w'.cell? ⟨b, 3, none⟩ = some (.slice C.ta C.tr.length C.tcap) ∧ w'.cell? ⟨b, 4, none⟩ = some (.slice C.na C.ns.length C.ncap) ∧ w'.cell? ⟨qb, qo + k * 2, none⟩ = some (.string lg) ∧ w'.cell? ⟨qb, qo + k * 2 + 1, none⟩ = some (.int .i64 dt)) := by
    have a0 := s3
    have a1 := s4
    have a2 := t0
    have a3 := t1
    exact fun w' hb => ⟨(hb.cell (p := ⟨b, 3, none⟩) sl).trans a0, (hb.cell (p := ⟨b, 4, none⟩) sl).trans a1, (hb.cell (p := ⟨qb, qo + k * 2, none⟩) ql).trans a2, (hb.cell (p := ⟨qb, qo + k * 2 + 1, none⟩) ql).trans a3⟩
  have r0 : W1.cell? ⟨w.heap.size, 0, none⟩ = some (.int .i64 0) := by simp [World.cell?, q1]
  have r1 : W1.cell? ⟨w.heap.size, 1, none⟩ = some (.int .i64 0) := by simp [World.cell?, q1]
  have rl : w.heap.size < W1.heap.size := lt_of_cell r0
  have rf0 := frozen_of_block q1 0
  have rf1 := frozen_of_block q1 1
  clear h hF bw q1 hz hT hqk hqa hk HCH
  go_enter Tryz.func105, Tryz.ntmps105
  go_upto_region 1 with fail
  rw [← hW1.out]
  clear hW1
  go_upto_region 4 with fail
  go_cut [6, 7] from 22 to 34 (fun s6 s7 wx => ∃ P N, s6 = .pointer (some ⟨P, 0, none⟩) ∧ s7 = .int .i64 0 ∧ Cv.Same N T ∧ CBx W1.heap.size W1 wx N P)
  case first =>
    go_region_held3 (fun w' => w'.cell? ⟨b, 3, none⟩ = some (.slice C.ta C.tr.length C.tcap) ∧ w'.cell? ⟨b, 4, none⟩ = some (.slice C.na C.ns.length C.ncap) ∧ w'.cell? ⟨qb, qo + k * 2, none⟩ = some (.string lg) ∧ w'.cell? ⟨qb, qo + k * 2 + 1, none⟩ = some (.int .i64 dt)) (exact GG.out _ (by repeat (first | (with_reducible exact Below.refl _ _) | (with_reducible exact HBC.out) | (with_reducible refine Below.drew ?_) | (with_reducible refine below_allocR ?_ _) | (with_reducible refine Below.setCell ?_ (by first | exact Nat.le_refl _ | (simp; done) | (simp; omega)) _)))) (first
      | (go_at_call 134; refine (c1 _ (by repeat (first | (with_reducible exact Below.refl _ _) | (with_reducible exact HBC.out) | (with_reducible refine Below.drew ?_) | (with_reducible refine below_allocR ?_ _) | (with_reducible refine Below.setCell ?_ (by first | exact Nat.le_refl _ | (simp; done) | (simp; omega)) _)))).mono ?_; clear c1; rintro x w2 ⟨N, rfl, hS, hO, hb2⟩; have HS2 : Hid (_) := hS; have HO2 : Hid (_) := hO; have HBC : Hid (Below W1.heap.size W1 w2) := Below.trans (by repeat (first | (with_reducible exact Below.refl _ _) | (with_reducible exact HBC.out) | (with_reducible refine Below.drew ?_) | (with_reducible refine below_allocR ?_ _) | (with_reducible refine Below.setCell ?_ (by first | exact Nat.le_refl _ | (simp; done) | (simp; omega)) _))) (hb2.mono (by first | exact Nat.le_refl _ | (simp; done) | (simp; omega))); (first | ((with_reducible_and_instances have hzz := zc1 (Wb := W1) hb2); have ZZ2 : Hid (_) := hzz; have i0 := hzz.e0; have i1 := hzz.e1; have y0_ := hzz.fz 0; have y1_ := hzz.fz 1; have yl := hzz.lt; clear hzz) | skip); clear hS hO hb2)
      | fail)
    all_goals
      go_wp2_with fail
      go_meet
      case rel => first
        | (have hR := (cbx1 (t := 32) HBC.out HO2.out).mono (n2 := W1.heap.size) (by first | exact Nat.le_refl _ | (simp; done) | (simp; omega)); (with_reducible exact ⟨w2.heap.size, N, rfl, rfl, HS2.out, hR⟩))
        | (have hR := (cbx2 HBC.out HO2.out (by first | exact Nat.lt_succ_self _ | (simp; done) | (simp; omega)) (Nat.le_refl _) ZZ2.out).mono (n2 := W1.heap.size) (by first | exact Nat.le_refl _ | (simp; done) | (simp; omega)); (with_reducible exact ⟨W1.heap.size, N, rfl, rfl, HS2.out, hR⟩))
        | fail
  case rest =>
  obtain ⟨P, N, rfl, rfl, hSN, hR⟩ := hcut
  rename World => V1
  have BV : Hid (Below W1.heap.size W1 V1) := hR.bel
  have HS : Hid (_) := hSN
  have HO : Hid (COwn W1.heap.size V1 N) := hR.own
  have HST1 : Hid (Site n0 V1 b M C) := HST.out.keep hR.bel
  have sz1 := BW.out.size
  have lR : w.heap.size < W1.heap.size := (Array.getElem?_eq_some_iff.1 QR.out).1
  have sz2 := BV.out.size
  have gp := hR.gp
  have nP : P ≠ b := by have := HBL.out; omega
  have HON : Hid (COwn n0 V1 N ∧ ¬ MineC N b ∧ ¬ MineC N w.heap.size) := ⟨hR.own.mono HST.out.ge, fun q => by have h1 := (MineC.fresh hR.own q).1; have h3 := HBL.out; omega, fun q => by have h1 := (MineC.fresh hR.own q).1; omega⟩
  have q4 := (BV.out.block w.heap.size lR).trans QR.out
  clear c1 GG r0 r1 rl rf0 rf1 s2 s3 s4 sl t0 t1 ql
  have r0 : V1.cell? ⟨w.heap.size, 0, none⟩ = some (.int .i64 0) := by simp [World.cell?, q4]
  have r1 : V1.cell? ⟨w.heap.size, 1, none⟩ = some (.int .i64 0) := by simp [World.cell?, q4]
  have rl : w.heap.size < V1.heap.size := lt_of_cell r0
  have rf0 := frozen_of_block q4 0
  have rf1 := frozen_of_block q4 1
  have p0 := hR.p0
  have p1 := hR.p1
  have pl : P < V1.heap.size := lt_of_cell p0
  have s3 := HST1.out.c3
  have s4 := HST1.out.c4
  have sf3 := HST1.out.fz 3
  have sf4 := HST1.out.fz 4
  have sl := HST1.out.lt
  clear q4 hR hSN gp
  go_wp2
  refine bp_genR fun V9 hV9 => ?_
  have s5 := HST1.out.putC HON.out.1 HON.out.2.1
  have hh : ((V1.setCell ⟨b, 3, none⟩ (.slice N.ta N.tr.length N.tcap)).setCell ⟨b, 4, none⟩ (.slice N.na N.ns.length N.ncap)).heap[w.heap.size]? = V1.heap[w.heap.size]? := by rw [set_heap _ _ _ _ _ nb, set_heap _ _ _ _ _ nb]
  have F3 : Far b w ((V1.setCell ⟨b, 3, none⟩ (.slice N.ta N.tr.length N.tcap)).setCell ⟨b, 4, none⟩ (.slice N.na N.ns.length N.ncap)) := (((Far.of_below BW.out).trans (Far.of_below BV.out)).set (.inl rfl) 3 _).set (.inl rfl) 4 _
  generalize (V1.setCell ⟨b, 3, none⟩ (.slice N.ta N.tr.length N.tcap)).setCell ⟨b, 4, none⟩ (.slice N.na N.ns.length N.ncap) = V3 at hV9 s5 hh F3
  obtain ⟨k9, k0, k1⟩ := s5.ans (R := w.heap.size) (by rintro (q | q | q); exact nb q; exact HNR.out (.inr (.inl q)); exact HON.out.2.2 q) ((World.cell?_of_block hh).trans r0) ((World.cell?_of_block hh).trans r1) hV9
  have F9 : Far b w V9 := by rw [hV9]; exact (F3.set (.inr (Nat.le_refl _)) 0 _).set (.inr (Nat.le_refl _)) 1 _
  clear hV9
  (try simp only [Exit.inBlock, Exit.then])
  refine bodyPost_ret (by simp [results, Tryz.results105, go_sem, k0, k1]; try rfl) rfl ?_
  exact ⟨M, N, rfl, Mv.Same.refl _, HS.out, k9, F9, fun c hc q => by rcases q with q | q; exact .inl q; have h1 := (MineC.fresh HO.out q).1; have h2 := BW.out.size; omega⟩

set_option maxRecDepth 100000 in
set_option maxHeartbeats 2000000 in
theorem check_no {n0 : Nat} {w : World} {b : Nat} {M : Mv} {C : Cv} (h : Site n0 w b M C) (hF : C.Fits) {k : Nat} (hk : k < M.qus.length) (hz0 : ¬ lookE C M.qus (M.qus.getD k default) = 0) :
    Calls Tryz.prog 105 #[.pointer (some ⟨b, 0, none⟩), .int .i64 (k : Int)] w (DoSaid n0 w b M C (lookE C M.qus (M.qus.getD k default)) 0 M C) := by
  obtain ⟨W1, hW1⟩ : ∃ W1, Hid (W1 = w.alloc (.cells #[.int .i64 0, .int .i64 0] 39)) := ⟨_, rfl⟩
  obtain ⟨bw, q1⟩ := al1w w (.cells #[.int .i64 0, .int .i64 0] 39)
  rw [← hW1.out] at bw q1
  have BW : Hid (_) := bw
  have QR : Hid (_) := q1
  have HST : Hid (Site n0 W1 b M C) := h.keep bw
  have HBL : Hid (b < w.heap.size) := h.lt
  have OLD : Hid (_) := h
  have nb : w.heap.size ≠ b := by have := HBL.out; omega
  have HNR : Hid (¬ (w.heap.size = b ∨ Mine M w.heap.size ∨ MineC C w.heap.size)) := OLD.out.new (Nat.le_refl _)
  have hql : M.qus.length ≤ 9223372036854775807 := by have := h.own.at_.qul; unfold maxLen at this; omega
  obtain ⟨qb, qo, hqa, t0, t1⟩ := HST.out.own.at_.quote hk
  have hqk := HST.out.own.at_.quok k hk
  have c1 := fun w' (hb : Below W1.heap.size W1 w') => look_any C M.qa M.qus M.qcap (M.qus.getD k default) w' (HST.out.cown.at_.below hb) hF HST.out.own.at_.qul (RowsAt.below (cells := Qu.cells) (fun _ => rfl) HST.out.own.at_.qu hb) hqk
  obtain ⟨z, hz⟩ : ∃ z, Hid (z = lookE C M.qus (M.qus.getD k default)) := ⟨_, rfl⟩
  obtain ⟨T, hT⟩ : ∃ T, Hid (T = lookC C M.qus (M.qus.getD k default)) := ⟨_, rfl⟩
  rw [← hz.out]
  rw [← hz.out, ← hT.out] at c1
  rw [← hz.out] at hz0
  have hz1 : (z == 0) = false := by simpa using hz0
  obtain ⟨lg, HLG⟩ : ∃ lg, Hid ((M.qus.getD k default).log = lg) := ⟨_, rfl⟩
  obtain ⟨dt, HDT⟩ : ∃ dt, Hid ((M.qus.getD k default).data = dt) := ⟨_, rfl⟩
  rw [HLG.out] at t0 c1
  rw [HDT.out] at t1 c1
  unfold Cv.val at c1
  have ql : qb < W1.heap.size := lt_of_cell t0
  have HCH : Hid (_) := HST.out.c3
  have s2 := HST.out.c2
  rw [hqa] at s2 c1
  have s3 := HST.out.c3
  have s4 := HST.out.c4
  have sl := HST.out.lt
  have hk1 : (k : Int) < (M.qus.length : Int) := by omega
  have hk0 : ¬ ((k : Int) < 0) := by omega
  have hkn : ¬ (M.qus.length ≤ k) := by omega
  have hwk : IntKind.i64.wrap (k : Int) = (k : Int) := by rw [IntKind.wrap_i64]; omega
  have GG : Hid (∀ w', Below W1.heap.size W1 w' → w'.cell? ⟨b, 3, none⟩ = some (.slice C.ta C.tr.length C.tcap) ∧ w'.cell? ⟨b, 4, none⟩ = some (.slice C.na C.ns.length C.ncap) ∧ w'.cell? ⟨qb, qo + k * 2, none⟩ = some (.string lg) ∧ w'.cell? ⟨qb, qo + k * 2 + 1, none⟩ = some (.int .i64 dt)) := by
    have a0 := s3
    have a1 := s4
    have a2 := t0
    have a3 := t1
    exact fun w' hb => ⟨(hb.cell (p := ⟨b, 3, none⟩) sl).trans a0, (hb.cell (p := ⟨b, 4, none⟩) sl).trans a1, (hb.cell (p := ⟨qb, qo + k * 2, none⟩) ql).trans a2, (hb.cell (p := ⟨qb, qo + k * 2 + 1, none⟩) ql).trans a3⟩
  have r0 : W1.cell? ⟨w.heap.size, 0, none⟩ = some (.int .i64 0) := by simp [World.cell?, q1]
  have r1 : W1.cell? ⟨w.heap.size, 1, none⟩ = some (.int .i64 0) := by simp [World.cell?, q1]
  have rl : w.heap.size < W1.heap.size := lt_of_cell r0
  have rf0 := frozen_of_block q1 0
  have rf1 := frozen_of_block q1 1
  clear h hF bw q1 hz hT hqk hqa hk HCH hz0
  go_enter Tryz.func105, Tryz.ntmps105
  go_upto_region 1 with fail
  rw [← hW1.out]
  clear hW1
  go_upto_region 4 with fail
  go_cut [6, 7] from 22 to 34 (fun s6 s7 wx => ∃ P N, s6 = .pointer (some ⟨P, 0, none⟩) ∧ s7 = .int .i64 z ∧ Cv.Same N T ∧ CBx W1.heap.size W1 wx N P)
  case first =>
    go_region_held3 (fun w' => w'.cell? ⟨b, 3, none⟩ = some (.slice C.ta C.tr.length C.tcap) ∧ w'.cell? ⟨b, 4, none⟩ = some (.slice C.na C.ns.length C.ncap) ∧ w'.cell? ⟨qb, qo + k * 2, none⟩ = some (.string lg) ∧ w'.cell? ⟨qb, qo + k * 2 + 1, none⟩ = some (.int .i64 dt)) (exact GG.out _ (by repeat (first | (with_reducible exact Below.refl _ _) | (with_reducible exact HBC.out) | (with_reducible refine Below.drew ?_) | (with_reducible refine below_allocR ?_ _) | (with_reducible refine Below.setCell ?_ (by first | exact Nat.le_refl _ | (simp; done) | (simp; omega)) _)))) (first
      | (go_at_call 134; refine (c1 _ (by repeat (first | (with_reducible exact Below.refl _ _) | (with_reducible exact HBC.out) | (with_reducible refine Below.drew ?_) | (with_reducible refine below_allocR ?_ _) | (with_reducible refine Below.setCell ?_ (by first | exact Nat.le_refl _ | (simp; done) | (simp; omega)) _)))).mono ?_; clear c1; rintro x w2 ⟨N, rfl, hS, hO, hb2⟩; have HS2 : Hid (_) := hS; have HO2 : Hid (_) := hO; have HBC : Hid (Below W1.heap.size W1 w2) := Below.trans (by repeat (first | (with_reducible exact Below.refl _ _) | (with_reducible exact HBC.out) | (with_reducible refine Below.drew ?_) | (with_reducible refine below_allocR ?_ _) | (with_reducible refine Below.setCell ?_ (by first | exact Nat.le_refl _ | (simp; done) | (simp; omega)) _))) (hb2.mono (by first | exact Nat.le_refl _ | (simp; done) | (simp; omega))); (first | ((with_reducible_and_instances have hzz := zc1 (Wb := W1) hb2); have ZZ2 : Hid (_) := hzz; have i0 := hzz.e0; have i1 := hzz.e1; have y0_ := hzz.fz 0; have y1_ := hzz.fz 1; have yl := hzz.lt; clear hzz) | skip); clear hS hO hb2)
      | fail)
    all_goals
      go_wp2_with fail
      go_meet
      case rel => first
        | (have hR := (cbx1 (t := 32) HBC.out HO2.out).mono (n2 := W1.heap.size) (by first | exact Nat.le_refl _ | (simp; done) | (simp; omega)); (with_reducible exact ⟨w2.heap.size, N, rfl, rfl, HS2.out, hR⟩))
        | (have hR := (cbx2 HBC.out HO2.out (by first | exact Nat.lt_succ_self _ | (simp; done) | (simp; omega)) (Nat.le_refl _) ZZ2.out).mono (n2 := W1.heap.size) (by first | exact Nat.le_refl _ | (simp; done) | (simp; omega)); (with_reducible exact ⟨W1.heap.size, N, rfl, rfl, HS2.out, hR⟩))
        | fail
  case rest =>
  obtain ⟨P, N, rfl, rfl, hSN, hR⟩ := hcut
  rename World => V1
  have BV : Hid (Below W1.heap.size W1 V1) := hR.bel
  have HS : Hid (_) := hSN
  have HO : Hid (COwn W1.heap.size V1 N) := hR.own
  have HST1 : Hid (Site n0 V1 b M C) := HST.out.keep hR.bel
  have sz1 := BW.out.size
  have lR : w.heap.size < W1.heap.size := (Array.getElem?_eq_some_iff.1 QR.out).1
  have sz2 := BV.out.size
  have gp := hR.gp
  have nP : P ≠ b := by have := HBL.out; omega
  have HON : Hid (COwn n0 V1 N ∧ ¬ MineC N b ∧ ¬ MineC N w.heap.size) := ⟨hR.own.mono HST.out.ge, fun q => by have h1 := (MineC.fresh hR.own q).1; have h3 := HBL.out; omega, fun q => by have h1 := (MineC.fresh hR.own q).1; omega⟩
  have q4 := (BV.out.block w.heap.size lR).trans QR.out
  clear c1 GG r0 r1 rl rf0 rf1 s2 s3 s4 sl t0 t1 ql
  have r0 : V1.cell? ⟨w.heap.size, 0, none⟩ = some (.int .i64 0) := by simp [World.cell?, q4]
  have r1 : V1.cell? ⟨w.heap.size, 1, none⟩ = some (.int .i64 0) := by simp [World.cell?, q4]
  have rl : w.heap.size < V1.heap.size := lt_of_cell r0
  have rf0 := frozen_of_block q4 0
  have rf1 := frozen_of_block q4 1
  have p0 := hR.p0
  have p1 := hR.p1
  have pl : P < V1.heap.size := lt_of_cell p0
  have s3 := HST1.out.c3
  have s4 := HST1.out.c4
  have sf3 := HST1.out.fz 3
  have sf4 := HST1.out.fz 4
  have sl := HST1.out.lt
  clear q4 hR hSN gp
  go_wp2
  refine bp_genR fun V9 hV9 => ?_
  obtain ⟨k9, k0, k1⟩ := HST1.out.ans HNR.out r0 r1 hV9
  have F9 : Far b w V9 := by rw [hV9]; exact (((Far.of_below BW.out).trans (Far.of_below BV.out)).set (.inr (Nat.le_refl _)) 0 _).set (.inr (Nat.le_refl _)) 1 _
  clear hV9
  (try simp only [Exit.inBlock, Exit.then])
  refine bodyPost_ret (by simp [results, Tryz.results105, go_sem, k0, k1]; try rfl) rfl ?_
  exact ⟨M, C, rfl, Mv.Same.refl _, Cv.Same.refl _, k9, F9, fun _ _ q => q⟩

theorem checkS_any {n0 : Nat} {w : World} {b : Nat} {M : Mv} {C : Cv} (h : Site n0 w b M C) (hF : C.Fits) (a : Int) :
    Calls Tryz.prog 105 #[.pointer (some ⟨b, 0, none⟩), .int .i64 a] w (DoSaid n0 w b M C (chkE M C a) 0 M (chkD M C a)) := by
  by_cases h0 : a < 0
  · have e : chkE M C a = 5 := by unfold chkE; rw [if_neg (by omega)]
    unfold chkD
    rw [e, if_neg (by decide)]
    exact check_neg h h0
  · by_cases h1 : (M.qus.length : Int) ≤ a
    · have e : chkE M C a = 5 := by unfold chkE; rw [if_neg (by omega)]
      unfold chkD
      rw [e, if_neg (by decide)]
      exact check_big h h0 h1
    · obtain ⟨k, rfl⟩ : ∃ k : Nat, a = (k : Int) := ⟨a.toNat, by omega⟩
      have hk : k < M.qus.length := by omega
      have e : chkE M C (k : Int) = lookE C M.qus (M.qus.getD k default) := by unfold chkE; rw [if_pos (by omega), Int.toNat_natCast]
      unfold chkD
      rw [e, Int.toNat_natCast]
      by_cases hz : lookE C M.qus (M.qus.getD k default) = 0
      · rw [if_pos hz]; exact check_ok h hF hk hz
      · rw [if_neg hz]; exact check_no h hF hk hz

end Go.Proofs.YtdngbojbpmdegaaGreatDoor
