/-
  What the call say of package run does (own work): a quote more, or a fault. The conditions: the core holds a machine that may be; its enclave is there.
-/
import Derived.Test.YtdngbojbpmdegaaGreatDoorJAppRows
import Derived.Deep.QuietTactic
import Derived.BigQuiet
namespace Go.Proofs.YtdngbojbpmdegaaGreatDoor
open Go.RowKit

def mvQ0 (M : Mv) : Mv := { M with qa := none, qus := [], qcap := 0 }
theorem Owned.noQ {n0 : Nat} {w : World} {M : Mv} (h : Owned n0 w M) : Owned n0 w (mvQ0 M) :=
  ⟨⟨h.at_.fr, h.at_.frl, h.at_.frc, h.at_.frok, h.at_.en, h.at_.enl, h.at_.enok, .inl rfl, Nat.zero_le _, fun j hj => absurd hj (by simp [mvQ0])⟩, h.nf, h.ne, fun b o s e => (by cases e), h.nw, h.fe, fun _ _ _ _ _ _ e => (by cases e), fun _ _ _ _ _ _ e => (by cases e), h.wf, h.we, fun _ _ _ _ _ _ _ _ e => (by cases e), h.ww⟩
theorem Mine.noQ {M : Mv} {b : Nat} (h : Mine (mvQ0 M) b) : Mine M b := by
  rcases h with q | q | ⟨o, s, q⟩ | q
  · exact .inl q
  · exact .inr (.inl q)
  · cases q
  · exact .inr (.inr (.inr q))
theorem Owned.withQ {n0 : Nat} {w : World} {M : Mv} (h : Owned n0 w (mvQ0 M)) {g cap : Nat} {qus : List Qu} (hr : RowsAt w 2 Qu.cells (some ⟨g, 0, none⟩) qus) (hl : qus.length ≤ maxLen) (hok : ∀ j, j < qus.length → (qus.getD j default).Ok) (hn : n0 ≤ g ∧ g < w.heap.size ∧ ∀ o, w.frozen? ⟨g, o, none⟩ = false) (hg : ¬ Mine (mvQ0 M) g) :
    Owned n0 w { M with qa := some ⟨g, 0, none⟩, qus := qus, qcap := cap } := by
  have off : ∀ {a : Option Addr}, (∀ b o s, a = some ⟨b, o, s⟩ → Mine (mvQ0 M) b) → Off a (some ⟨g, 0, none⟩) := fun ha b o s o' s' e e' => by
    simp only [Option.some.injEq, Addr.mk.injEq] at e'
    exact hg (e'.1 ▸ ha b o s e)
  exact ⟨⟨h.at_.fr, h.at_.frl, h.at_.frc, h.at_.frok, h.at_.en, h.at_.enl, h.at_.enok, hr, hl, hok⟩, h.nf, h.ne, fun b o s e => (by
      simp only [Option.some.injEq, Addr.mk.injEq] at e
      obtain ⟨rfl, _⟩ := e
      exact hn), h.nw, h.fe, off fun b o s e => .inl ⟨o, s, e⟩, off fun b o s e => .inr (.inl ⟨o, s, e⟩), h.wf, h.we, fun j hj => off fun b o s e => .inr (.inr (.inr ⟨j, hj, o, s, e⟩)), h.ww⟩
theorem quotes_of_row {n0 : Nat} {w : World} {e : TypeId} {a : Option Addr} {cap : Nat} {xs : List Qu} (h : w.ownsRow n0 e 2 (.slice a xs.length cap) xs.length (xs.flatMap Qu.cells)) : RowsAt w 2 Qu.cells a xs := by
  rcases h.2 with ⟨_, h0⟩ | ⟨g, cap', cur, hv, _, hg, _, _, _, ht⟩
  · exact .inl (List.length_eq_zero_iff.1 h0)
  · simp only [Value.slice.injEq] at hv
    rw [hv.1]
    have e1 : cur = (xs.flatMap Qu.cells ++ cur.toList.drop (xs.length * 2)).toArray := by
      have : xs.flatMap Qu.cells = cur.toList.take (xs.length * 2) := by rw [← ht]
      rw [this]
      simp
    rw [e1] at hg
    exact rows_of_block (cells := Qu.cells) (c := 2) (fun _ => rfl) hg
theorem own_blockR {a : Option Addr} {n cap b : Nat} (h : (Value.slice a n cap).ownBlock = some b) : ∃ o s, a = some ⟨b, o, s⟩ := by
  cases a with
  | none => simp [Value.ownBlock] at h
  | some x =>
    obtain ⟨xb, xo, xs⟩ := x
    simp only [Value.ownBlock, Option.some.injEq] at h
    exact ⟨xo, xs, by rw [← h]⟩
theorem info_qR : (Tryz.prog.info? 90).map (fun i => (i.zero, i.size, i.bytes)) = some (some (.agg #[.string ⟨#[]⟩, .int .i64 0]), 2, 24) := by kernel_rfl
/-- a quote more -/
theorem quote_more {n0 : Nat} {W : World} {cb : Nat} {M : Mv} {e pc : Int} {rs : List Int} (h : Core n0 W cb M e pc rs) (hn0 : n0 ≤ W.heap.size) (hl : M.qus.length < 40) (q : Qu) (hq : q.Ok) :
    ∃ g cap w8, (Builtin.append_ #[27, 27] 27 #[.slice M.qa M.qus.length M.qcap, .slice (some ⟨W.heap.size, 0, none⟩) 1 1]).run Tryz.prog (W.alloc (.cells #[.string q.log, .int .i64 q.data] 90)) = .ok (.slice (some ⟨g, 0, none⟩) (M.qus.length + 1) cap) w8 ∧
      (∀ b, b < W.heap.size → ¬ Mine M b → w8.heap[b]? = W.heap[b]?) ∧ W.heap.size ≤ w8.heap.size ∧ Below n0 W w8 ∧
      Core n0 (w8.setCell ⟨cb, 2, none⟩ (.slice (some ⟨g, 0, none⟩) (M.qus.length + 1) cap)) cb { M with qa := some ⟨g, 0, none⟩, qus := M.qus ++ [q], qcap := cap } e pc rs ∧ ∀ b, b < W.heap.size → ¬ Mine M b → ¬ Mine { M with qa := some ⟨g, 0, none⟩, qus := M.qus ++ [q], qcap := cap } b := by
  obtain ⟨iI, hiI, hzI⟩ := Option.map_eq_some_iff.1 info_qR
  simp only [Prod.mk.injEq] at hzI
  obtain ⟨z1, z2, z3⟩ := hzI
  have hB7 : Below W.heap.size W (W.alloc (.cells #[.string q.log, .int .i64 q.data] 90)) := (Below.refl _ _).alloc (Nat.le_refl _) _
  have s7 : (W.alloc (.cells #[.string q.log, .int .i64 q.data] 90)).heap.size = W.heap.size + 1 := by simp
  have b7 : (W.alloc (.cells #[.string q.log, .int .i64 q.data] 90)).heap[W.heap.size]? = some (.cells #[.string q.log, .int .i64 q.data] 90) := Go.Deep.blk_alloc_new _ _
  have h7 := h.keep hB7
  generalize W.alloc (.cells #[.string q.log, .int .i64 q.data] 90) = V7 at hB7 s7 b7 h7
  obtain ⟨g, cap, w8, hr, own8, grow, lies, lt⟩ := run_append_lies (P := Tryz.prog) V7 27 27 n0 90 iI _ 2 24 Tryz.underlying27 hiI z1 z2 z3 rfl (by omega) (.slice M.qa M.qus.length M.qcap) M.qus.length (M.qus.flatMap Qu.cells) h7.q ⟨W.heap.size, 0, none⟩ 1 1 (Qu.cells q) rfl
    (fun j u hu => World.news_of_block (cs := #[.string q.log, .int .i64 q.data]) b7 j u hu) (fun u hu => by simp [Qu.cells] at hu; rcases hu with rfl | rfl <;> rfl) (by omega) (by unfold maxLen; omega) (by omega) (by omega) (W.heap.size + 1) s7
  have keep : ∀ b, b < W.heap.size + 1 → (∀ o s, M.qa ≠ some ⟨b, o, s⟩) → w8.heap[b]? = V7.heap[b]? := fun b hb hv => grow.block b (by omega) (fun e => by obtain ⟨o', s', e'⟩ := own_blockR e.symm; exact hv o' s' e')
  have keep0 : ∀ b, b < W.heap.size → (∀ o s, M.qa ≠ some ⟨b, o, s⟩) → w8.heap[b]? = W.heap[b]? := fun b hb hv => (keep b (by omega) hv).trans (hB7.block b hb)
  have gcase : (∃ o s, M.qa = some ⟨g, o, s⟩) ∨ g = W.heap.size + 1 := by
    rcases lies with e | e
    · exact .inl (own_blockR e)
    · exact .inr e
  have gcb : g ≠ cb := by
    rcases gcase with ⟨o, s, e⟩ | e
    · exact fun q => h.off (q ▸ .inr (.inr (.inl ⟨o, s, e⟩)))
    · have := h.at_.lt; omega
  have gnoQ : ¬ Mine (mvQ0 M) g := by
    intro hm
    rcases gcase with ⟨o, s, e⟩ | e
    · rcases hm with ⟨o', s', q⟩ | ⟨o', s', q⟩ | ⟨o', s', q⟩ | ⟨j, hj, o', s', q⟩
      · exact h.own.fq g o' s' o s q e
      · exact h.own.eq g o' s' o s q e
      · cases q
      · exact h.own.wq j hj g o' s' o s q e
    · have := (Mine.fresh h.own (Mine.noQ hm)).2
      omega
  have hsz : W.heap.size ≤ w8.heap.size := by have := grow.size; omega
  have qaN : ∀ b, Mine (mvQ0 M) b → ∀ o s, M.qa ≠ some ⟨b, o, s⟩ := fun b hm o s e => by
    rcases hm with ⟨o', s', q⟩ | ⟨o', s', q⟩ | ⟨o', s', q⟩ | ⟨j, hj, o', s', q⟩
    · exact h.own.fq b o' s' o s q e
    · exact h.own.eq b o' s' o s q e
    · cases q
    · exact h.own.wq j hj b o' s' o s q e
  have o8 : Owned n0 w8 (mvQ0 M) := h.own.noQ.keepM (fun b hm => keep0 b (Mine.fresh h.own (Mine.noQ hm)).2 (qaN b hm)) hsz
  have own8' : w8.ownsRow n0 90 2 (.slice (some ⟨g, 0, none⟩) (M.qus ++ [q]).length cap) (M.qus ++ [q]).length ((M.qus ++ [q]).flatMap Qu.cells) := by simpa using own8
  have gb : n0 ≤ g ∧ g < w8.heap.size ∧ ∀ o, w8.frozen? ⟨g, o, none⟩ = false := by
    rcases own8.2 with ⟨hv, _⟩ | ⟨g', cap', cur, hv, hb, hg, _⟩
    · cases hv
    · simp only [Value.slice.injEq, Option.some.injEq, Addr.mk.injEq] at hv
      obtain ⟨⟨rfl, _⟩, _⟩ := hv
      exact ⟨hb, lt, frozen_of_block hg⟩
  have O8 : Owned n0 w8 { M with qa := some ⟨g, 0, none⟩, qus := M.qus ++ [q], qcap := cap } := o8.withQ (quotes_of_row own8') (by simp; unfold maxLen; omega) (fun j hj => by
      by_cases e : j < M.qus.length
      · have := h.own.at_.quok j e
        simpa [List.getD_eq_getElem?_getD, List.getElem?_append_left e] using this
      · have : j = M.qus.length := by simp at hj; omega
        subst this
        simpa [List.getD_eq_getElem?_getD] using hq) gb gnoQ
  have mine' : ∀ b, ¬ Mine M b → b ≠ g → ¬ Mine { M with qa := some ⟨g, 0, none⟩, qus := M.qus ++ [q], qcap := cap } b := fun b hb hg hm => by
    rcases hm with q | q | ⟨o, s, q⟩ | q
    · exact hb (.inl q)
    · exact hb (.inr (.inl q))
    · simp only [Option.some.injEq, Addr.mk.injEq] at q
      exact hg q.1.symm
    · exact hb (.inr (.inr (.inr q)))
  have far : ∀ b, b < W.heap.size → ¬ Mine M b → b ≠ g := fun b hb hm q => by
    rcases gcase with ⟨o, s, e⟩ | e
    · exact hm (q ▸ .inr (.inr (.inl ⟨o, s, e⟩)))
    · omega
  have cbk : ∀ o, w8.cell? ⟨cb, o, none⟩ = W.cell? ⟨cb, o, none⟩ := fun o => World.cell?_of_block (keep0 cb h.at_.lt fun o' s' e' => h.off (.inr (.inr (.inl ⟨o', s', e'⟩))))
  have oth : ∀ o, o ≠ 2 → (w8.setCell ⟨cb, 2, none⟩ (.slice (some ⟨g, 0, none⟩) (M.qus.length + 1) cap)).cell? ⟨cb, o, none⟩ = W.cell? ⟨cb, o, none⟩ := fun o ho => (World.cell?_setCell_other _ _ _ _ (by intro q; simp only [Addr.mk.injEq, true_and, and_true] at q; omega)).trans (cbk o)
  have hm9 : ∀ b, Mine { M with qa := some ⟨g, 0, none⟩, qus := M.qus ++ [q], qcap := cap } b → (w8.setCell ⟨cb, 2, none⟩ (.slice (some ⟨g, 0, none⟩) (M.qus.length + 1) cap)).heap[b]? = w8.heap[b]? := fun b hb => set_heap _ _ _ _ _ (fun e => mine' cb h.off (Ne.symm gcb) (e ▸ hb))
  refine ⟨g, cap, w8, hr, fun b hb hm => keep0 b hb fun o s e => hm (.inr (.inr (.inl ⟨o, s, e⟩))), hsz, ?_, ?_, fun b hb hm => mine' b hm (far b hb hm)⟩
  · exact ⟨grow.os.trans hB7.os, grow.tape.trans hB7.tape, grow.output.trans hB7.output, hsz, fun b hb => keep0 b (by omega) fun o s e => by have := (h.own.nq b o s e).1; omega⟩
  · refine ⟨⟨(oth 0 (by omega)).trans h.at_.c0, (oth 1 (by omega)).trans h.at_.c1, ?_, (oth 3 (by omega)).trans h.at_.c3, (oth 4 (by omega)).trans h.at_.c4, fun i hi => (oth (5 + i) (by omega)).trans (h.at_.cr i hi), fun o => ?_, by simp [World.setCell]; have := h.at_.lt; omega⟩, O8.keepM hm9 (by simp [World.setCell]), ?_, h.ge, mine' cb h.off (Ne.symm gcb)⟩
    · rw [World.cell?_setCell_same _ _ _ ((cbk 2).trans h.at_.c2)]; simp
    · rw [World.frozen?_setCell]
      exact (World.frozen?_of_block (keep0 cb h.at_.lt fun o' s' e' => h.off (.inr (.inr (.inl ⟨o', s', e'⟩))))).trans (h.at_.fz o)
    · refine QRow.keep (w := w8) ?_ fun b o s e => hm9 b (.inr (.inr (.inl ⟨o, s, e⟩)))
      exact own8'

set_option maxRecDepth 100000 in
set_option maxHeartbeats 4000000 in
theorem say_none {n0 : Nat} {w : World} {cb : Nat} {M : Mv} {e pc : Int} {rs : List Int} (h : Core n0 w cb M e pc rs) (hn0 : n0 ≤ w.heap.size) {v : Int} (hl : 40 ≤ M.qus.length) :
    Calls Tryz.prog 151 #[.pointer (some ⟨cb, 0, none⟩), .int .i64 v] w fun x w' => x = .returned (.agg #[.int .i64 3, .int .i64 0]) ∧ Core n0 w' cb M e pc rs ∧ Below n0 w w' ∧ FarSame M cb w w' := by
  obtain ⟨W2, hW2⟩ : ∃ W2, Hid (W2 = w.alloc (.cells #[.int .i64 0, .int .i64 0] 47)) := ⟨_, rfl⟩
  have BW : Hid (Below w.heap.size w W2) := by show Below _ _ _; rw [hW2.out]; exact (Below.refl _ _).alloc (Nat.le_refl _) _
  have hblk : W2.heap[w.heap.size]? = some (.cells #[.int .i64 0, .int .i64 0] 47 (0, 0)) := by rw [hW2.out]; exact Go.Deep.blk_alloc_new _ _
  have rl : w.heap.size < W2.heap.size := (Array.getElem?_eq_some_iff.1 hblk).1
  have RB : Hid (∀ w', Below W2.heap.size W2 w' → w'.heap[w.heap.size]? = some (.cells #[.int .i64 0, .int .i64 0] 47 (0, 0))) := fun w' h => (h.block _ rl).trans hblk
  have hMR : Hid (¬ Mine M w.heap.size) := fun q => by have := (Mine.fresh h.own q).2; omega
  have hRc : w.heap.size ≠ cb := by have := h.at_.lt; omega
  have HC2 : Hid (Core n0 W2 cb M e pc rs) := h.keep BW.out
  have c2 := HC2.out.at_.c2
  have lc := HC2.out.at_.lt
  have hl' : (40 : Int) ≤ (M.qus.length : Int) := by omega
  have hml := h.own.at_.qul
  unfold maxLen at hml
  clear h hblk hl
  go_enter Tryz.func151, Tryz.ntmps151
  go_upto_region 1 with fail
  rw [← hW2.out]
  go_wp2_with (go_at_call 147; refine (fault_run _).mono ?_; rintro x W1 ⟨rfl, hb⟩; have HB1 : Hid (Below W2.heap.size W2 W1) := hb; have hblk := RB.out W1 HB1.out; have r0 : W1.cell? ⟨w.heap.size, 0, none⟩ = some (.int .i64 0) := (by simp [World.cell?, hblk]); have r1 : W1.cell? ⟨w.heap.size, 1, none⟩ = some (.int .i64 0) := (by simp [World.cell?, hblk]); have f0 := frozen_of_block hblk 0; have f1 := frozen_of_block hblk 1; have rl1 := lt_of_cell r0; dsimp only at rl1; clear hblk; clear hb)
  refine bp_genR fun V9 hV9 => ?_
  obtain ⟨k0, k1⟩ := blk2R (v0 := .int .i64 3) (v1 := .int .i64 0) r0 r1
  rw [← hV9] at k0 k1
  have HC9 : Core n0 V9 cb M e pc rs := by rw [hV9]; exact ((HC2.out.keep HB1.out).far hMR.out hRc 0 _).far hMR.out hRc 1 _
  have HB9 : Below n0 w V9 := by rw [hV9]; exact (((BW.out.mono hn0).trans (HB1.out.mono (by have := BW.out.size; omega))).setCell hn0 _).setCell hn0 _
  have HF9 : FarSame M cb w V9 := by rw [hV9]; exact ((((FarSame.refl M cb w).below (Nat.le_refl _) BW.out).below BW.out.size HB1.out).set (.inl (Nat.le_refl _)) 0 _).set (.inl (Nat.le_refl _)) 1 _
  clear hV9
  (try simp only [Exit.inBlock, Exit.then])
  refine bodyPost_ret (by simp [results, Tryz.results151, go_sem, k0, k1]; try rfl) rfl ?_
  exact ⟨rfl, HC9, HB9, HF9⟩

set_option maxRecDepth 100000 in
set_option maxHeartbeats 4000000 in
theorem say_some {n0 : Nat} {w : World} {cb : Nat} {M : Mv} {m : Nat} {pc : Int} {rs : List Int} (h : Core n0 w cb M ((m : Int) + 1) pc rs) (hG : Good M) (hn0 : n0 ≤ w.heap.size) (hm : m < 4) {v : Int} (wv : (Lit.int .i64 v).wf = true) (hl : ¬ 40 ≤ M.qus.length) :
    Calls Tryz.prog 151 #[.pointer (some ⟨cb, 0, none⟩), .int .i64 v] w fun x w' => ∃ M' : Mv, M'.Same (sayM M m v) ∧ x = .returned (.agg #[.int .i64 0, .int .i64 0]) ∧ Core n0 w' cb M' ((m : Int) + 1) pc rs ∧ Below n0 w w' ∧ FarSame M cb w w' ∧ MineSub M M' w.heap.size := by
  obtain ⟨e, he⟩ : ∃ e : Int, e = (m : Int) + 1 := ⟨_, rfl⟩
  rw [← he] at h ⊢
  obtain ⟨W2, hW2⟩ : ∃ W2, Hid (W2 = w.alloc (.cells #[.int .i64 0, .int .i64 0] 47)) := ⟨_, rfl⟩
  have BW : Hid (Below w.heap.size w W2) := by show Below _ _ _; rw [hW2.out]; exact (Below.refl _ _).alloc (Nat.le_refl _) _
  have hblk : W2.heap[w.heap.size]? = some (.cells #[.int .i64 0, .int .i64 0] 47 (0, 0)) := by rw [hW2.out]; exact Go.Deep.blk_alloc_new _ _
  have rl : w.heap.size < W2.heap.size := (Array.getElem?_eq_some_iff.1 hblk).1
  have RB : Hid (∀ w', Below W2.heap.size W2 w' → w'.heap[w.heap.size]? = some (.cells #[.int .i64 0, .int .i64 0] 47 (0, 0))) := fun w' h => (h.block _ rl).trans hblk
  have hMR : Hid (¬ Mine M w.heap.size) := fun q => by have := (Mine.fresh h.own q).2; omega
  have hRc : w.heap.size ≠ cb := by have := h.at_.lt; omega
  have HC2 : Hid (Core n0 W2 cb M e pc rs) := h.keep BW.out
  have c1 := HC2.out.at_.c1
  have c2 := HC2.out.at_.c2
  have c3 := HC2.out.at_.c3
  have lc := HC2.out.at_.lt
  have hl' : ¬ (40 : Int) ≤ (M.qus.length : Int) := by omega
  have hml := h.own.at_.qul
  unfold maxLen at hml
  have hel := hG.s2
  obtain ⟨eb, eo, hea, _, t1, _⟩ := HC2.out.own.at_.enclave (j := m) (by omega)
  rw [hea, hel] at c1
  rw [he] at c3
  have le : eb < W2.heap.size := lt_of_cell t1
  have hwm : IntKind.i64.wrap ((m : Int) + 1 - 1) = (m : Int) := by rw [IntKind.wrap_i64]; omega
  have hm4 : (m : Int) < 4 := by omega
  have hok : (Qu.mk (M.ens.getD m default).log v).Ok := ⟨(h.own.at_.enok m (by omega)).len, wv⟩
  obtain ⟨lg, hlg⟩ : ∃ lg, Hid ((M.ens.getD m default).log = lg) := ⟨_, rfl⟩
  rw [hlg.out] at t1 hok
  have HQ : Hid (∀ n, ∃ g cap w8, _) := fun n => quote_more (HC2.out.keep (below_drewN (Below.refl _ _) n)) (by have := (below_drewN (Below.refl W2.heap.size W2) n).size; have := BW.out.size; omega) (by omega) ⟨lg, v⟩ hok
  have HL : Hid (M.qus.length < 40) := by show _ < _; omega
  clear h hblk hl hG hea hel hok wv hm
  go_enter Tryz.func151, Tryz.ntmps151
  go_upto_region 1 with fail
  rw [← hW2.out]
  go_upto_region 3 with fail
  go_quiet (fail)
  obtain ⟨g, cap, w8, hr8, kp, sz, hb8, hc8, mn⟩ := HQ.out nq
  have hblk : w8.heap[w.heap.size]? = some (.cells #[.int .i64 0, .int .i64 0] 47 (0, 0)) := (kp _ (by have := (below_drewN (Below.refl W2.heap.size W2) nq).size; omega) hMR.out).trans (RB.out _ (below_drewN (Below.refl _ _) nq))
  have hdw := below_drewN (Below.refl W2.heap.size W2) nq
  rw [show (W2.drewN nq).heap.size = W2.heap.size by simp] at hr8
  dsimp only at hr8
  have HR8 : Hid (_) := hr8
  have HB8 : Hid (_) := hb8
  have HC8 : Hid (_) := hc8
  have HMN : Hid (¬ Mine { M with qa := some ⟨g, 0, none⟩, qus := M.qus ++ [⟨lg, v⟩], qcap := cap } w.heap.size) := mn _ (by have := hdw.size; omega) hMR.out
  have HDW : Hid (_) := hdw
  have KPF : Hid (FarSame M cb w w8) := fun b hl hm _ => ((kp b (by have := hdw.size; have := BW.out.size; omega) hm).trans (hdw.block b (by have := BW.out.size; omega))).trans (BW.out.block b hl)
  have MS : Hid (MineSub M { M with qa := some ⟨g, 0, none⟩, qus := M.qus ++ [⟨lg, v⟩], qcap := cap } w.heap.size) := fun b hl hm => mn b (by have := hdw.size; have := BW.out.size; omega) hm
  have r0 : w8.cell? ⟨w.heap.size, 0, none⟩ = some (.int .i64 0) := by simp [World.cell?, hblk]
  have r1 : w8.cell? ⟨w.heap.size, 1, none⟩ = some (.int .i64 0) := by simp [World.cell?, hblk]
  have f0 := frozen_of_block hblk 0
  have f1 := frozen_of_block hblk 1
  have rl1 : w.heap.size < w8.heap.size := lt_of_cell r0
  have kcb := kp cb (by have := hdw.size; omega) (HC2.out.off)
  have g2 : w8.cell? ⟨cb, 2, none⟩ = some (.slice M.qa M.qus.length M.qcap) := (World.cell?_of_block kcb).trans ((hdw.cell (p := ⟨cb, 2, none⟩) lc).trans c2)
  have gf : w8.frozen? ⟨cb, 2, none⟩ = false := (World.frozen?_of_block kcb).trans ((hdw.frozen (p := ⟨cb, 2, none⟩) lc).trans (HC2.out.at_.fz 2))
  have gl : cb < w8.heap.size := lt_of_cell g2
  clear hr8 kp sz hb8 hc8 mn hblk hdw kcb HQ
  go_wp2_with (first
    | (at_builtin; refine wpList_append_eq rfl (.tmp 32) (.tmp 36) 27 rfl _ _ _ rfl rfl HR8.out ?_)
    | fail)
  refine bp_genR fun V9 hV9 => ?_
  obtain ⟨q0, q1⟩ : (w8.setCell ⟨cb, 2, none⟩ (.slice (some ⟨g, 0, none⟩) (M.qus.length + 1) cap)).cell? ⟨w.heap.size, 0, none⟩ = some (.int .i64 0) ∧ (w8.setCell ⟨cb, 2, none⟩ (.slice (some ⟨g, 0, none⟩) (M.qus.length + 1) cap)).cell? ⟨w.heap.size, 1, none⟩ = some (.int .i64 0) := ⟨(World.cell?_setCell_other _ _ _ _ (by intro q; simp only [Addr.mk.injEq] at q; exact hRc q.1.symm)).trans r0, (World.cell?_setCell_other _ _ _ _ (by intro q; simp only [Addr.mk.injEq] at q; exact hRc q.1.symm)).trans r1⟩
  obtain ⟨k0, k1⟩ := blk2R (v0 := .int .i64 0) (v1 := .int .i64 0) q0 q1
  rw [← hV9] at k0 k1
  have HC9 : Core n0 V9 cb { M with qa := some ⟨g, 0, none⟩, qus := M.qus ++ [⟨lg, v⟩], qcap := cap } e pc rs := by rw [hV9]; exact (HC8.out.far HMN.out hRc 0 _).far HMN.out hRc 1 _
  have HB9 : Below n0 w V9 := by rw [hV9]; exact (((((BW.out.mono hn0).trans (HDW.out.mono (by have := BW.out.size; omega))).trans HB8.out).setCell HC2.out.ge _).setCell hn0 _).setCell hn0 _
  have HF9 : FarSame M cb w V9 := by rw [hV9]; exact ((KPF.out.set (.inr (.inr rfl)) 2 _).set (.inl (Nat.le_refl _)) 0 _).set (.inl (Nat.le_refl _)) 1 _
  clear hV9
  (try simp only [Exit.inBlock, Exit.then])
  refine bodyPost_ret (by simp [results, Tryz.results151, go_sem, k0, k1]; try rfl) rfl ?_
  exact ⟨{ M with qa := some ⟨g, 0, none⟩, qus := M.qus ++ [⟨lg, v⟩], qcap := cap }, ⟨rfl, fun j hj => ⟨rfl, rfl, rfl, rfl⟩, rfl, by unfold sayM; rw [hlg.out]⟩, rfl, by first | exact HC9 | (rw [← he]; exact HC9), HB9, HF9, MS.out⟩

end Go.Proofs.YtdngbojbpmdegaaGreatDoor
