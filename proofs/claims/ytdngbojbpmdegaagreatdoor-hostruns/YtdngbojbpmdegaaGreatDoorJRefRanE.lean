import Derived.Test.YtdngbojbpmdegaaGreatDoorRefRanH
namespace Go.Proofs.YtdngbojbpmdegaaGreatDoor
open Go.RowKit
set_option linter.unusedVariables false
set_option maxRecDepth 1000000 in
set_option maxHeartbeats 4000000 in
theorem ran_st {n0 m bm br X Y : Nat} {w wr : World} {R : Rn} {k : Nat} {pc : Int} {M : Mv} {rs : List Int} (c0 c3 c5 c6 c7 c9 c31 c32 c246 c247 c248 c249 c250 c251 c252 c253 c254 c255 c256 c257 c258 c259 c260 c261 c262 u13 u14 u15 u16 u17 u18 u19 u20 u21 u22 u23 u24 u25 u26 u27 u28 u29 u30 u33 u34 u35 u36 u37 u38 u39 u40 u41 u42 u43 u44 u45 u46 u47 u48 u49 u50 u51 u52 u53 u54 u55 u56 u57 u58 u59 u60 u61 u62 u63 u64 u65 u66 u67 u68 u69 u70 u71 u72 u73 u74 u75 u76 u77 u78 u79 u80 u81 u82 u83 u84 u85 u86 u87 u88 u89 u90 u91 u92 u93 u94 u95 u96 u97 u98 u99 u100 u101 u102 u103 u104 u105 u106 u107 u108 u109 u110 u111 u112 u113 u114 u115 u116 u117 u118 u119 u120 u121 u122 u123 u124 u125 u126 u127 u128 u129 u130 u131 u132 u133 u134 u135 u136 u137 u138 u139 u140 u141 u142 u143 u144 u145 u146 u147 u148 u149 u150 u151 u152 u153 u154 u155 u156 u157 u158 u159 u160 u161 u162 u163 u164 u165 u166 u167 u168 u169 u170 u171 u172 u173 u174 u175 u176 u177 u178 u179 u180 u181 u182 u183 u184 u185 u186 u187 u188 u189 u190 u191 u192 u193 u194 u195 u196 u197 u198 u199 u200 u201 u202 u203 u204 u205 u206 u207 u208 u209 u210 u211 u212 u213 u214 u215 u216 u217 u218 u219 u220 u221 u222 u223 u224 u225 u226 u227 u228 u229 u230 u231 u232 u233 u234 u235 u236 u237 u238 u239 u240 u241 u242 u243 u244 u245 : Value) (h : RanK n0 m bm br X Y w R (k + 1) pc M rs wr) {x n : Int} {k1 k2 : Nat} (hk1 : k1 < 24) (hk2 : k2 < 24) (hf1 : frmF M.frs ((m : Int) + 1) pc 4 = (k1 : Int)) (hf2 : frmF M.frs ((m : Int) + 1) (pc + 1) 4 = (k2 : Int)) (hx : wordAt M (k1 : Int) pc = x) (hx2 : wordAt M (k2 : Int) (pc + 1) = n) (hk : x % 16 = 6) {k3 : Nat} (hk3 : k3 < 24) (hf3 : frmF M.frs ((m : Int) + 1) (rs.getD (regB x) 0) 2 = (k3 : Int)) (Q0 : Exit -> Act -> World -> Prop) (hret : ∀ a' w'', RanF m bm br X Y c0 c3 c5 c6 c7 c9 c31 c32 c246 c247 c248 c249 c250 c251 c252 c253 c254 c255 c256 c257 c258 c259 c260 c261 c262 (RanOut m X Y w R) a' w'' -> Q0 .ret a' w'') :
    Code.wp Tryz.prog ranBody (Exit.then (fun a' w'' => RanF m bm br X Y c0 c3 c5 c6 c7 c9 c31 c32 c246 c247 c248 c249 c250 c251 c252 c253 c254 c255 c256 c257 c258 c259 c260 c261 c262 (RanRel n0 m bm br X Y w R) a' w'' /\ ranMu a' w'' < k + 1) Q0) ⟨#[c0, .int .i64 ((m : Int) + 1), .int .i64 pc, c3, .int .i64 ((k : Int) + 1), c5, c6, c7, .pointer (some ⟨br, 0, none⟩), c9, .pointer (some ⟨X, 0, none⟩), .pointer (some ⟨Y, 0, none⟩), .pointer (some ⟨bm, 0, none⟩), u13, u14, u15, u16, u17, u18, u19, u20, u21, u22, u23, u24, u25, u26, u27, u28, u29, u30, c31, c32, u33, u34, u35, u36, u37, u38, u39, u40, u41, u42, u43, u44, u45, u46, u47, u48, u49, u50, u51, u52, u53, u54, u55, u56, u57, u58, u59, u60, u61, u62, u63, u64, u65, u66, u67, u68, u69, u70, u71, u72, u73, u74, u75, u76, u77, u78, u79, u80, u81, u82, u83, u84, u85, u86, u87, u88, u89, u90, u91, u92, u93, u94, u95, u96, u97, u98, u99, u100, u101, u102, u103, u104, u105, u106, u107, u108, u109, u110, u111, u112, u113, u114, u115, u116, u117, u118, u119, u120, u121, u122, u123, u124, u125, u126, u127, u128, u129, u130, u131, u132, u133, u134, u135, u136, u137, u138, u139, u140, u141, u142, u143, u144, u145, u146, u147, u148, u149, u150, u151, u152, u153, u154, u155, u156, u157, u158, u159, u160, u161, u162, u163, u164, u165, u166, u167, u168, u169, u170, u171, u172, u173, u174, u175, u176, u177, u178, u179, u180, u181, u182, u183, u184, u185, u186, u187, u188, u189, u190, u191, u192, u193, u194, u195, u196, u197, u198, u199, u200, u201, u202, u203, u204, u205, u206, u207, u208, u209, u210, u211, u212, u213, u214, u215, u216, u217, u218, u219, u220, u221, u222, u223, u224, u225, u226, u227, u228, u229, u230, u231, u232, u233, u234, u235, u236, u237, u238, u239, u240, u241, u242, u243, u244, u245, c246, c247, c248, c249, c250, c251, c252, c253, c254, c255, c256, c257, c258, c259, c260, c261, c262], []⟩ wr := by
  have H : Hid (_) := h
  have HS : Hid (stepR M m pc rs xorR = doR M m pc rs x n xorR) := by
    show _ = _
    unfold stepR
    rw [if_neg (by rw [hf1, hf2]; omega), hf1, hf2, hx, hx2]
  have hG := h.ok.good
  have hpc := h.ok.pc
  have hp64 : pc < 64 := run_at (e := (m : Int) + 1) (by rw [hf1]; omega) hpc.1
  have hm4 := h.ok.m4
  have hcl := h.ok.len
  have hl := hG.s1
  have hl2 := hG.s2
  have hxb := wordAt_in hG hk1 pc
  rw [hx] at hxb
  have hnb := wordAt_in hG hk2 (pc + 1)
  rw [hx2] at hnb
  obtain ⟨ea, eb, la, lb⟩ := reg_nat hxb.1
  obtain ⟨i1, hi1⟩ : ∃ i : Nat, pc % 8 = (i : Int) := ⟨(pc % 8).toNat, by omega⟩
  obtain ⟨i2, hi2⟩ : ∃ i : Nat, (pc + 1) % 8 = (i : Int) := ⟨((pc + 1) % 8).toNat, by omega⟩
  obtain ⟨b1, o1, q1, _, _, g1⟩ := frame_word h.st.own.at_ hG hk1 pc hi1
  obtain ⟨b2, o2, q2, _, _, g2⟩ := frame_word h.st.own.at_ hG hk2 (pc + 1) hi2
  rw [hx] at g1
  rw [hx2] at g2
  obtain ⟨fb, fo, hfa, _⟩ := h.st.own.at_.frame (j := 0) (by omega)
  obtain ⟨zb, zo, hea, _⟩ := h.st.own.at_.enclave (j := m) (by omega)
  have hi18 : (i1 : Int) < 8 := by omega
  have hi28 : (i2 : Int) < 8 := by omega
  have HI1 : Hid (pc % 8 = (i1 : Int)) := hi1
  have HI2 : Hid ((pc + 1) % 8 = (i2 : Int)) := hi2
  obtain ⟨a, HA⟩ : ∃ a, Hid (regA x = a) := ⟨_, rfl⟩
  obtain ⟨b, HBb⟩ : ∃ b, Hid (regB x = b) := ⟨_, rfl⟩
  rw [HA.out] at ea la
  rw [HBb.out] at eb lb
  obtain ⟨ra, hra⟩ : ∃ ra, Hid (rs.getD a 0 = ra) := ⟨_, rfl⟩
  obtain ⟨rb, hrb⟩ : ∃ rb, Hid (rs.getD b 0 = rb) := ⟨_, rfl⟩
  have hba := h.ok.rs a
  have hbb := h.ok.rs b
  rw [hra.out] at hba
  rw [hrb.out] at hbb
  have FF : Hid (∀ V, Below wr.heap.size wr V -> V.cell? ⟨bm, 0, none⟩ = some (.slice (some ⟨fb, fo, none⟩) 24 M.fcap) /\ V.cell? ⟨bm, 1, none⟩ = some (.slice (some ⟨zb, zo, none⟩) 4 M.ecap) /\ V.cell? ⟨bm, 2, none⟩ = some (.slice M.qa M.qus.length M.qcap) /\ V.cell? ⟨fb, fo + k1 * 4 + 3, none⟩ = some (.slice (some ⟨b1, o1, none⟩) 8 q1) /\ V.cell? ⟨b1, o1 + i1, none⟩ = some (.int .i64 x) /\ V.cell? ⟨fb, fo + k2 * 4 + 3, none⟩ = some (.slice (some ⟨b2, o2, none⟩) 8 q2) /\ V.cell? ⟨b2, o2 + i2, none⟩ = some (.int .i64 n) /\ V.cell? ⟨br, a, none⟩ = some (.int .i64 ra) /\ V.cell? ⟨br, b, none⟩ = some (.int .i64 rb) /\ V.frozen? ⟨br, a, none⟩ = false /\ bm < V.heap.size /\ br < V.heap.size /\ fb < V.heap.size /\ b1 < V.heap.size /\ b2 < V.heap.size) := fun V hV => by
    have c := H.out.st.keep hV
    have ga := c.cr a la
    have gb := c.cr b lb
    rw [hra.out] at ga
    rw [hrb.out] at gb
    have c0 := c.c0
    rw [hfa, hl] at c0
    have c1 := c.c1
    rw [hea, hl2] at c1
    obtain ⟨f1, f2, f3, f4⟩ := g1 V c.own.at_ fb fo hfa
    obtain ⟨f5, f6, f7, _⟩ := g2 V c.own.at_ fb fo hfa
    exact ⟨c0, c1, c.c2, f1, f2, f5, f6, ga, gb, c.fr a, c.lm, c.lr, f4, f3, f7⟩
  have CC : Hid (∀ V, Below wr.heap.size wr V -> ∀ n' right, 0 <= n' -> n' <= 1000000 -> (right = 1 ∨ right = 2 ∨ right = 4) -> Calls Tryz.prog 138 #[.agg #[.slice (some ⟨fb, fo, none⟩) 24 M.fcap, .slice (some ⟨zb, zo, none⟩) 4 M.ecap, .slice M.qa M.qus.length M.qcap], .int .i64 ((m : Int) + 1), .int .i64 n', .int .i64 right] V (CellSaid (frmF M.frs ((m : Int) + 1) n' right) n' V)) := fun V hV n' right h0 h1 h2 => by
    have c := cellOf_run M ((m : Int) + 1) n' right V (H.out.st.keep hV).own.at_ hG h0 h1 h2
    unfold Mv.val at c
    rw [hfa, hl, hea, hl2] at c
    exact c
  have hc1 := CC.out wr (Below.refl _ _) pc 4 (by omega) (by omega) (by omega)
  rw [hf1] at hc1
  have HF2 : Hid (_) := hf2
  have t1 : Int.tdiv x 16 = x / 16 := Int.tdiv_eq_ediv_of_nonneg hxb.1
  have t2 : Int.tdiv x 256 = x / 256 := Int.tdiv_eq_ediv_of_nonneg hxb.1
  have t3 : Int.tmod x 16 = 6 := by rw [Int.tmod_eq_emod_of_nonneg hxb.1, hk]
  have t4 : IntKind.i64.wrap (x / 16) = x / 16 := by rw [IntKind.wrap_i64]; omega
  have t5 : IntKind.i64.wrap (x / 256) = x / 256 := by rw [IntKind.wrap_i64]; omega
  have t6 : Int.tmod (x / 16) 4 = (a : Int) := by rw [Int.tmod_eq_emod_of_nonneg (by omega), ea]
  have t7 : Int.tmod (x / 256) 4 = (b : Int) := by rw [Int.tmod_eq_emod_of_nonneg (by omega), eb]
  have ha4 : (a : Int) < 4 := by omega
  have hb4 : (b : Int) < 4 := by omega
  have hk1' : (k1 : Int) < 24 := by omega
  have hk2' : (k2 : Int) < 24 := by omega
  have hw1 : IntKind.i64.wrap (pc + 1) = pc + 1 := by rw [IntKind.wrap_i64]; omega
  have hw2 : IntKind.i64.wrap (pc + 2) = pc + 2 := by rw [IntKind.wrap_i64]; omega
  have hw3 : IntKind.i64.wrap ((k : Int) + 1 - 1) = (k : Int) := by rw [IntKind.wrap_i64]; have := h.lk; omega
  have hw4 : Hid (wrap64 (k : Int) = (k : Int)) := w64k (by have := h.lk; omega)
  have hkp : 0 < (k : Int) + 1 := by omega
  have HX : Hid (x % 16 = 6) := hk
  have HLA : Hid (a < 4) := la
  have HLB : Hid (b < 4) := lb
  obtain ⟨y0, y1, y2, e1, e2, e3, e4, ga, gb, fa, lm, lr, lf, l1, l2⟩ := FF.out wr (Below.refl _ _)
  have HHA : Hid (M.ea = some ⟨zb, zo, none⟩) := hea
  rw [HBb.out, hrb.out] at hf3
  have HF3 : Hid (_) := hf3
  obtain ⟨i3, hi3⟩ : ∃ i : Nat, rb % 8 = (i : Int) := ⟨(rb % 8).toNat, by omega⟩
  obtain ⟨b3, o3, q3, qa3, _, g3⟩ := frame_word H.out.st.own.at_ hG hk3 rb hi3
  have HA3 : Hid ((M.frs.getD k3 default).a = some ⟨b3, o3, none⟩) := qa3
  obtain ⟨vv, HVV⟩ : ∃ vv, Hid (wordAt M (k3 : Int) rb = vv) := ⟨_, rfl⟩
  rw [HVV.out] at g3
  have HI3 : Hid (rb % 8 = (i3 : Int)) := hi3
  have hi38 : (i3 : Int) < 8 := by omega
  have hk3' : (k3 : Int) < 24 := by omega
  have HK3 : Hid (k3 < 24) := hk3
  have F3 : Hid (∀ V, Below wr.heap.size wr V -> V.cell? ⟨fb, fo + k3 * 4 + 3, none⟩ = some (.slice (some ⟨b3, o3, none⟩) 8 q3) /\ V.cell? ⟨b3, o3 + i3, none⟩ = some (.int .i64 vv) /\ V.frozen? ⟨b3, o3 + i3, none⟩ = false /\ b3 < V.heap.size /\ fb < V.heap.size) := fun V hV => by
    have c := H.out.st.keep hV
    obtain ⟨f1, f2, f3, f4⟩ := g3 V c.own.at_ fb fo hfa
    exact ⟨f1, f2, (c.own.nw k3 (by omega) _ _ _ qa3).2.2 _, f3, f4⟩
  have HST : Hid (stepR M m pc rs xorR = ⟨putWord M (k3 : Int) rb ra, pc + 2, rs, 0, 0⟩) := by
    show _ = _
    refine HS.out.trans ?_
    unfold doR
    rw [show kindR x = 6 from HX.out, HA.out, HBb.out, hra.out, hrb.out]
    simp [hf3]
  have hwv : Hid ((Lit.int .i64 ra).wf = true) := WalkArith.wf_i64 (by omega)
  have hbm3 : bm ≠ b3 := fun q => H.out.st.offm (q ▸ .inr (.inr (.inr ⟨k3, by omega, o3, none, HA3.out⟩)))
  have hbr3 : br ≠ b3 := fun q => H.out.st.offr (q ▸ .inr (.inr (.inr ⟨k3, by omega, o3, none, HA3.out⟩)))
  have hfb3 : fb ≠ b3 := fun q => H.out.st.own.wf k3 (by omega) b3 o3 none fo none HA3.out (by rw [hfa, q])
  have hlt3 : b3 < wr.heap.size := (H.out.st.own.nw k3 (by omega) _ _ _ HA3.out).2.1
  clear h hG hf1 hf2 hx hx2 hk ea eb g1 g2 hfa hl hl2 hi1 hi2 la lb hea hk1 hk2
  conv => arg 2; whnf
  go_upto_region 5 with (go_at_call 138; refine hc1.mono ?_; clear hc1; intro y W1 hs; have hs2 := cell_got hs HI1.out; clear hs; obtain ⟨rfl, hb⟩ := hs2; have HB1 : Hid (_) := hb; clear hb)
  have hc2 := CC.out W1 HB1.out (pc + 1) 4 (by omega) (by omega) (by omega)
  rw [HF2.out] at hc2
  clear y0 y1 y2 e1 e2 e3 e4 ga gb fa lm lr lf l1 l2
  obtain ⟨y0, y1, y2, e1, e2, e3, e4, ga, gb, fa, lm, lr, lf, l1, l2⟩ := FF.out W1 HB1.out
  go_upto_region 6 with (go_at_call 138; refine hc2.mono ?_; clear hc2; intro y W2 hs; have hs2 := cell_got hs HI2.out; clear hs; obtain ⟨rfl, hb⟩ := hs2; have HB2 : Hid (Below wr.heap.size wr W2) := HB1.out.trans (hb.mono HB1.out.size); clear hb)
  clear y0 y1 y2 e1 e2 e3 e4 ga gb fa lm lr lf l1 l2 HF2 HI1 HI2
  obtain ⟨V3, hV3⟩ : ∃ V3, Hid (V3 = W2.alloc (.cells #[.int .i64 0, .int .i64 0] 47)) := ⟨_, rfl⟩
  have HB3 : Hid (Below wr.heap.size wr V3) := by show Below _ _ _; rw [hV3.out]; exact HB2.out.alloc HB2.out.size _
  have hzo : V3.heap[W2.heap.size]? = some (.cells #[.int .i64 0, .int .i64 0] 47 (0, 0)) := by rw [hV3.out]; exact Go.Deep.blk_alloc_new _ _
  have z0 : V3.cell? ⟨W2.heap.size, 0, none⟩ = some (.int .i64 0) := by simp [World.cell?, hzo]
  have z1 : V3.cell? ⟨W2.heap.size, 1, none⟩ = some (.int .i64 0) := by simp [World.cell?, hzo]
  have zf0 := frozen_of_block hzo 0
  have zf1 := frozen_of_block hzo 1
  have zl := lt_of_cell z0
  have HZO : Hid (_) := hzo
  dsimp only at zl
  have zbr : W2.heap.size ≠ br := by have := H.out.st.lr; have := HB2.out.size; omega
  have zbm : W2.heap.size ≠ bm := by have := H.out.st.lm; have := HB2.out.size; omega
  go_upto_region 7 with fail
  rw [<- hV3.out]
  obtain ⟨y0, y1, y2, e1, e2, e3, e4, ga, gb, fa, lm, lr, lf, l1, l2⟩ := FF.out V3 HB3.out
  clear hV3 HB1 hzo
  have hc3 := CC.out V3 HB3.out rb 2 (by omega) (by omega) (by omega)
  rw [HF3.out] at hc3
  go_upto_region 34 with (go_at_call 138; refine hc3.mono ?_; clear hc3; intro y W4 hs; have hs2 := cell_got hs HI3.out; clear hs; obtain ⟨rfl, hb⟩ := hs2; have HB4 : Hid (Below wr.heap.size wr W4) := HB3.out.trans (hb.mono HB3.out.size); have HB4' : Hid (Below V3.heap.size V3 W4) := hb; clear hb)
  replace z0 := (HB4'.out.cell (p := ⟨W2.heap.size, 0, none⟩) zl).trans z0
  replace zl := lt_of_cell z0
  dsimp only at zl
  clear y0 y1 y2 e1 e2 e3 e4 ga gb fa lm lr lf l1 l2 z1 zf0 zf1
  obtain ⟨y0, y1, y2, e1, e2, e3, e4, ga, gb, fa, lm, lr, lf, l1, l2⟩ := FF.out W4 HB4.out
  obtain ⟨e5, e6, e7, l3, _⟩ := F3.out W4 HB4.out
  go_region_held3 (fun w' => w'.cell? ⟨bm, 0, none⟩ = some (.slice (some ⟨fb, fo, none⟩) 24 M.fcap) /\ w'.cell? ⟨fb, fo + k3 * 4 + 3, none⟩ = some (.slice (some ⟨b3, o3, none⟩) 8 q3) /\ w'.cell? ⟨br, a, none⟩ = some (.int .i64 ra)) (refine ⟨?_, ?_, ?_⟩ <;> (repeat (first | (with_reducible assumption) | (with_reducible refine (drew_cell _ _).trans ?_) | (with_reducible refine (cell_off hbm3 _ _ _).trans ?_) | (with_reducible refine (cell_off hbr3 _ _ _).trans ?_) | (with_reducible refine (cell_off hfb3 _ _ _).trans ?_)))) (fail)
  obtain ⟨V5, hV5⟩ : ∃ V5, Hid (V5 = (W4.setCell ⟨b3, o3 + i3, none⟩ (.int .i64 ra)).drew) := ⟨_, rfl⟩
  rw [<- hV5.out]
  have zb3 : W2.heap.size ≠ b3 := by have := HB2.out.size; omega
  have z5 : V5.cell? ⟨W2.heap.size, 0, none⟩ = some (.int .i64 0) := by rw [hV5.out]; exact (drew_cell _ _).trans ((cell_off zb3 _ _ _).trans z0)
  have zl5 : W2.heap.size < V5.heap.size := lt_of_cell z5
  go_wp2
  have hK := H.out.store HB4.out HK3.out HA3.out HI3.out hwv.out HST.out hV5.out
  rw [hw4.out]
  refine ⟨ranF_mk ?_, ranMu_mk⟩
  exact ran_goes hK
set_option maxRecDepth 1000000 in
set_option maxHeartbeats 4000000 in
theorem ran_exit {n0 m bm br X Y : Nat} {w wr : World} {R : Rn} {k : Nat} {pc : Int} {M : Mv} {rs : List Int} (c0 c3 c5 c6 c7 c9 c31 c32 c246 c247 c248 c249 c250 c251 c252 c253 c254 c255 c256 c257 c258 c259 c260 c261 c262 u13 u14 u15 u16 u17 u18 u19 u20 u21 u22 u23 u24 u25 u26 u27 u28 u29 u30 u33 u34 u35 u36 u37 u38 u39 u40 u41 u42 u43 u44 u45 u46 u47 u48 u49 u50 u51 u52 u53 u54 u55 u56 u57 u58 u59 u60 u61 u62 u63 u64 u65 u66 u67 u68 u69 u70 u71 u72 u73 u74 u75 u76 u77 u78 u79 u80 u81 u82 u83 u84 u85 u86 u87 u88 u89 u90 u91 u92 u93 u94 u95 u96 u97 u98 u99 u100 u101 u102 u103 u104 u105 u106 u107 u108 u109 u110 u111 u112 u113 u114 u115 u116 u117 u118 u119 u120 u121 u122 u123 u124 u125 u126 u127 u128 u129 u130 u131 u132 u133 u134 u135 u136 u137 u138 u139 u140 u141 u142 u143 u144 u145 u146 u147 u148 u149 u150 u151 u152 u153 u154 u155 u156 u157 u158 u159 u160 u161 u162 u163 u164 u165 u166 u167 u168 u169 u170 u171 u172 u173 u174 u175 u176 u177 u178 u179 u180 u181 u182 u183 u184 u185 u186 u187 u188 u189 u190 u191 u192 u193 u194 u195 u196 u197 u198 u199 u200 u201 u202 u203 u204 u205 u206 u207 u208 u209 u210 u211 u212 u213 u214 u215 u216 u217 u218 u219 u220 u221 u222 u223 u224 u225 u226 u227 u228 u229 u230 u231 u232 u233 u234 u235 u236 u237 u238 u239 u240 u241 u242 u243 u244 u245 : Value) (h : RanK n0 m bm br X Y w R (k + 1) pc M rs wr) {x n : Int} {k1 k2 : Nat} (hk1 : k1 < 24) (hk2 : k2 < 24) (hf1 : frmF M.frs ((m : Int) + 1) pc 4 = (k1 : Int)) (hf2 : frmF M.frs ((m : Int) + 1) (pc + 1) 4 = (k2 : Int)) (hx : wordAt M (k1 : Int) pc = x) (hx2 : wordAt M (k2 : Int) (pc + 1) = n) (hk : x % 16 = 8) (Q0 : Exit -> Act -> World -> Prop) (hret : ∀ a' w'', RanF m bm br X Y c0 c3 c5 c6 c7 c9 c31 c32 c246 c247 c248 c249 c250 c251 c252 c253 c254 c255 c256 c257 c258 c259 c260 c261 c262 (RanOut m X Y w R) a' w'' -> Q0 .ret a' w'') :
    Code.wp Tryz.prog ranBody (Exit.then (fun a' w'' => RanF m bm br X Y c0 c3 c5 c6 c7 c9 c31 c32 c246 c247 c248 c249 c250 c251 c252 c253 c254 c255 c256 c257 c258 c259 c260 c261 c262 (RanRel n0 m bm br X Y w R) a' w'' /\ ranMu a' w'' < k + 1) Q0) ⟨#[c0, .int .i64 ((m : Int) + 1), .int .i64 pc, c3, .int .i64 ((k : Int) + 1), c5, c6, c7, .pointer (some ⟨br, 0, none⟩), c9, .pointer (some ⟨X, 0, none⟩), .pointer (some ⟨Y, 0, none⟩), .pointer (some ⟨bm, 0, none⟩), u13, u14, u15, u16, u17, u18, u19, u20, u21, u22, u23, u24, u25, u26, u27, u28, u29, u30, c31, c32, u33, u34, u35, u36, u37, u38, u39, u40, u41, u42, u43, u44, u45, u46, u47, u48, u49, u50, u51, u52, u53, u54, u55, u56, u57, u58, u59, u60, u61, u62, u63, u64, u65, u66, u67, u68, u69, u70, u71, u72, u73, u74, u75, u76, u77, u78, u79, u80, u81, u82, u83, u84, u85, u86, u87, u88, u89, u90, u91, u92, u93, u94, u95, u96, u97, u98, u99, u100, u101, u102, u103, u104, u105, u106, u107, u108, u109, u110, u111, u112, u113, u114, u115, u116, u117, u118, u119, u120, u121, u122, u123, u124, u125, u126, u127, u128, u129, u130, u131, u132, u133, u134, u135, u136, u137, u138, u139, u140, u141, u142, u143, u144, u145, u146, u147, u148, u149, u150, u151, u152, u153, u154, u155, u156, u157, u158, u159, u160, u161, u162, u163, u164, u165, u166, u167, u168, u169, u170, u171, u172, u173, u174, u175, u176, u177, u178, u179, u180, u181, u182, u183, u184, u185, u186, u187, u188, u189, u190, u191, u192, u193, u194, u195, u196, u197, u198, u199, u200, u201, u202, u203, u204, u205, u206, u207, u208, u209, u210, u211, u212, u213, u214, u215, u216, u217, u218, u219, u220, u221, u222, u223, u224, u225, u226, u227, u228, u229, u230, u231, u232, u233, u234, u235, u236, u237, u238, u239, u240, u241, u242, u243, u244, u245, c246, c247, c248, c249, c250, c251, c252, c253, c254, c255, c256, c257, c258, c259, c260, c261, c262], []⟩ wr := by
  have H : Hid (_) := h
  have HS : Hid (stepR M m pc rs xorR = doR M m pc rs x n xorR) := by
    show _ = _
    unfold stepR
    rw [if_neg (by rw [hf1, hf2]; omega), hf1, hf2, hx, hx2]
  have hG := h.ok.good
  have hpc := h.ok.pc
  have hp64 : pc < 64 := run_at (e := (m : Int) + 1) (by rw [hf1]; omega) hpc.1
  have hm4 := h.ok.m4
  have hcl := h.ok.len
  have hl := hG.s1
  have hl2 := hG.s2
  have hxb := wordAt_in hG hk1 pc
  rw [hx] at hxb
  have hnb := wordAt_in hG hk2 (pc + 1)
  rw [hx2] at hnb
  obtain ⟨ea, eb, la, lb⟩ := reg_nat hxb.1
  obtain ⟨i1, hi1⟩ : ∃ i : Nat, pc % 8 = (i : Int) := ⟨(pc % 8).toNat, by omega⟩
  obtain ⟨i2, hi2⟩ : ∃ i : Nat, (pc + 1) % 8 = (i : Int) := ⟨((pc + 1) % 8).toNat, by omega⟩
  obtain ⟨b1, o1, q1, _, _, g1⟩ := frame_word h.st.own.at_ hG hk1 pc hi1
  obtain ⟨b2, o2, q2, _, _, g2⟩ := frame_word h.st.own.at_ hG hk2 (pc + 1) hi2
  rw [hx] at g1
  rw [hx2] at g2
  obtain ⟨fb, fo, hfa, _⟩ := h.st.own.at_.frame (j := 0) (by omega)
  obtain ⟨zb, zo, hea, _⟩ := h.st.own.at_.enclave (j := m) (by omega)
  have hi18 : (i1 : Int) < 8 := by omega
  have hi28 : (i2 : Int) < 8 := by omega
  have HI1 : Hid (pc % 8 = (i1 : Int)) := hi1
  have HI2 : Hid ((pc + 1) % 8 = (i2 : Int)) := hi2
  obtain ⟨a, HA⟩ : ∃ a, Hid (regA x = a) := ⟨_, rfl⟩
  obtain ⟨b, HBb⟩ : ∃ b, Hid (regB x = b) := ⟨_, rfl⟩
  rw [HA.out] at ea la
  rw [HBb.out] at eb lb
  obtain ⟨ra, hra⟩ : ∃ ra, Hid (rs.getD a 0 = ra) := ⟨_, rfl⟩
  obtain ⟨rb, hrb⟩ : ∃ rb, Hid (rs.getD b 0 = rb) := ⟨_, rfl⟩
  have hba := h.ok.rs a
  have hbb := h.ok.rs b
  rw [hra.out] at hba
  rw [hrb.out] at hbb
  have FF : Hid (∀ V, Below wr.heap.size wr V -> V.cell? ⟨bm, 0, none⟩ = some (.slice (some ⟨fb, fo, none⟩) 24 M.fcap) /\ V.cell? ⟨bm, 1, none⟩ = some (.slice (some ⟨zb, zo, none⟩) 4 M.ecap) /\ V.cell? ⟨bm, 2, none⟩ = some (.slice M.qa M.qus.length M.qcap) /\ V.cell? ⟨fb, fo + k1 * 4 + 3, none⟩ = some (.slice (some ⟨b1, o1, none⟩) 8 q1) /\ V.cell? ⟨b1, o1 + i1, none⟩ = some (.int .i64 x) /\ V.cell? ⟨fb, fo + k2 * 4 + 3, none⟩ = some (.slice (some ⟨b2, o2, none⟩) 8 q2) /\ V.cell? ⟨b2, o2 + i2, none⟩ = some (.int .i64 n) /\ V.cell? ⟨br, a, none⟩ = some (.int .i64 ra) /\ V.cell? ⟨br, b, none⟩ = some (.int .i64 rb) /\ V.frozen? ⟨br, a, none⟩ = false /\ bm < V.heap.size /\ br < V.heap.size /\ fb < V.heap.size /\ b1 < V.heap.size /\ b2 < V.heap.size) := fun V hV => by
    have c := H.out.st.keep hV
    have ga := c.cr a la
    have gb := c.cr b lb
    rw [hra.out] at ga
    rw [hrb.out] at gb
    have c0 := c.c0
    rw [hfa, hl] at c0
    have c1 := c.c1
    rw [hea, hl2] at c1
    obtain ⟨f1, f2, f3, f4⟩ := g1 V c.own.at_ fb fo hfa
    obtain ⟨f5, f6, f7, _⟩ := g2 V c.own.at_ fb fo hfa
    exact ⟨c0, c1, c.c2, f1, f2, f5, f6, ga, gb, c.fr a, c.lm, c.lr, f4, f3, f7⟩
  have CC : Hid (∀ V, Below wr.heap.size wr V -> ∀ n' right, 0 <= n' -> n' <= 1000000 -> (right = 1 ∨ right = 2 ∨ right = 4) -> Calls Tryz.prog 138 #[.agg #[.slice (some ⟨fb, fo, none⟩) 24 M.fcap, .slice (some ⟨zb, zo, none⟩) 4 M.ecap, .slice M.qa M.qus.length M.qcap], .int .i64 ((m : Int) + 1), .int .i64 n', .int .i64 right] V (CellSaid (frmF M.frs ((m : Int) + 1) n' right) n' V)) := fun V hV n' right h0 h1 h2 => by
    have c := cellOf_run M ((m : Int) + 1) n' right V (H.out.st.keep hV).own.at_ hG h0 h1 h2
    unfold Mv.val at c
    rw [hfa, hl, hea, hl2] at c
    exact c
  have hc1 := CC.out wr (Below.refl _ _) pc 4 (by omega) (by omega) (by omega)
  rw [hf1] at hc1
  have HF2 : Hid (_) := hf2
  have t1 : Int.tdiv x 16 = x / 16 := Int.tdiv_eq_ediv_of_nonneg hxb.1
  have t2 : Int.tdiv x 256 = x / 256 := Int.tdiv_eq_ediv_of_nonneg hxb.1
  have t3 : Int.tmod x 16 = 8 := by rw [Int.tmod_eq_emod_of_nonneg hxb.1, hk]
  have t4 : IntKind.i64.wrap (x / 16) = x / 16 := by rw [IntKind.wrap_i64]; omega
  have t5 : IntKind.i64.wrap (x / 256) = x / 256 := by rw [IntKind.wrap_i64]; omega
  have t6 : Int.tmod (x / 16) 4 = (a : Int) := by rw [Int.tmod_eq_emod_of_nonneg (by omega), ea]
  have t7 : Int.tmod (x / 256) 4 = (b : Int) := by rw [Int.tmod_eq_emod_of_nonneg (by omega), eb]
  have ha4 : (a : Int) < 4 := by omega
  have hb4 : (b : Int) < 4 := by omega
  have hk1' : (k1 : Int) < 24 := by omega
  have hk2' : (k2 : Int) < 24 := by omega
  have hw1 : IntKind.i64.wrap (pc + 1) = pc + 1 := by rw [IntKind.wrap_i64]; omega
  have hw2 : IntKind.i64.wrap (pc + 2) = pc + 2 := by rw [IntKind.wrap_i64]; omega
  have hw3 : IntKind.i64.wrap ((k : Int) + 1 - 1) = (k : Int) := by rw [IntKind.wrap_i64]; have := h.lk; omega
  have hw4 : Hid (wrap64 (k : Int) = (k : Int)) := w64k (by have := h.lk; omega)
  have hkp : 0 < (k : Int) + 1 := by omega
  have HX : Hid (x % 16 = 8) := hk
  have HLA : Hid (a < 4) := la
  have HLB : Hid (b < 4) := lb
  obtain ⟨y0, y1, y2, e1, e2, e3, e4, ga, gb, fa, lm, lr, lf, l1, l2⟩ := FF.out wr (Below.refl _ _)
  have HHA : Hid (M.ea = some ⟨zb, zo, none⟩) := hea
  obtain ⟨lg, HLG⟩ : ∃ lg, Hid ((M.ens.getD m default).log = lg) := ⟨_, rfl⟩
  have FE : Hid (∀ V, Below wr.heap.size wr V -> (V.cell? ⟨bm, 0, none⟩ = some (.slice (some ⟨fb, fo, none⟩) 24 M.fcap) /\ V.cell? ⟨bm, 1, none⟩ = some (.slice (some ⟨zb, zo, none⟩) 4 M.ecap) /\ V.cell? ⟨bm, 2, none⟩ = some (.slice M.qa M.qus.length M.qcap)) /\ (V.cell? ⟨zb, zo + m * 7, none⟩ = some (.int .i64 (M.ens.getD m default).st) /\ V.cell? ⟨zb, zo + m * 7 + 1, none⟩ = some (.string lg) /\ V.cell? ⟨zb, zo + m * 7 + 2, none⟩ = some (.int .i64 (M.ens.getD m default).pc) /\ V.cell? ⟨zb, zo + m * 7 + 3, none⟩ = some (.int .i64 (M.ens.getD m default).g0) /\ V.cell? ⟨zb, zo + m * 7 + 4, none⟩ = some (.int .i64 (M.ens.getD m default).g1) /\ V.cell? ⟨zb, zo + m * 7 + 5, none⟩ = some (.int .i64 (M.ens.getD m default).g2) /\ V.cell? ⟨zb, zo + m * 7 + 6, none⟩ = some (.int .i64 (M.ens.getD m default).g3)) /\ (∀ o, V.frozen? ⟨zb, o, none⟩ = false) /\ (V.cell? ⟨X, 0, none⟩ = some (.slice none 0 0) /\ V.cell? ⟨X, 1, none⟩ = some (.slice none 0 0) /\ V.cell? ⟨X, 2, none⟩ = some (.slice none 0 0) /\ V.cell? ⟨Y, 0, none⟩ = some (.int .i64 0) /\ V.cell? ⟨Y, 1, none⟩ = some (.int .i64 0)) /\ (∀ o, V.frozen? ⟨X, o, none⟩ = false) /\ (∀ o, V.frozen? ⟨Y, o, none⟩ = false) /\ bm < V.heap.size /\ zb < V.heap.size /\ X < V.heap.size /\ Y < V.heap.size) := fun V hV => by
    have c := H.out.st.keep hV
    have k0 := c.c0
    rw [hfa, hl] at k0
    have k1 := c.c1
    rw [hea, hl2] at k1
    obtain ⟨zb', zo', hz', m0, m1, m2, m3, m4, m5, m6⟩ := c.own.at_.enclave (j := m) (by omega)
    rw [hea] at hz'
    simp only [Option.some.injEq, Addr.mk.injEq, and_true] at hz'
    obtain ⟨rfl, rfl⟩ := hz'
    rw [HLG.out] at m1
    obtain ⟨_, b2, b3⟩ := H.out.quiet hV
    have hx := b2.trans H.out.zx
    have hy := b3.trans H.out.zy
    exact ⟨⟨k0, k1, c.c2⟩, ⟨m0, m1, m2, m3, m4, m5, m6⟩, (c.own.ne _ _ _ hea).2.2, ⟨by simp [World.cell?, hx], by simp [World.cell?, hx], by simp [World.cell?, hx], by simp [World.cell?, hy], by simp [World.cell?, hy]⟩, frozen_of_block hx, frozen_of_block hy, c.lm, lt_of_cell m0, (Array.getElem?_eq_some_iff.1 hx).1, (Array.getElem?_eq_some_iff.1 hy).1⟩
  have HE0 : Hid ((.slice (some ⟨fb, fo, none⟩) 24 M.fcap : Value) = .slice M.fa M.frs.length M.fcap) := by show _ = _; rw [hfa, hl]
  have HE1 : Hid ((.slice (some ⟨zb, zo, none⟩) 4 M.ecap : Value) = .slice M.ea M.ens.length M.ecap) := by show _ = _; rw [hea, hl2]
  have HOKE : Hid (lg.size <= maxLen) := by have := (H.out.st.own.at_.enok m (by omega)).len; rw [HLG.out] at this; exact this
  have hwm : IntKind.i64.wrap ((m : Int) + 1 - 1) = (m : Int) := by rw [IntKind.wrap_i64]; omega
  have hwm2 : IntKind.i64.wrap (m : Int) = (m : Int) := by rw [IntKind.wrap_i64]; omega
  have hmm : (m : Int) < 4 := by omega
  have HST : Hid (stepR M m pc rs xorR = ⟨M, pc + 2, rs, 1, ra⟩) := by
    show _ = _
    refine HS.out.trans ?_
    unfold doR
    rw [show kindR x = 8 from HX.out, HA.out, HBb.out, hra.out, hrb.out]
    simp
  clear h hG hf1 hf2 hx hx2 hk ea eb g1 g2 hfa hl hl2 hi1 hi2 la lb hea hk1 hk2
  conv => arg 2; whnf
  go_upto_region 5 with (go_at_call 138; refine hc1.mono ?_; clear hc1; intro y W1 hs; have hs2 := cell_got hs HI1.out; clear hs; obtain ⟨rfl, hb⟩ := hs2; have HB1 : Hid (_) := hb; clear hb)
  have hc2 := CC.out W1 HB1.out (pc + 1) 4 (by omega) (by omega) (by omega)
  rw [HF2.out] at hc2
  clear y0 y1 y2 e1 e2 e3 e4 ga gb fa lm lr lf l1 l2
  obtain ⟨y0, y1, y2, e1, e2, e3, e4, ga, gb, fa, lm, lr, lf, l1, l2⟩ := FF.out W1 HB1.out
  go_upto_region 6 with (go_at_call 138; refine hc2.mono ?_; clear hc2; intro y W2 hs; have hs2 := cell_got hs HI2.out; clear hs; obtain ⟨rfl, hb⟩ := hs2; have HB2 : Hid (Below wr.heap.size wr W2) := HB1.out.trans (hb.mono HB1.out.size); clear hb)
  clear y0 y1 y2 e1 e2 e3 e4 ga gb fa lm lr lf l1 l2 HF2 HI1 HI2
  obtain ⟨V3, hV3⟩ : ∃ V3, Hid (V3 = W2.alloc (.cells #[.int .i64 0, .int .i64 0] 47)) := ⟨_, rfl⟩
  have HB3 : Hid (Below wr.heap.size wr V3) := by show Below _ _ _; rw [hV3.out]; exact HB2.out.alloc HB2.out.size _
  have hzo : V3.heap[W2.heap.size]? = some (.cells #[.int .i64 0, .int .i64 0] 47 (0, 0)) := by rw [hV3.out]; exact Go.Deep.blk_alloc_new _ _
  have z0 : V3.cell? ⟨W2.heap.size, 0, none⟩ = some (.int .i64 0) := by simp [World.cell?, hzo]
  have z1 : V3.cell? ⟨W2.heap.size, 1, none⟩ = some (.int .i64 0) := by simp [World.cell?, hzo]
  have zf0 := frozen_of_block hzo 0
  have zf1 := frozen_of_block hzo 1
  have zl := lt_of_cell z0
  have HZO : Hid (_) := hzo
  dsimp only at zl
  have zbr : W2.heap.size ≠ br := by have := H.out.st.lr; have := HB2.out.size; omega
  have zbm : W2.heap.size ≠ bm := by have := H.out.st.lm; have := HB2.out.size; omega
  go_upto_region 7 with fail
  rw [<- hV3.out]
  obtain ⟨y0, y1, y2, e1, e2, e3, e4, ga, gb, fa, lm, lr, lf, l1, l2⟩ := FF.out V3 HB3.out
  clear hV3 HB1 hzo
  go_upto_region 45 with fail
  obtain ⟨V5, hV5⟩ : ∃ V5, Hid (V5 = (V3.setCell ⟨W2.heap.size, 0, none⟩ (.int .i64 1)).setCell ⟨W2.heap.size, 1, none⟩ (.int .i64 ra)) := ⟨_, rfl⟩
  rw [<- hV5.out]
  obtain ⟨j0, j1⟩ := blk2R (v0 := .int .i64 1) (v1 := .int .i64 ra) z0 z1
  rw [<- hV5.out] at j0 j1
  have HB5 : Hid (Below wr.heap.size wr V5) := by show Below _ _ _; rw [hV5.out]; exact (HB3.out.setCell HB2.out.size _).setCell HB2.out.size _
  have jl : W2.heap.size < V5.heap.size := lt_of_cell j0
  have zzb : W2.heap.size ≠ zb := by have := (Mine.fresh H.out.st.own (.inr (.inl ⟨zo, none, HHA.out⟩))).2; have := HB2.out.size; omega
  have zX : W2.heap.size ≠ X := by have := H.out.st.ge; have := H.out.lx; have := HB2.out.size; omega
  have zY : W2.heap.size ≠ Y := by have := H.out.st.ge; have := H.out.ly; have := HB2.out.size; omega
  clear hV5 z0 z1 zf0 zf1 zl HZO y0 y1 y2 lm e1 e2 e3 e4 ga gb fa lr lf l1 l2
  have xzb : X ≠ zb := by have := (Mine.fresh H.out.st.own (.inr (.inl ⟨zo, none, HHA.out⟩))).1; have := H.out.lx; omega
  have yzb : Y ≠ zb := by have := (Mine.fresh H.out.st.own (.inr (.inl ⟨zo, none, HHA.out⟩))).1; have := H.out.ly; omega
  have hxy : X ≠ Y := H.out.ne
  have hbmX : bm ≠ X := by have := H.out.gm; have := H.out.lx; omega
  have hbmY : bm ≠ Y := by have := H.out.gm; have := H.out.ly; omega
  have hbmz : bm ≠ zb := fun q => H.out.st.offm (q ▸ .inr (.inl ⟨zo, none, HHA.out⟩))
  obtain ⟨⟨y0, y1, y2⟩, ⟨n0_, n1_, n2_, n3_, n4_, n5_, n6_⟩, nf, ⟨x0, x1, x2, v0, v1⟩, xf, yf, lm, lz, lX, lY⟩ := FE.out V5 HB5.out
  have nf0 := nf (zo + m * 7)
  have nf1 := nf (zo + m * 7 + 1)
  have nf2 := nf (zo + m * 7 + 2)
  have nf3 := nf (zo + m * 7 + 3)
  have nf4 := nf (zo + m * 7 + 4)
  have nf5 := nf (zo + m * 7 + 5)
  have nf6 := nf (zo + m * 7 + 6)
  have xf0 := xf 0
  have xf1 := xf 1
  have xf2 := xf 2
  have yf0 := yf 0
  have yf1 := yf 1
  clear nf xf yf
  go_upto_region 49 with fail
  go_region_held3 (fun w' => w'.cell? ⟨bm, 1, none⟩ = some (.slice (some ⟨zb, zo, none⟩) 4 M.ecap) /\ w'.cell? ⟨zb, zo + m * 7 + 1, none⟩ = some (.string lg)) (first | (with_reducible exact seven_both hbmz y1 n1_) | go_keep) (fail)
  obtain ⟨V8, hV8⟩ : ∃ V8, Hid (V8 = (((((((V5.setCell ⟨zb, zo + m * 7, none⟩ (.int .i64 2)).setCell ⟨zb, zo + m * 7 + 1, none⟩ (.string lg)).setCell ⟨zb, zo + m * 7 + 2, none⟩ (.int .i64 0)).setCell ⟨zb, zo + m * 7 + 3, none⟩ (.int .i64 0)).setCell ⟨zb, zo + m * 7 + 4, none⟩ (.int .i64 0)).setCell ⟨zb, zo + m * 7 + 5, none⟩ (.int .i64 0)).setCell ⟨zb, zo + m * 7 + 6, none⟩ (.int .i64 0)).drew) := ⟨_, rfl⟩
  rw [<- hV8.out]
  have K8 : Hid (∀ c, c ≠ zb -> V8.heap[c]? = V5.heap[c]?) := fun c hc => after7 hV8.out c hc
  have kb := K8.out bm hbmz
  have kx := K8.out X xzb
  have ky := K8.out Y yzb
  replace y0 := (World.cell?_of_block kb).trans y0
  replace y1 := (World.cell?_of_block kb).trans y1
  replace y2 := (World.cell?_of_block kb).trans y2
  replace x0 := (World.cell?_of_block kx).trans x0
  replace x1 := (World.cell?_of_block kx).trans x1
  replace x2 := (World.cell?_of_block kx).trans x2
  replace v0 := (World.cell?_of_block ky).trans v0
  replace v1 := (World.cell?_of_block ky).trans v1
  replace xf0 := (World.frozen?_of_block kx).trans xf0
  replace xf1 := (World.frozen?_of_block kx).trans xf1
  replace xf2 := (World.frozen?_of_block kx).trans xf2
  replace yf0 := (World.frozen?_of_block ky).trans yf0
  replace yf1 := (World.frozen?_of_block ky).trans yf1
  have lb8 : bm < V8.heap.size := lt_of_cell y0
  have lx8 : X < V8.heap.size := lt_of_cell x0
  have ly8 : Y < V8.heap.size := lt_of_cell v0
  clear kb kx ky K8 n0_ n1_ n2_ n3_ n4_ n5_ n6_ nf0 nf1 nf2 nf3 nf4 nf5 nf6 lm lz lX lY
  replace j0 := (World.cell?_of_block (after7 hV8.out W2.heap.size zzb)).trans j0
  replace j1 := (World.cell?_of_block (after7 hV8.out W2.heap.size zzb)).trans j1
  have jl8 : W2.heap.size < V8.heap.size := lt_of_cell j0
  go_upto_region 50 with fail
  go_big_region
  go_wp2
  exact ranF_mk (RanOut.drew (ran_last H.out HB5.out (H.out.stop HST.out (by simp)) rfl HHA.out (E' := ⟨2, lg, 0, 0, 0, 0, 0⟩) (left_exit HLG.out) (en_ok (by decide) HOKE.out) rfl rfl HE0.out HE1.out rfl hV8.out rfl _ _))
end Go.Proofs.YtdngbojbpmdegaaGreatDoor

namespace Go.Proofs.YtdngbojbpmdegaaGreatDoor
open Go.RowKit
set_option linter.unusedVariables false
set_option maxRecDepth 1000000 in
set_option maxHeartbeats 40000000 in
theorem ran_say {n0 m bm br X Y : Nat} {w wr : World} {R : Rn} {k : Nat} {pc : Int} {M : Mv} {rs : List Int} (c0 c3 c5 c6 c7 c9 c31 c32 c246 c247 c248 c249 c250 c251 c252 c253 c254 c255 c256 c257 c258 c259 c260 c261 c262 u13 u14 u15 u16 u17 u18 u19 u20 u21 u22 u23 u24 u25 u26 u27 u28 u29 u30 u33 u34 u35 u36 u37 u38 u39 u40 u41 u42 u43 u44 u45 u46 u47 u48 u49 u50 u51 u52 u53 u54 u55 u56 u57 u58 u59 u60 u61 u62 u63 u64 u65 u66 u67 u68 u69 u70 u71 u72 u73 u74 u75 u76 u77 u78 u79 u80 u81 u82 u83 u84 u85 u86 u87 u88 u89 u90 u91 u92 u93 u94 u95 u96 u97 u98 u99 u100 u101 u102 u103 u104 u105 u106 u107 u108 u109 u110 u111 u112 u113 u114 u115 u116 u117 u118 u119 u120 u121 u122 u123 u124 u125 u126 u127 u128 u129 u130 u131 u132 u133 u134 u135 u136 u137 u138 u139 u140 u141 u142 u143 u144 u145 u146 u147 u148 u149 u150 u151 u152 u153 u154 u155 u156 u157 u158 u159 u160 u161 u162 u163 u164 u165 u166 u167 u168 u169 u170 u171 u172 u173 u174 u175 u176 u177 u178 u179 u180 u181 u182 u183 u184 u185 u186 u187 u188 u189 u190 u191 u192 u193 u194 u195 u196 u197 u198 u199 u200 u201 u202 u203 u204 u205 u206 u207 u208 u209 u210 u211 u212 u213 u214 u215 u216 u217 u218 u219 u220 u221 u222 u223 u224 u225 u226 u227 u228 u229 u230 u231 u232 u233 u234 u235 u236 u237 u238 u239 u240 u241 u242 u243 u244 u245 : Value) (h : RanK n0 m bm br X Y w R (k + 1) pc M rs wr) {x n : Int} {k1 k2 : Nat} (hk1 : k1 < 24) (hk2 : k2 < 24) (hf1 : frmF M.frs ((m : Int) + 1) pc 4 = (k1 : Int)) (hf2 : frmF M.frs ((m : Int) + 1) (pc + 1) 4 = (k2 : Int)) (hx : wordAt M (k1 : Int) pc = x) (hx2 : wordAt M (k2 : Int) (pc + 1) = n) (hk : x % 16 = 9) (hq : M.qus.length < 40) (Q0 : Exit -> Act -> World -> Prop) (hret : ∀ a' w'', RanF m bm br X Y c0 c3 c5 c6 c7 c9 c31 c32 c246 c247 c248 c249 c250 c251 c252 c253 c254 c255 c256 c257 c258 c259 c260 c261 c262 (RanOut m X Y w R) a' w'' -> Q0 .ret a' w'') :
    Code.wp Tryz.prog ranBody (Exit.then (fun a' w'' => RanF m bm br X Y c0 c3 c5 c6 c7 c9 c31 c32 c246 c247 c248 c249 c250 c251 c252 c253 c254 c255 c256 c257 c258 c259 c260 c261 c262 (RanRel n0 m bm br X Y w R) a' w'' /\ ranMu a' w'' < k + 1) Q0) ⟨#[c0, .int .i64 ((m : Int) + 1), .int .i64 pc, c3, .int .i64 ((k : Int) + 1), c5, c6, c7, .pointer (some ⟨br, 0, none⟩), c9, .pointer (some ⟨X, 0, none⟩), .pointer (some ⟨Y, 0, none⟩), .pointer (some ⟨bm, 0, none⟩), u13, u14, u15, u16, u17, u18, u19, u20, u21, u22, u23, u24, u25, u26, u27, u28, u29, u30, c31, c32, u33, u34, u35, u36, u37, u38, u39, u40, u41, u42, u43, u44, u45, u46, u47, u48, u49, u50, u51, u52, u53, u54, u55, u56, u57, u58, u59, u60, u61, u62, u63, u64, u65, u66, u67, u68, u69, u70, u71, u72, u73, u74, u75, u76, u77, u78, u79, u80, u81, u82, u83, u84, u85, u86, u87, u88, u89, u90, u91, u92, u93, u94, u95, u96, u97, u98, u99, u100, u101, u102, u103, u104, u105, u106, u107, u108, u109, u110, u111, u112, u113, u114, u115, u116, u117, u118, u119, u120, u121, u122, u123, u124, u125, u126, u127, u128, u129, u130, u131, u132, u133, u134, u135, u136, u137, u138, u139, u140, u141, u142, u143, u144, u145, u146, u147, u148, u149, u150, u151, u152, u153, u154, u155, u156, u157, u158, u159, u160, u161, u162, u163, u164, u165, u166, u167, u168, u169, u170, u171, u172, u173, u174, u175, u176, u177, u178, u179, u180, u181, u182, u183, u184, u185, u186, u187, u188, u189, u190, u191, u192, u193, u194, u195, u196, u197, u198, u199, u200, u201, u202, u203, u204, u205, u206, u207, u208, u209, u210, u211, u212, u213, u214, u215, u216, u217, u218, u219, u220, u221, u222, u223, u224, u225, u226, u227, u228, u229, u230, u231, u232, u233, u234, u235, u236, u237, u238, u239, u240, u241, u242, u243, u244, u245, c246, c247, c248, c249, c250, c251, c252, c253, c254, c255, c256, c257, c258, c259, c260, c261, c262], []⟩ wr := by
  have H : Hid (_) := h
  have HS : Hid (stepR M m pc rs xorR = doR M m pc rs x n xorR) := by
    show _ = _
    unfold stepR
    rw [if_neg (by rw [hf1, hf2]; omega), hf1, hf2, hx, hx2]
  have hG := h.ok.good
  have hpc := h.ok.pc
  have hp64 : pc < 64 := run_at (e := (m : Int) + 1) (by rw [hf1]; omega) hpc.1
  have hm4 := h.ok.m4
  have hcl := h.ok.len
  have hl := hG.s1
  have hl2 := hG.s2
  have hxb := wordAt_in hG hk1 pc
  rw [hx] at hxb
  have hnb := wordAt_in hG hk2 (pc + 1)
  rw [hx2] at hnb
  obtain ⟨ea, eb, la, lb⟩ := reg_nat hxb.1
  obtain ⟨i1, hi1⟩ : ∃ i : Nat, pc % 8 = (i : Int) := ⟨(pc % 8).toNat, by omega⟩
  obtain ⟨i2, hi2⟩ : ∃ i : Nat, (pc + 1) % 8 = (i : Int) := ⟨((pc + 1) % 8).toNat, by omega⟩
  obtain ⟨b1, o1, q1, _, _, g1⟩ := frame_word h.st.own.at_ hG hk1 pc hi1
  obtain ⟨b2, o2, q2, _, _, g2⟩ := frame_word h.st.own.at_ hG hk2 (pc + 1) hi2
  rw [hx] at g1
  rw [hx2] at g2
  obtain ⟨fb, fo, hfa, _⟩ := h.st.own.at_.frame (j := 0) (by omega)
  obtain ⟨zb, zo, hea, _⟩ := h.st.own.at_.enclave (j := m) (by omega)
  have hi18 : (i1 : Int) < 8 := by omega
  have hi28 : (i2 : Int) < 8 := by omega
  have HI1 : Hid (pc % 8 = (i1 : Int)) := hi1
  have HI2 : Hid ((pc + 1) % 8 = (i2 : Int)) := hi2
  obtain ⟨a, HA⟩ : ∃ a, Hid (regA x = a) := ⟨_, rfl⟩
  obtain ⟨b, HBb⟩ : ∃ b, Hid (regB x = b) := ⟨_, rfl⟩
  rw [HA.out] at ea la
  rw [HBb.out] at eb lb
  obtain ⟨ra, hra⟩ : ∃ ra, Hid (rs.getD a 0 = ra) := ⟨_, rfl⟩
  obtain ⟨rb, hrb⟩ : ∃ rb, Hid (rs.getD b 0 = rb) := ⟨_, rfl⟩
  have hba := h.ok.rs a
  have hbb := h.ok.rs b
  rw [hra.out] at hba
  rw [hrb.out] at hbb
  have FF : Hid (∀ V, Below wr.heap.size wr V -> V.cell? ⟨bm, 0, none⟩ = some (.slice (some ⟨fb, fo, none⟩) 24 M.fcap) /\ V.cell? ⟨bm, 1, none⟩ = some (.slice (some ⟨zb, zo, none⟩) 4 M.ecap) /\ V.cell? ⟨bm, 2, none⟩ = some (.slice M.qa M.qus.length M.qcap) /\ V.cell? ⟨fb, fo + k1 * 4 + 3, none⟩ = some (.slice (some ⟨b1, o1, none⟩) 8 q1) /\ V.cell? ⟨b1, o1 + i1, none⟩ = some (.int .i64 x) /\ V.cell? ⟨fb, fo + k2 * 4 + 3, none⟩ = some (.slice (some ⟨b2, o2, none⟩) 8 q2) /\ V.cell? ⟨b2, o2 + i2, none⟩ = some (.int .i64 n) /\ V.cell? ⟨br, a, none⟩ = some (.int .i64 ra) /\ V.cell? ⟨br, b, none⟩ = some (.int .i64 rb) /\ V.frozen? ⟨br, a, none⟩ = false /\ bm < V.heap.size /\ br < V.heap.size /\ fb < V.heap.size /\ b1 < V.heap.size /\ b2 < V.heap.size) := fun V hV => by
    have c := H.out.st.keep hV
    have ga := c.cr a la
    have gb := c.cr b lb
    rw [hra.out] at ga
    rw [hrb.out] at gb
    have c0 := c.c0
    rw [hfa, hl] at c0
    have c1 := c.c1
    rw [hea, hl2] at c1
    obtain ⟨f1, f2, f3, f4⟩ := g1 V c.own.at_ fb fo hfa
    obtain ⟨f5, f6, f7, _⟩ := g2 V c.own.at_ fb fo hfa
    exact ⟨c0, c1, c.c2, f1, f2, f5, f6, ga, gb, c.fr a, c.lm, c.lr, f4, f3, f7⟩
  have CC : Hid (∀ V, Below wr.heap.size wr V -> ∀ n' right, 0 <= n' -> n' <= 1000000 -> (right = 1 ∨ right = 2 ∨ right = 4) -> Calls Tryz.prog 138 #[.agg #[.slice (some ⟨fb, fo, none⟩) 24 M.fcap, .slice (some ⟨zb, zo, none⟩) 4 M.ecap, .slice M.qa M.qus.length M.qcap], .int .i64 ((m : Int) + 1), .int .i64 n', .int .i64 right] V (CellSaid (frmF M.frs ((m : Int) + 1) n' right) n' V)) := fun V hV n' right h0 h1 h2 => by
    have c := cellOf_run M ((m : Int) + 1) n' right V (H.out.st.keep hV).own.at_ hG h0 h1 h2
    unfold Mv.val at c
    rw [hfa, hl, hea, hl2] at c
    exact c
  have hc1 := CC.out wr (Below.refl _ _) pc 4 (by omega) (by omega) (by omega)
  rw [hf1] at hc1
  have HF2 : Hid (_) := hf2
  have t1 : Int.tdiv x 16 = x / 16 := Int.tdiv_eq_ediv_of_nonneg hxb.1
  have t2 : Int.tdiv x 256 = x / 256 := Int.tdiv_eq_ediv_of_nonneg hxb.1
  have t3 : Int.tmod x 16 = 9 := by rw [Int.tmod_eq_emod_of_nonneg hxb.1, hk]
  have t4 : IntKind.i64.wrap (x / 16) = x / 16 := by rw [IntKind.wrap_i64]; omega
  have t5 : IntKind.i64.wrap (x / 256) = x / 256 := by rw [IntKind.wrap_i64]; omega
  have t6 : Int.tmod (x / 16) 4 = (a : Int) := by rw [Int.tmod_eq_emod_of_nonneg (by omega), ea]
  have t7 : Int.tmod (x / 256) 4 = (b : Int) := by rw [Int.tmod_eq_emod_of_nonneg (by omega), eb]
  have ha4 : (a : Int) < 4 := by omega
  have hb4 : (b : Int) < 4 := by omega
  have hk1' : (k1 : Int) < 24 := by omega
  have hk2' : (k2 : Int) < 24 := by omega
  have hw1 : IntKind.i64.wrap (pc + 1) = pc + 1 := by rw [IntKind.wrap_i64]; omega
  have hw2 : IntKind.i64.wrap (pc + 2) = pc + 2 := by rw [IntKind.wrap_i64]; omega
  have hw3 : IntKind.i64.wrap ((k : Int) + 1 - 1) = (k : Int) := by rw [IntKind.wrap_i64]; have := h.lk; omega
  have hw4 : Hid (wrap64 (k : Int) = (k : Int)) := w64k (by have := h.lk; omega)
  have hkp : 0 < (k : Int) + 1 := by omega
  have HX : Hid (x % 16 = 9) := hk
  have HLA : Hid (a < 4) := la
  have HLB : Hid (b < 4) := lb
  obtain ⟨y0, y1, y2, e1, e2, e3, e4, ga, gb, fa, lm, lr, lf, l1, l2⟩ := FF.out wr (Below.refl _ _)
  have HHA : Hid (M.ea = some ⟨zb, zo, none⟩) := hea
  obtain ⟨lg, HLG⟩ : ∃ lg, Hid ((M.ens.getD m default).log = lg) := ⟨_, rfl⟩
  have FE : Hid (∀ V, Below wr.heap.size wr V -> (V.cell? ⟨bm, 0, none⟩ = some (.slice (some ⟨fb, fo, none⟩) 24 M.fcap) /\ V.cell? ⟨bm, 1, none⟩ = some (.slice (some ⟨zb, zo, none⟩) 4 M.ecap) /\ V.cell? ⟨bm, 2, none⟩ = some (.slice M.qa M.qus.length M.qcap)) /\ (V.cell? ⟨zb, zo + m * 7, none⟩ = some (.int .i64 (M.ens.getD m default).st) /\ V.cell? ⟨zb, zo + m * 7 + 1, none⟩ = some (.string lg) /\ V.cell? ⟨zb, zo + m * 7 + 2, none⟩ = some (.int .i64 (M.ens.getD m default).pc) /\ V.cell? ⟨zb, zo + m * 7 + 3, none⟩ = some (.int .i64 (M.ens.getD m default).g0) /\ V.cell? ⟨zb, zo + m * 7 + 4, none⟩ = some (.int .i64 (M.ens.getD m default).g1) /\ V.cell? ⟨zb, zo + m * 7 + 5, none⟩ = some (.int .i64 (M.ens.getD m default).g2) /\ V.cell? ⟨zb, zo + m * 7 + 6, none⟩ = some (.int .i64 (M.ens.getD m default).g3)) /\ (∀ o, V.frozen? ⟨zb, o, none⟩ = false) /\ (V.cell? ⟨X, 0, none⟩ = some (.slice none 0 0) /\ V.cell? ⟨X, 1, none⟩ = some (.slice none 0 0) /\ V.cell? ⟨X, 2, none⟩ = some (.slice none 0 0) /\ V.cell? ⟨Y, 0, none⟩ = some (.int .i64 0) /\ V.cell? ⟨Y, 1, none⟩ = some (.int .i64 0)) /\ (∀ o, V.frozen? ⟨X, o, none⟩ = false) /\ (∀ o, V.frozen? ⟨Y, o, none⟩ = false) /\ bm < V.heap.size /\ zb < V.heap.size /\ X < V.heap.size /\ Y < V.heap.size) := fun V hV => by
    have c := H.out.st.keep hV
    have k0 := c.c0
    rw [hfa, hl] at k0
    have k1 := c.c1
    rw [hea, hl2] at k1
    obtain ⟨zb', zo', hz', m0, m1, m2, m3, m4, m5, m6⟩ := c.own.at_.enclave (j := m) (by omega)
    rw [hea] at hz'
    simp only [Option.some.injEq, Addr.mk.injEq, and_true] at hz'
    obtain ⟨rfl, rfl⟩ := hz'
    rw [HLG.out] at m1
    obtain ⟨_, b2, b3⟩ := H.out.quiet hV
    have hx := b2.trans H.out.zx
    have hy := b3.trans H.out.zy
    exact ⟨⟨k0, k1, c.c2⟩, ⟨m0, m1, m2, m3, m4, m5, m6⟩, (c.own.ne _ _ _ hea).2.2, ⟨by simp [World.cell?, hx], by simp [World.cell?, hx], by simp [World.cell?, hx], by simp [World.cell?, hy], by simp [World.cell?, hy]⟩, frozen_of_block hx, frozen_of_block hy, c.lm, lt_of_cell m0, (Array.getElem?_eq_some_iff.1 hx).1, (Array.getElem?_eq_some_iff.1 hy).1⟩
  have HE0 : Hid ((.slice (some ⟨fb, fo, none⟩) 24 M.fcap : Value) = .slice M.fa M.frs.length M.fcap) := by show _ = _; rw [hfa, hl]
  have HE1 : Hid ((.slice (some ⟨zb, zo, none⟩) 4 M.ecap : Value) = .slice M.ea M.ens.length M.ecap) := by show _ = _; rw [hea, hl2]
  have HOKE : Hid (lg.size <= maxLen) := by have := (H.out.st.own.at_.enok m (by omega)).len; rw [HLG.out] at this; exact this
  have hwm : IntKind.i64.wrap ((m : Int) + 1 - 1) = (m : Int) := by rw [IntKind.wrap_i64]; omega
  have hwm2 : IntKind.i64.wrap (m : Int) = (m : Int) := by rw [IntKind.wrap_i64]; omega
  have hmm : (m : Int) < 4 := by omega
  have HST : Hid (stepR M m pc rs xorR = ⟨sayM M m ra, pc + 2, rs, 0, 0⟩) := by
    show _ = _
    refine HS.out.trans ?_
    unfold doR
    rw [show kindR x = 9 from HX.out, HA.out, HBb.out, hra.out, hrb.out]
    simp; omega
  have hq' : (M.qus.length : Int) < 40 := by omega
  have HQ4 : Hid (M.qus.length < 40) := hq
  have hq3 : M.qus.length <= 9223372036854775807 := by have := H.out.st.own.at_.qul; unfold maxLen at this; omega
  have hwv : Hid ((Lit.int .i64 ra).wf = true) := WalkArith.wf_i64 (by omega)
  clear h hG hf1 hf2 hx hx2 hk ea eb g1 g2 hfa hl hl2 hi1 hi2 la lb hea hk1 hk2
  conv => arg 2; whnf
  go_upto_region 5 with (go_at_call 138; refine hc1.mono ?_; clear hc1; intro y W1 hs; have hs2 := cell_got hs HI1.out; clear hs; obtain ⟨rfl, hb⟩ := hs2; have HB1 : Hid (_) := hb; clear hb)
  have hc2 := CC.out W1 HB1.out (pc + 1) 4 (by omega) (by omega) (by omega)
  rw [HF2.out] at hc2
  clear y0 y1 y2 e1 e2 e3 e4 ga gb fa lm lr lf l1 l2
  obtain ⟨y0, y1, y2, e1, e2, e3, e4, ga, gb, fa, lm, lr, lf, l1, l2⟩ := FF.out W1 HB1.out
  go_upto_region 6 with (go_at_call 138; refine hc2.mono ?_; clear hc2; intro y W2 hs; have hs2 := cell_got hs HI2.out; clear hs; obtain ⟨rfl, hb⟩ := hs2; have HB2 : Hid (Below wr.heap.size wr W2) := HB1.out.trans (hb.mono HB1.out.size); clear hb)
  clear y0 y1 y2 e1 e2 e3 e4 ga gb fa lm lr lf l1 l2 HF2 HI1 HI2
  obtain ⟨V3, hV3⟩ : ∃ V3, Hid (V3 = W2.alloc (.cells #[.int .i64 0, .int .i64 0] 47)) := ⟨_, rfl⟩
  have HB3 : Hid (Below wr.heap.size wr V3) := by show Below _ _ _; rw [hV3.out]; exact HB2.out.alloc HB2.out.size _
  have hzo : V3.heap[W2.heap.size]? = some (.cells #[.int .i64 0, .int .i64 0] 47 (0, 0)) := by rw [hV3.out]; exact Go.Deep.blk_alloc_new _ _
  have z0 : V3.cell? ⟨W2.heap.size, 0, none⟩ = some (.int .i64 0) := by simp [World.cell?, hzo]
  have z1 : V3.cell? ⟨W2.heap.size, 1, none⟩ = some (.int .i64 0) := by simp [World.cell?, hzo]
  have zf0 := frozen_of_block hzo 0
  have zf1 := frozen_of_block hzo 1
  have zl := lt_of_cell z0
  have HZO : Hid (_) := hzo
  dsimp only at zl
  have zbr : W2.heap.size ≠ br := by have := H.out.st.lr; have := HB2.out.size; omega
  have zbm : W2.heap.size ≠ bm := by have := H.out.st.lm; have := HB2.out.size; omega
  go_upto_region 7 with fail
  rw [<- hV3.out]
  obtain ⟨y0, y1, y2, e1, e2, e3, e4, ga, gb, fa, lm, lr, lf, l1, l2⟩ := FF.out V3 HB3.out
  clear hV3 HB1 hzo
  obtain ⟨_, ⟨_, n1_, _, _, _, _, _⟩, nf, _, _, _, _, lz, _⟩ := FE.out V3 HB3.out
  have hbmz : bm ≠ zb := fun q => H.out.st.offm (q ▸ .inr (.inl ⟨zo, none, HHA.out⟩))
  have mf : V3.frozen? ⟨bm, 2, none⟩ = false := (H.out.st.keep HB3.out).fm 2
  clear nf
  have HOW : Hid (Owned n0 V3.drew M /\ QRow n0 V3.drew M /\ n0 <= V3.drew.heap.size) := ⟨((H.out.st.keep HB3.out).keep (Below.refl _ _).drew).own, ((H.out.st.keep HB3.out).keep (Below.refl _ _).drew).q, ((H.out.st.keep HB3.out).keep (Below.refl _ _).drew).ge⟩
  have HQO : Hid ((⟨lg, ra⟩ : Qu).Ok) := ⟨HOKE.out, hwv.out⟩
  have HG : Hid (∀ g cap w8, SaySaid n0 V3.drew M ⟨lg, ra⟩ g cap w8 -> w8.cell? ⟨bm, 2, none⟩ = some (.slice M.qa M.qus.length M.qcap) /\ w8.frozen? ⟨bm, 2, none⟩ = false /\ bm < w8.heap.size) := fun g cap w8 hs => by
    have st := (H.out.st.keep HB3.out).keep (Below.refl _ _).drew
    have kb := hs.kp bm st.lm st.offm
    exact ⟨(World.cell?_of_block kb).trans st.c2, (World.frozen?_of_block kb).trans (st.fm 2), Nat.lt_of_lt_of_le st.lm hs.sz⟩
  have HZ8 : Hid (∀ g cap w8, SaySaid n0 V3.drew M ⟨lg, ra⟩ g cap w8 -> (w8.setCell ⟨bm, 2, none⟩ (.slice (some ⟨g, 0, none⟩) (M.qus.length + 1) cap)).cell? ⟨W2.heap.size, 0, none⟩ = some (.int .i64 0)) := fun g cap w8 hs => by
    have hm : ¬ Mine M W2.heap.size := fun q => by have := (Mine.fresh H.out.st.own q).2; have := HB2.out.size; omega
    exact (cell_off zbm 2 0 _).trans ((World.cell?_of_block (hs.kp W2.heap.size zl hm)).trans z0)
  go_upto_region 44 with fail
  refine wp_region_noPanic ?_
  go_region_law ((refine stepq_say (W := V3.drew) HOW.out.1 HOW.out.2.1 HOW.out.2.2 HQ4.out ⟨lg, ra⟩ HQO.out (by rfl) (.tmp 192) (.tmp 204) (by rfl) (by rfl) (by rfl) (by rfl) (by rfl) ?_; intro g cap w8 hs; have HSS : Hid (_) := hs; clear hs; obtain ⟨g2, gf, gl⟩ := HG.out g cap w8 HSS.out))
  all_goals
    obtain ⟨V9, hV9⟩ : ∃ V9, Hid (V9 = w8.setCell ⟨bm, 2, none⟩ (.slice (some ⟨g, 0, none⟩) (M.qus.length + 1) cap)) := ⟨_, rfl⟩
    rw [<- hV9.out]
    have z9 : V9.cell? ⟨W2.heap.size, 0, none⟩ = some (.int .i64 0) := by rw [hV9.out]; exact HZ8.out g cap w8 HSS.out
    have zl9 : W2.heap.size < V9.heap.size := lt_of_cell z9
    clear HG HZ8 g2 gf gl y0 y1 y2 e1 e2 e3 e4 ga gb fa lm lr lf l1 l2 z0 z1 zf0 zf1 zl n1_ mf lz
    refine NoPanic.normal ?_
    go_wp2
    have hK := H.out.say (HB3.out.trans ((Below.refl _ _).drew)) HLG.out HST.out HSS.out.kp HSS.out.sz HSS.out.bel HSS.out.own HSS.out.row HSS.out.off hV9.out
    rw [hw4.out]
    refine ⟨ranF_mk ?_, ranMu_mk⟩
    exact ran_goes hK
end Go.Proofs.YtdngbojbpmdegaaGreatDoor
