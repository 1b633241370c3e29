/-
  For every two numbers RunsFault answers true: an enclave that touches what it must not is broken, and runs no more. No condition but that the library's tables are as the program's text lays them, which the card ties.
-/
import Derived.Test.YtdngbojbpmdegaaGreatDoorJMBox
import Derived.Test.YtdngbojbpmdegaaGreatDoorRunResume
import Derived.Test.YtdngbojbpmdegaaGreatDoorJCreate
import Derived.Deep.DeepCutAuto
namespace Go.Proofs.YtdngbojbpmdegaaGreatDoor
open Go.ChangeShapes Go.WideShapes Go.ChangeAt Go.RowKit
set_option linter.unusedVariables false


theorem fault_ent {M N : Mv} {which n : Int} (hw : 0 ≤ which ∧ which < 7) (s : M.Same N) (hz : machF N = 0) (hs : (N.ens.getD 0 default).st = 2) (h : C3 N ((oddC which n).take 8) (((oddC which n).drop 8).take 8) [0, 0, 0, 0, 0, 0, 0, 0]) :
    entF M 1 1 100 = 0 ∧ entD M 1 1 100 = 3 ∧ ∀ K : Mv, K.Same (entM M 1 1 100) → K.Fits ∧ K.ens.length = 4 ∧ (K.ens.getD 0 default).st = 4 ∧ entF K 1 1 100 = 8 ∧ fuelF K 1 3 100 = 8 := by
  obtain ⟨_, e1, e2, e3, e4⟩ := ent_ready hz (m := 0) (by omega) hs (word := 1) (by omega) (f := 100) (by omega)
  have hr := faulty hw h
  have e1' : entF N 1 1 100 = 0 := e1
  have e2' : entM N 1 1 100 = leftM (runR 100 N 0 0 [1, 0, 0, 0] xorR) 0 := e2
  have e3' : entD N 1 1 100 = (runR 100 N 0 0 [1, 0, 0, 0] xorR).nd := e3
  have hzE := ent_good e1'
  refine ⟨by rw [entF_same s]; exact e1', by rw [entD_same s, e3']; exact hr, fun K hK => ?_⟩
  have hKN : K.Same (entM N 1 1 100) := hK.trans (entM_same s _ _ _)
  have hzK : machF K = 0 := (machF_same hKN).trans hzE
  have h4 : K.ens.length = 4 := (good_iff.1 hzK).s2
  have hst : (K.ens.getD 0 default).st = 4 := by
    have hl : (runR 100 N 0 0 [1, 0, 0, 0] xorR).M.ens.length = 4 := by
      have := (congrArg List.length hKN.en).symm.trans h4
      rw [e2'] at this
      unfold leftM at this
      simpa using this
    rw [hKN.en, e2']
    unfold leftM leftE
    rw [if_neg (by rw [hr]; decide), if_neg (by rw [hr]; decide)]
    rw [List.getD_eq_getElem?_getD, List.getElem?_set_self (by omega)]
    rfl
  have hA : ∀ q : Int, q = 2 ∨ q = 3 → askF K 1 q = 8 := fun q hq => by
    unfold askF
    rw [if_pos hzK, if_pos (by decide)]
    show (if (K.ens.getD 0 default).st = 0 then (5 : Int) else if 0 ≤ q ∧ (K.ens.getD 0 default).st ≠ q then 8 else 0) = 8
    rw [hst, if_neg (by decide), if_pos (by omega)]
  refine ⟨fits_goodH hzE hKN, h4, hst, ?_, ?_⟩
  · unfold entF fuelF
    rw [hA 2 (.inl rfl)]
    rfl
  · unfold fuelF
    rw [hA 3 (.inr rfl)]
    rfl

set_option maxRecDepth 100000 in
set_option maxHeartbeats 8000000 in
theorem runsFault_walk (a b : Int) (w : World) (wa : (Lit.int .i64 a).wf = true) (wb : (Lit.int .i64 b).wf = true) (ht : Tab w) :
    Calls Tryz.prog 5 #[.int .i64 a, .int .i64 b] w fun e w' => e = .returned (.bool true) ∧ Below w.heap.size w w' := by
  obtain ⟨f, hf⟩ : ∃ f : Int → Int, Hid (∀ m, f m = pick b m) := ⟨fun m => pick b m, fun _ => rfl⟩
  have hpk : ∀ (m : Int) (w' : World), 0 < m → m ≤ 1000000 → Calls Tryz.prog 17 #[.int .i64 b, .int .i64 m] w' fun e w'' => e = .returned (.int .i64 (f m)) ∧ w' = w'' := fun m w' h0 h1 => by
    rw [hf.out]; exact picked_any b m w' wb h0 h1
  have p40 : 0 ≤ f 40 ∧ f 40 < 40 := by rw [hf.out]; exact pick_lt b (many := 40) (by omega)
  have q40 : IntKind.i64.wrap (24 + f 40) = 24 + f 40 := by rw [IntKind.wrap_i64]; omega
  have p1000 : 0 ≤ f 1000 ∧ f 1000 < 1000 := by rw [hf.out]; exact pick_lt b (many := 1000) (by omega)
  have q1000 : IntKind.i64.wrap (256 + f 1000) = 256 + f 1000 := by rw [IntKind.wrap_i64]; omega
  have p24 : 0 ≤ f 24 ∧ f 24 < 24 := by rw [hf.out]; exact pick_lt b (many := 24) (by omega)
  have q24 : IntKind.i64.wrap (64 + f 24) = 64 + f 24 := by rw [IntKind.wrap_i64]; omega
  have p6 : 0 ≤ f 6 ∧ f 6 < 6 := by rw [hf.out]; exact pick_lt b (many := 6) (by omega)
  have q6 : IntKind.i64.wrap (10 + f 6) = 10 + f 6 := by rw [IntKind.wrap_i64]; omega
  have p100 : 0 ≤ f 100 ∧ f 100 < 100 := by rw [hf.out]; exact pick_lt b (many := 100) (by omega)
  have q100 : IntKind.i64.wrap (16 + f 100) = 16 + f 100 := by rw [IntKind.wrap_i64]; omega
  have p7 := pick_lt a (many := 7) (by omega)
  have h7 := fun w' => picked_any a 7 w' wa (by omega) (by omega)
  obtain ⟨x7, hx7⟩ : ∃ x, Hid (x = pick a 7) := ⟨_, rfl⟩
  rw [← hx7.out] at p7 h7
  have HT : Hid (Tab w) := ht
  clear ht
  go_enter Tryz.func5, Tryz.ntmps5
  go_upto_region 2 with (first
    | (go_at_call 19; refine (instr_all _ _ _ _ _ (by constructor <;> omega) ⟨by decide, by decide⟩ ⟨by decide, by decide⟩).mono ?_; rintro e w' ⟨rfl, rfl⟩)
    | (go_at_call 17; refine (hpk _ _ (by omega) (by omega)).mono ?_; rintro e w' ⟨rfl, rfl⟩)
    | (have hq := hrow5; go_at_call 18; refine (concat_twoX _ _ _ _ _ _ _).mono ?_; rintro e w6 ⟨la6, lc6, rfl, hrow6, hrow7, hb6⟩)
    | (have hq := hrow4; go_at_call 18; refine (concat_two _ _ _ _ _).mono ?_; rintro e w5 ⟨la5, lc5, rfl, hrow5, hb5⟩)
    | (have hq := hrow3; go_at_call 18; refine (concat_two _ _ _ _ _).mono ?_; rintro e w4 ⟨la4, lc4, rfl, hrow4, hb4⟩)
    | (have hq := hrow2; go_at_call 18; refine (concat_two _ _ _ _ _).mono ?_; rintro e w3 ⟨la3, lc3, rfl, hrow3, hb3⟩)
    | (have hq := hrow1; go_at_call 18; refine (concat_two _ _ _ _ _).mono ?_; rintro e w2 ⟨la2, lc2, rfl, hrow2, hb2⟩)
    | (go_at_call 18; refine (concat_two _ _ _ _ _).mono ?_; rintro e w1 ⟨la1, lc1, rfl, hrow1, hb1⟩)
    | fail)
  have b1 := hb1; have b2 := hb2; have b3 := hb3; have b4 := hb4; have b5 := hb5; have b6 := hb6
  obtain ⟨W7, hW7⟩ : ∃ W7, Hid (W7 = w6.alloc (.cells #[.slice la1 4 lc1, .slice la2 4 lc2, .slice la3 4 lc3, .slice la4 4 lc4, .slice la5 4 lc5, .slice (some ⟨w5.heap.size, 0, none⟩) 2 2, .slice la6 4 lc6] 30)) := ⟨_, rfl⟩
  rw [← hW7.out]
  have b7 : Below w6.heap.size w6 W7 := by rw [hW7.out]; exact (Below.refl _ _).alloc (Nat.le_refl _) _
  have blk : W7.heap[w6.heap.size]? = some (.cells #[.slice la1 4 lc1, .slice la2 4 lc2, .slice la3 4 lc3, .slice la4 4 lc4, .slice la5 4 lc5, .slice (some ⟨w5.heap.size, 0, none⟩) 2 2, .slice la6 4 lc6] 30 (0, 0)) := by rw [hW7.out]; exact Go.Deep.blk_alloc_new _ _
  have b56 := b6.trans (b7.mono b6.size)
  have b45 := b5.trans (b56.mono b5.size)
  have b34 := b4.trans (b45.mono b4.size)
  have b23 := b3.trans (b34.mono b3.size)
  have b12 := b2.trans (b23.mono b2.size)
  have HB7 : Hid (Below w.heap.size w W7) := show Below _ _ _ from b1.trans (b12.mono b1.size)
  have kp : ∀ {wz : World} {ad : Option Addr} {l : List Int}, RowsAt wz 1 ic ad l → Below wz.heap.size wz W7 → RowsAt W7 1 ic ad l := fun h hb => RowsAt.below (cells := ic) (fun _ => rfl) h hb
  have r1 := kp hrow1 b12
  have r2 := kp hrow2 b23
  have r3 := kp hrow3 b34
  have r4 := kp hrow4 b45
  have r5 := kp hrow5 b56
  have r6 := kp hrow6 b7
  have r7 := kp hrow7 b7
  have HHT : Hid (Tab W7) := HT.out.below HB7.out
  obtain ⟨j, hj⟩ : ∃ j : Nat, x7 = (j : Int) := ⟨x7.toNat, by omega⟩
  subst hj
  obtain ⟨pa, pl, pc, hcell, hrp, hl, hne, hln, hsm⟩ : ∃ pa pl pc, W7.cell? ⟨w6.heap.size, j, none⟩ = some (.slice pa pl.length pc) ∧ RowsAt W7 1 ic pa pl ∧ pl = oddW (j : Int) b ∧ pl ≠ [] ∧ pl.length ≤ 1000 ∧ Small16 pl := by
    have s4 : ∀ {p q r s : Int}, (0 ≤ p ∧ p ≤ 65535) → (0 ≤ q ∧ q ≤ 65535) → (0 ≤ r ∧ r ≤ 65535) → (0 ≤ s ∧ s ≤ 65535) → Small16 [p, q, r, s] := fun h1 h2 h3 h4 n hn => by
      simp only [List.mem_cons, List.not_mem_nil, or_false] at hn
      rcases hn with rfl | rfl | rfl | rfl <;> assumption
    rcases (show j = 0 ∨ j = 1 ∨ j = 2 ∨ j = 3 ∨ j = 4 ∨ j = 5 ∨ j = 6 by omega) with rfl | rfl | rfl | rfl | rfl | rfl | rfl
    · exact ⟨la1, _, lc1, by simp [World.cell?, blk], r1, rfl, by simp, by simp, s4 (by omega) (by omega) (by omega) (by omega)⟩
    · exact ⟨la2, _, lc2, by simp [World.cell?, blk], r2, rfl, by simp, by simp, s4 (by omega) (by omega) (by omega) (by omega)⟩
    · exact ⟨la3, _, lc3, by simp [World.cell?, blk], r3, by rw [hf.out]; rfl, by simp, by simp, s4 (by omega) (by omega) (by omega) (by omega)⟩
    · exact ⟨la4, _, lc4, by simp [World.cell?, blk], r4, by rw [hf.out]; rfl, by simp, by simp, s4 (by omega) (by omega) (by omega) (by omega)⟩
    · exact ⟨la5, _, lc5, by simp [World.cell?, blk], r5, by rw [hf.out]; rfl, by simp, by simp, s4 (by omega) (by omega) (by omega) (by omega)⟩
    · refine ⟨some ⟨w5.heap.size, 0, none⟩, _, 2, by simp [World.cell?, blk], r7, by rw [hf.out]; rfl, by simp, by simp, fun n hn => ?_⟩
      simp only [List.mem_cons, List.not_mem_nil, or_false] at hn
      rcases hn with rfl | rfl <;> omega
    · exact ⟨la6, _, lc6, by simp [World.cell?, blk], r6, by rw [hf.out]; rfl, by simp, by simp, s4 (by omega) (by omega) (by omega) (by omega)⟩
  have hM := mach_any pa pl pc W7 hrp hne hln hsm HHT.out
  unfold MachSaid at hM
  rw [hl] at hM
  rw [← hl] at hM
  have HOD : Hid (pl = oddW (j : Int) b) := hl
  have ljB := lt_of_cell hcell
  have HJ : Hid (0 ≤ (j : Int) ∧ (j : Int) < 7) := p7
  have hjI : (j : Int) < 7 := p7.2
  clear hb1 hb2 hb3 hb4 hb5 hb6 b1 b2 b3 b4 b5 b6 b7 b56 b45 b34 b23 b12 kp r1 r2 r3 r4 r5 r6 r7 hrow1 hrow2 hrow3 hrow4 hrow5 hrow6 hrow7 blk hW7 p40 p1000 p24 p6 p100 q40 q1000 q24 q6 q100 hrp hl hne hln hsm hpk
  generalize hgl : pl.length = npl at *
  go_upto_region 3 with (first
    | (go_at_call 17; refine (h7 _).mono ?_; rintro e w' ⟨rfl, rfl⟩)
    | (go_at_call 20; refine hM.mono ?_; clear hM; rintro e w4 ⟨M, N, rfl, hS, hC3, hz, hst, hO, hb4⟩; unfold Mv.val))
  have hC3' : C3 N ((oddC (j : Int) b).take 8) (((oddC (j : Int) b).drop 8).take 8) [0, 0, 0, 0, 0, 0, 0, 0] := by
    rw [HOD.out] at hC3; exact hC3
  obtain ⟨W5, hW5⟩ : ∃ W5, Hid (W5 = w4.alloc (.cells #[.slice M.fa M.frs.length M.fcap, .slice M.ea M.ens.length M.ecap, .slice M.qa M.qus.length M.qcap] 29)) := ⟨_, rfl⟩
  have b5 : Below w4.heap.size w4 W5 := by rw [hW5.out]; exact (Below.refl _ _).alloc (Nat.le_refl _) _
  have MB5 : Hid (MBox W7.heap.size W5 w4.heap.size M) := show MBox _ _ _ _ from MBox.of_block (t := 29) (hO.below b5) (by rw [hW5.out]; exact Go.Deep.blk_alloc_new _ _) (fun q => by have := (Mine.fresh hO q).2; omega)
  have BW5 : Hid (Below w.heap.size w W5) := show Below _ _ _ from (HB7.out.trans (hb4.mono HB7.out.size)).trans (b5.mono (Nat.le_trans HB7.out.size hb4.size))
  rw [← hW5.out]
  obtain ⟨r1, r2, r4⟩ := fault_ent HJ.out hS hz hst hC3'
  have HR4 : Hid (_) := r4
  have hE := enter_any M 1 1 100 W5 MB5.out.own.at_ (fits_goodH hz hS)
  unfold RunSaid at hE
  rw [r1, r2] at hE
  unfold Mv.val at hE
  have c0 := MB5.out.c0
  have c1 := MB5.out.c1
  have c2 := MB5.out.c2
  have lc := MB5.out.lt
  obtain ⟨v, hv⟩ : ∃ v, Hid (v = entV M 1 1 100) := ⟨_, rfl⟩
  rw [← hv.out] at hE
  clear r1 r2 r4 hS hC3 hC3' hz hst hO hb4 b5 hW5 hcell ljB
  go_upto_region 4 with (go_at_call 21; refine hE.mono ?_; clear hE; rintro e w6' ⟨K, rfl, hKS, hKO, hb6⟩)
  obtain ⟨V7, hV7⟩ : ∃ V7, Hid (V7 = (w6'.alloc (.cells #[.slice K.fa K.frs.length K.fcap, .slice K.ea K.ens.length K.ecap, .slice K.qa K.qus.length K.qcap] 29)).alloc (.cells #[.int .i64 3, .int .i64 v] 47)) := ⟨_, rfl⟩
  obtain ⟨b7, k1, k2⟩ := al2w w6' (.cells #[.slice K.fa K.frs.length K.fcap, .slice K.ea K.ens.length K.ecap, .slice K.qa K.qus.length K.qcap] 29) (.cells #[.int .i64 3, .int .i64 v] 47)
  rw [← hV7.out] at b7 k1 k2
  have KB7 : Hid (MBox W5.heap.size V7 w6'.heap.size K) := show MBox _ _ _ _ from MBox.of_block (t := 29) (hKO.below b7) k1 (fun q => by have := (Mine.fresh hKO q).2; omega)
  have OB7 : Hid (OBox V7 (w6'.heap.size + 1) 3 v) := show OBox _ _ _ _ from OBox.of_block k2
  have BW7 : Hid (Below w.heap.size w V7) := show Below _ _ _ from (BW5.out.trans (hb6.mono BW5.out.size)).trans (b7.mono (Nat.le_trans BW5.out.size hb6.size))
  rw [← hV7.out]
  obtain ⟨kF, k4, kst, kE, kR⟩ := HR4.out K hKS
  have HKK : Hid (_) := And.intro k4 kst
  have hE2 := enter_any K 1 1 100 V7 KB7.out.own.at_ kF
  have hR2 := fun w' (hb : Below V7.heap.size V7 w') => resume_any K 1 100 w' (KB7.out.own.at_.below hb) kF
  unfold RunSaid at hE2 hR2
  rw [kE] at hE2
  rw [kR] at hR2
  unfold Mv.val at hE2 hR2
  obtain ⟨n1, hn1⟩ : ∃ n1, Hid (n1 = entD K 1 1 100) := ⟨_, rfl⟩
  obtain ⟨n2, hn2⟩ : ∃ n2, Hid (n2 = entV K 1 1 100) := ⟨_, rfl⟩
  obtain ⟨n3, hn3⟩ : ∃ n3, Hid (n3 = resD K 1 100) := ⟨_, rfl⟩
  obtain ⟨n4, hn4⟩ : ∃ n4, Hid (n4 = resV K 1 100) := ⟨_, rfl⟩
  rw [← hn1.out, ← hn2.out] at hE2
  rw [← hn3.out, ← hn4.out] at hR2
  have d0 := KB7.out.c0
  have d1 := KB7.out.c1
  have d2 := KB7.out.c2
  have ld := KB7.out.lt
  clear kF k4 kst kE kR c0 c1 c2 lc b7 k1 k2 hV7 hKS hKO hb6
  go_upto_region 5 with (go_at_call 21; refine hE2.mono ?_; clear hE2; rintro e w8 ⟨Y, rfl, hYS, hYO, hb8⟩)
  obtain ⟨V9, hV9⟩ : ∃ V9, Hid (V9 = (w8.alloc (.cells #[.slice Y.fa Y.frs.length Y.fcap, .slice Y.ea Y.ens.length Y.ecap, .slice Y.qa Y.qus.length Y.qcap] 29)).alloc (.cells #[.int .i64 n1, .int .i64 n2] 47)) := ⟨_, rfl⟩
  obtain ⟨b9, _, _⟩ := al2w w8 (.cells #[.slice Y.fa Y.frs.length Y.fcap, .slice Y.ea Y.ens.length Y.ecap, .slice Y.qa Y.qus.length Y.qcap] 29) (.cells #[.int .i64 n1, .int .i64 n2] 47)
  rw [← hV9.out] at b9
  rw [← hV9.out]
  have B79 : Hid (Below V7.heap.size V7 V9) := show Below _ _ _ from hb8.trans (b9.mono hb8.size)
  clear d0 d1 d2 ld hV9 b9 hYS hYO hb8
  have KB9 := KB7.out.keep B79.out
  have d0 := KB9.c0
  have d1 := KB9.c1
  have d2 := KB9.c2
  have ld := KB9.lt
  have hR2 := hR2 V9 B79.out
  clear KB9
  go_upto_region 6 with (go_at_call 23; refine hR2.mono ?_; clear hR2; rintro e w10 ⟨Z, rfl, hZS, hZO, hb10⟩)
  obtain ⟨V11, hV11⟩ : ∃ V11, Hid (V11 = (w10.alloc (.cells #[.slice Z.fa Z.frs.length Z.fcap, .slice Z.ea Z.ens.length Z.ecap, .slice Z.qa Z.qus.length Z.qcap] 29)).alloc (.cells #[.int .i64 n3, .int .i64 n4] 47)) := ⟨_, rfl⟩
  obtain ⟨b11, _, _⟩ := al2w w10 (.cells #[.slice Z.fa Z.frs.length Z.fcap, .slice Z.ea Z.ens.length Z.ecap, .slice Z.qa Z.qus.length Z.qcap] 29) (.cells #[.int .i64 n3, .int .i64 n4] 47)
  rw [← hV11.out] at b11
  rw [← hV11.out]
  have B711 : Hid (Below V7.heap.size V7 V11) := show Below _ _ _ from B79.out.trans ((hb10.trans (b11.mono hb10.size)).mono B79.out.size)
  clear d0 d1 d2 ld hV11 b11 hZS hZO hb10
  have KB11 := KB7.out.keep B711.out
  have OB11 := OB7.out.keep B711.out
  have d1 := KB11.c1
  rw [HKK.out.1] at d1
  have ld := KB11.lt
  have o0 := OB11.c0
  have lo := OB11.lt
  obtain ⟨xb, xo, hxa, y0, _⟩ := KB11.own.at_.enclave (j := 0) (by rw [HKK.out.1]; omega)
  rw [hxa] at d1
  rw [HKK.out.2] at y0
  have lx := lt_of_cell y0
  simp only [Nat.zero_mul, Nat.add_zero] at y0
  clear KB11 OB11 hxa
  go_wp2
  go_ret
  exact ⟨rfl, BW7.out.trans (B711.out.mono BW7.out.size)⟩

set_option maxRecDepth 100000 in
theorem runsFault_contract (H : Type) (enc : TypeId × Value → H) (W : World) (base : Nat) (args : Array Value) (ds gs : List (DataW H)) (before : List MemPlace)
    (hval0 : ∀ (j : Nat) t v, Tryz.f5.params[j]? = some t → args[j]? = some v → Value.okWide Tryz.prog W .any base t v)
    (hW : DataW.Whole enc Tryz.prog Tryz.f5.params.toList Rows.runsFaultSpec.vars false W args.toList ds gs before) (hL : laidMetH Tryz.prog listed W) :
    Calls Tryz.prog 5 args W fun e W' => ∃ v, e = .returned v ∧ Rows.runsFaultSpec.post enc Tryz.prog Tryz.f5 false true false false W args v W' := by
  have hval := hval0
  have hW' := hW
  obtain ⟨p, q, hA0, hV, rfl, hfz, hnd⟩ := hW
  have hA : DataW.TrodAll enc Tryz.prog W 0 (fun _ => true) true Tryz.f5.params.toList args.toList ds p := hA0
  rw [Tryz.params5] at hA hval
  obtain ⟨v0, vs0, d0, ds0, p0, q0, hargs, rfl, rfl, h0, r0⟩ := trodAll_cons hA
  obtain ⟨v1, vs1, d1, ds1, p1, q1, rfl, rfl, rfl, h1, r1⟩ := trodAll_cons r0
  obtain ⟨rfl, rfl, rfl⟩ := trodAll_nil r1
  obtain rfl : args = #[v0, v1] := by cases args; simp_all
  obtain ⟨rfl, rfl⟩ := trodVars_none hV
  have k0 := h0
  have lt0 : ∀ x ∈ p0, x.block < W.heap.size := by obtain ⟨m, hm⟩ := k0; exact DataW.trod_lt m _ _ _ hm
  obtain ⟨x0, rfl, rfl, rfl, wx0⟩ := open_int Tryz.underlying3 (hval 0 3 v0 rfl rfl) h0
  have k1 := h1
  have lt1 : ∀ x ∈ p1, x.block < W.heap.size := by obtain ⟨m, hm⟩ := k1; exact DataW.trod_lt m _ _ _ hm
  obtain ⟨x1, rfl, rfl, rfl, wx1⟩ := open_int Tryz.underlying3 (hval 1 3 v1 rfl rfl) h1
  clear hA0 hval0
  refine (runsFault_walk x0 x1 W wx0 wx1 (tab_of hL)).mono fun e W' ⟨he, bel⟩ => ?_
  subst he
  exact ⟨_, rfl, _, _, _, [], _, [], hW', trodAll_mk1 (shut_bool Tryz.underlying4 _), (trodAll_cons_mk (Below.trod laidOut (by kernel_rfl) (of_decide_eq_true (by kernel_rfl)) k0 bel lt0) (trodAll_cons_mk (Below.trod laidOut (by kernel_rfl) (of_decide_eq_true (by kernel_rfl)) k1 bel lt1) trodAll_mk0)), rfl, bel.frame _, fun h => by cases h⟩

theorem runsFault_laid (os : Os) : laidMet Tryz.prog listed ((laidWorld os).forCall (fun _ _ => 0) ⟨#[], #[.int .i64 0, .int .i64 0], []⟩).memory :=
  laidMet_of_run' 8 (by kernel_rfl) (by kernel_rfl)
theorem runsFault_reads (os : Os) {H : Type} (enc : TypeId × Value → H) : ∃ places, DataW.whole enc Tryz.prog ((laidWorld os).forCall (fun _ _ => 0) ⟨#[], #[.int .i64 0, .int .i64 0], []⟩).memory Tryz.f5.params.toList Rows.runsFaultSpec.vars false (#[.int .i64 0, .int .i64 0] : Array Value).toList 8 = some ([.lit (.int .i64 0), .lit (.int .i64 0)], [], places) :=
  ⟨[], by kernel_rfl⟩

set_option maxRecDepth 100000 in
theorem runsFault_lifted (os : Os) (started : os.Started) (H : Type) (enc : TypeId × Value → H) (F : Stop.Interp) :
    ReturnsInHanded {} Tryz.checked os 5 .any ((OpenSpec.ofChange Rows.runsFaultSpec).preRow enc Tryz.prog Tryz.f5 Rows.runsFaultRow.domain false Rows.runsFaultRow.laid) (((OpenSpec.ofChange Rows.runsFaultSpec).at F).post enc Tryz.prog Tryz.f5 false true false false) := by
  obtain ⟨places, hx⟩ := runsFault_reads os enc
  refine returnsInHanded_of_row (C := Tryz.checked) (s := (OpenSpec.ofChange Rows.runsFaultSpec)) own started (by kernel_rfl) Tryz.func5
    (witness_row_at (enc := enc) (C := Tryz.checked) false (laidWorld os) #[.int .i64 0, .int .i64 0] rfl (by kernel_rfl) (by kernel_rfl) (by kernel_rfl)
      (OpenSpec.preRow_of_cond 8 hx (by kernel_rfl) (fun k hk => by cases hk) (by kernel_rfl) (runsFault_laid os))) ?_
  intro W base args ds gs before hval hW _ hcond hsz hL _ _
  exact runsFault_contract H enc W base args ds gs before hval hW hL

theorem runsFault_said : Rows.RunsFaultSaid :=
  OpenClaim.holds_of_cond 5 Tryz.f5 rfl rfl rfl rfl rfl rfl rfl ⟨rfl, rfl, rfl, rfl, rfl⟩ rfl rfl rfl rfl rfl (by kernel_rfl) Tryz.func5 (by kernel_rfl)
    (of_decide_eq_true (by kernel_rfl)) (by unfold Func.isWrapper; first | (rw [if_pos (by decide +kernel)]; kernel_rfl) | (rw [if_neg (by decide +kernel)]; exact ⟨rfl, rfl⟩))
    (fun os started H enc _ F => by rw [OpenClaim.pre_eq_preRow]; exact runsFault_lifted os started H enc F)

theorem runsFault_plain (f : FuncId) (fn : Func) (hf : Tryz.pinned.checked.prog.funcNamed "riddle/riddlekeep.RunsFault" = some f) (hfn : Tryz.pinned.checked.prog.funcs[f]? = some fn) :
    false = Tryz.pinned.checked.prog.looks [] ∧ ∀ (j : Nat) t, fn.params[j]? = some t → Tryz.pinned.checked.prog.wantsStandIn t = false := by
  obtain rfl : f = 5 := Option.some.inj ((show Tryz.prog.funcNamed "riddle/riddlekeep.RunsFault" = some 5 by kernel_rfl).symm.trans hf) |>.symm
  obtain rfl : fn = Tryz.f5 := (Option.some.inj (Tryz.func5.symm.trans hfn)).symm
  refine ⟨by kernel_rfl, fun j t ht => ?_⟩
  rw [Tryz.params5] at ht
  have hm : t = 3 := by simpa using Array.mem_of_getElem? ht
  subst hm
  exact (show Tryz.prog.wantsStandIn 3 = false by kernel_rfl)

theorem runsFault_card : Rows.RunsFaultCardSaid :=
  Claim7.holds_tied_plain_at .later [] _ _ _ _ runsFault_said (fun _ h => by cases h) (by kernel_rfl) (fun _ h => by cases h) runsFault_row_tie rfl ⟨rfl, rfl⟩ (by kernel_rfl) rfl runsFault_plain (by kernel_rfl)
#print axioms runsFault_card

end Go.Proofs.YtdngbojbpmdegaaGreatDoor
