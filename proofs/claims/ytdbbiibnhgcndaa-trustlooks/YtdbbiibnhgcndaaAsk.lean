/-
  What the calls Ask (trust) and AskedOf (riddleref) answer for every challenger: a nonce more, or what is refused, in memory of its own; they turn nothing that was in memory. The condition: the lists are within the reach of the form.
-/
import Derived.Test.YtdbbiibnhgcndaaChalChk
import Derived.Test.YtdbbiibnhgcndaaCCopy
namespace Go.Proofs.Ytdbbiibnhgcndaa
open Go.RowKit

/-- what Ask refuses (0: nothing) -/
def askE (C : Cv) : Int := if chF C.tr C.ns = 0 then (if 20 ≤ C.ns.length then 7 else 0) else chF C.tr C.ns
def moreC (C : Cv) : Cv := { C with ns := C.ns ++ [0] }
def askC (C : Cv) : Cv := if askE C = 0 then moreC C else noC
def askN (C : Cv) : Int := if askE C = 0 then (C.ns.length : Int) + 1 else 0
theorem askE_same {C D : Cv} (h : C.Same D) : askE C = askE D := by unfold askE; rw [h.tr, h.ns]
theorem askN_same {C D : Cv} (h : C.Same D) : askN C = askN D := by unfold askN; rw [askE_same h, h.ns]
theorem askC_same {C D : Cv} (h : C.Same D) : (askC C).Same (askC D) := by
  unfold askC
  rw [askE_same h]
  split
  · exact ⟨h.tr, by unfold moreC; dsimp only; rw [h.ns]⟩
  · exact Cv.Same.refl _
theorem wvals_snoc (ns : List Int) (n : Int) : wvals (ns ++ [n]) = wvals ns ++ [.int .i64 n] := by simp [wvals]
theorem own_block {a : Option Addr} {n cap b : Nat} (h : (Value.slice a n cap).ownBlock = some b) : ∃ o s, a = some ⟨b, o, s⟩ := by
  cases a with
  | none => simp [Value.ownBlock] at h
  | some x =>
    obtain ⟨xb, xo, xs⟩ := x
    simp only [Value.ownBlock, Option.some.injEq] at h
    exact ⟨xo, xs, by rw [← h]⟩
/-- a nonce more -/
theorem nonce_more {n0 : Nat} {w2 : World} {N : Cv} (hO : COwn n0 w2 N) (hn0 : n0 ≤ w2.heap.size) (hl : N.ns.length < 20) (ob : Obj) :
    ∃ g cap w8, (Builtin.append_ #[22, 22] 22 #[.slice N.na N.ns.length N.ncap, .slice (some ⟨w2.heap.size + 1, 0, none⟩) 1 1]).run Try.prog ((w2.alloc ob).alloc (.cells #[.int .i64 0] 3)) = .ok (.slice (some ⟨g, 0, none⟩) (N.ns.length + 1) cap) w8 ∧
      COwn n0 w8 ⟨N.ta, N.tr, N.tcap, some ⟨g, 0, none⟩, N.ns ++ [0], cap⟩ ∧ g ≠ w2.heap.size ∧ w8.heap[w2.heap.size]? = some ob ∧ Below n0 w2 w8 := by
  obtain ⟨iI, hiI, hzI⟩ := Option.map_eq_some_iff.1 info_n
  simp only [Prod.mk.injEq] at hzI
  obtain ⟨z1, z2, z3⟩ := hzI
  have hB7 : Below w2.heap.size w2 ((w2.alloc ob).alloc (.cells #[.int .i64 0] 3)) := a2B _ _ _
  have s7 : ((w2.alloc ob).alloc (.cells #[.int .i64 0] 3)).heap.size = w2.heap.size + 2 := by simp
  have b7 : ((w2.alloc ob).alloc (.cells #[.int .i64 0] 3)).heap[w2.heap.size + 1]? = some (.cells #[.int .i64 0] 3) := a22 _ _ _
  have b6 : ((w2.alloc ob).alloc (.cells #[.int .i64 0] 3)).heap[w2.heap.size]? = some ob := a21 _ _ _
  have hO7 := hO.below hB7
  generalize (w2.alloc ob).alloc (.cells #[.int .i64 0] 3) = V7 at hB7 s7 b7 b6 hO7
  obtain ⟨g, cap, w8, hr, own8, grow, lies, lt⟩ := run_append_lies (P := Try.prog) V7 22 22 n0 3 iI _ 1 8 Try.underlying22 hiI z1 z2 z3 rfl (by omega) (.slice N.na N.ns.length N.ncap) N.ns.length (wvals N.ns) hO7.ns ⟨w2.heap.size + 1, 0, none⟩ 1 1 [.int .i64 0] rfl
    (fun j u hu => World.news_of_block (cs := #[.int .i64 0]) b7 j u hu) (fun u hu => by simp at hu; subst hu; rfl) (by omega) (by unfold maxLen; omega) (by omega) (by rw [s7]; omega) (w2.heap.size + 2) s7
  have lN := ownsRow_block hO.ns
  have lT := ownsRow_block hO.tr
  have keep : ∀ b, b < w2.heap.size + 2 → (∀ o s, N.na ≠ some ⟨b, o, s⟩) → w8.heap[b]? = V7.heap[b]? := fun b hb hv => grow.block b (by omega) (fun e => by obtain ⟨o', s', e'⟩ := own_block e.symm; exact hv o' s' e')
  have gne : g ≠ w2.heap.size := by
    rcases lies with e | e
    · obtain ⟨o, s, e'⟩ := own_block e
      have := (lN g o s e').2.1
      omega
    · omega
  refine ⟨g, cap, w8, hr, ⟨?_, ?_, ?_, ?_⟩, gne, (keep _ (by omega) (fun o s e => by have := (lN _ o s e).2.1; omega)).trans b6, ?_⟩
  · refine ownsRow_keep hO7.tr fun b o s e => keep b (by have := (lT b o s e).2.1; omega) fun o' s' e' => hO.off b o s o' s' e e'
  · rw [wvals_snoc]
    simpa using own8
  · intro b o s o' s' e e'
    simp only [Option.some.injEq, Addr.mk.injEq] at e'
    rcases lies with q | q
    · obtain ⟨x, y, q'⟩ := own_block q
      exact hO.off b o s x y e (by rw [q', e'.1])
    · have := (lT b o s e).2.1
      omega
  · have k := hO.ok
    refine ⟨k.trl, k.trok, by simp; unfold maxLen; omega, fun n hn => ?_⟩
    dsimp only at hn
    rcases List.mem_append.1 hn with h | h
    · exact k.nsw n h
    · simp at h; subst h; decide
  · refine ⟨grow.os.trans hB7.os, grow.tape.trans hB7.tape, grow.output.trans hB7.output, by have := grow.size; omega, fun b hb => ?_⟩
    rw [keep b (by omega) (fun o s e => by have := (lN b o s e).1; omega), hB7.block b (by omega)]

set_option maxRecDepth 100000 in
set_option maxHeartbeats 4000000 in
theorem ask_any (C : Cv) (w : World) (hC : ChalAt w C) (hF : C.Fits) :
    Calls Try.prog 54 #[C.val] w fun x w' => ∃ N : Cv, x = .returned (.tuple #[N.val, .int .i64 (askN C), .int .i64 (askE C)]) ∧ N.Same (askC C) ∧ COwn w.heap.size w' N ∧ Below w.heap.size w w' := by
  have h1 := fun w' (h : Below w.heap.size w w') => checkC_any C w' (hC.below h)
  have h2 := fun w' (h : Below w.heap.size w w') => copyC_any C w' (hC.below h) hF
  have hl2 := hC.ok.nsl
  unfold maxLen at hl2
  unfold askC askN
  unfold Cv.val at h1 h2 ⊢
  obtain ⟨E, hE⟩ : ∃ E, Hid (askE C = E) := ⟨_, rfl⟩
  rw [hE.out]
  have HE2 : Hid (E = if chF C.tr C.ns = 0 then (if 20 ≤ C.ns.length then 7 else 0) else chF C.tr C.ns) := by show _ = _; rw [← hE.out]; rfl
  obtain ⟨ta, tr, tcap, na, ns, ncap⟩ := C
  dsimp only at h1 h2 hl2 HE2 ⊢
  clear hC hE
  have B2 : ∀ o1 o2, Hid (Below w.heap.size w ((w.alloc o1).alloc o2)) := fun o1 o2 => ((Below.refl _ _).alloc (Nat.le_refl _) _).alloc (by simp) _
  have HX : ∀ o1 o2 w1, Hid (Below ((w.alloc o1).alloc o2).heap.size ((w.alloc o1).alloc o2) w1 → Below w.heap.size w w1) := fun o1 o2 w1 h => (B2 o1 o2).out.trans (h.mono (by simp; omega))
  have CF : Hid (∀ w1, Below ((w.alloc (.cells #[.slice ta tr.length tcap, .slice na ns.length ncap] 61)).alloc (.cells #[.slice none 0 0, .slice none 0 0] 61)).heap.size ((w.alloc (.cells #[.slice ta tr.length tcap, .slice na ns.length ncap] 61)).alloc (.cells #[.slice none 0 0, .slice none 0 0] 61)) w1 →
      w1.cell? ⟨w.heap.size, 0, none⟩ = some (.slice ta tr.length tcap) ∧ w1.cell? ⟨w.heap.size, 1, none⟩ = some (.slice na ns.length ncap) ∧
      w1.cell? ⟨w.heap.size + 1, 0, none⟩ = some (.slice none 0 0) ∧ w1.cell? ⟨w.heap.size + 1, 1, none⟩ = some (.slice none 0 0) ∧ (∀ o, w1.frozen? ⟨w.heap.size + 1, o, none⟩ = false) ∧ w.heap.size + 1 < w1.heap.size) := fun w1 hb => by
    refine ⟨(hb.cell (p := ⟨w.heap.size, 0, none⟩) (by simp; omega)).trans ?_, (hb.cell (p := ⟨w.heap.size, 1, none⟩) (by simp; omega)).trans ?_, (hb.cell (p := ⟨w.heap.size + 1, 0, none⟩) (by simp)).trans ?_, (hb.cell (p := ⟨w.heap.size + 1, 1, none⟩) (by simp)).trans ?_, fun o => (hb.frozen (p := ⟨w.heap.size + 1, o, none⟩) (by simp)).trans (World.frozen?_alloc_at _ _ _ _ (by simp)), by have := hb.size; simp at this; omega⟩
    · rw [World.cell?_alloc_past _ _ _ (by simp), World.cell?_alloc_at _ _ _ _ rfl]; rfl
    · rw [World.cell?_alloc_past _ _ _ (by simp), World.cell?_alloc_at _ _ _ _ rfl]; rfl
    · rw [World.cell?_alloc_at _ _ _ _ (by simp)]; rfl
    · rw [World.cell?_alloc_at _ _ _ _ (by simp)]; rfl
  by_cases hz : chF tr ns = 0
  · have hz' := chF_zero hz
    rw [hz] at h1
    have HE3 : Hid (E = if 20 ≤ ns.length then 7 else 0) := by show _ = _; rw [HE2.out, if_pos hz]
    clear HE2 hz
    by_cases h20 : 20 ≤ ns.length
    · obtain rfl : E = 7 := by rw [HE3.out, if_pos h20]
      have e20 : ns.length = 20 := by omega
      clear HE3 h2
      rw [if_neg (by omega), if_neg (by omega)]
      have e20' : ((ns.length : Int) == 20) = true := by rw [e20]; rfl
      have e21 : decide ((20 : Int) ≤ (ns.length : Int)) = true := by simp; omega
      have e22 : (20 : Int) ≤ (ns.length : Int) := by omega
      have HEQ : Hid (ns.length = 20) := e20
      clear e20 h20 hz'
      go_enter Try.func54, Try.ntmps54
      go_wp2_with (go_at_call 49; refine (h1 _ (B2 _ _).out).mono ?_; rintro x w1 ⟨rfl, hb1⟩; obtain ⟨m0, m1, r0, r1, rf, rl⟩ := CF.out w1 hb1; have HB1 : Hid (Below w.heap.size w w1) := (HX _ _ _).out hb1; have rf0 := rf 0; have rf1 := rf 1; clear hb1 CF)
      obtain ⟨k0, k1⟩ := blk2 (v0 := .slice none 0 0) (v1 := .slice none 0 0) r0 r1
      (try simp only [Exit.inBlock, Exit.then])
      refine bodyPost_ret (by simp [results, Try.results54, go_sem, k0, k1]; try rfl) rfl ?_
      exact ⟨noC, rfl, Cv.Same.refl _, noC_own _ _, (HB1.out.setCell (by simp) _).setCell (by simp) _⟩
    · obtain rfl : E = 0 := by rw [HE3.out, if_neg h20]
      clear HE3
      rw [if_pos rfl, if_pos rfl]
      have e20' : ((ns.length : Int) == 20) = false := by simp; omega
      have e22 : ¬ (20 : Int) ≤ (ns.length : Int) := by omega
      have HL : Hid (ns.length < 20) := by show _ < _; omega
      clear h20 hz'
      go_enter Try.func54, Try.ntmps54
      go_wp2_with (first
        | (go_at_call 49; refine (h1 _ (B2 _ _).out).mono ?_; rintro x w1 ⟨rfl, hb1⟩; obtain ⟨m0, m1, r0, r1, rf, rl⟩ := CF.out w1 hb1; have HB1 : Hid (Below w.heap.size w w1) := (HX _ _ _).out hb1; clear hb1 CF)
        | (go_at_call 51; refine (h2 _ HB1.out).mono ?_; rintro x w2 ⟨N, rfl, hS, hO, hb2⟩; obtain ⟨nta, ntr, ntcap, nna, nns, nncap⟩ := N; have HSN : Hid (_) := hS; have HON : Hid (_) := hO; have HB2 : Hid (_) := hb2
           obtain ⟨g, cap8, w8, hr8, own8, gne, hbox, bel8⟩ := nonce_more hO hb2.size (by have := hS.ns; dsimp only at this ⊢; rw [this]; exact HL.out) (.cells #[.slice nta ntr.length ntcap, .slice nna nns.length nncap] 61)
           dsimp only at hr8 own8
           have HR8 : Hid (_) := hr8
           have HO8 : Hid (_) := own8
           have HBX : Hid (_) := hbox
           have HB8 : Hid (_) := bel8
           have R0 : w8.cell? ⟨w.heap.size + 1, 0, none⟩ = some (.slice none 0 0) := ((bel8.cell (p := ⟨w.heap.size + 1, 0, none⟩) rl).trans (hb2.cell (p := ⟨w.heap.size + 1, 0, none⟩) rl)).trans r0
           have R1 : w8.cell? ⟨w.heap.size + 1, 1, none⟩ = some (.slice none 0 0) := ((bel8.cell (p := ⟨w.heap.size + 1, 1, none⟩) rl).trans (hb2.cell (p := ⟨w.heap.size + 1, 1, none⟩) rl)).trans r1
           have RF : ∀ o, w8.frozen? ⟨w.heap.size + 1, o, none⟩ = false := fun o => ((bel8.frozen (p := ⟨w.heap.size + 1, o, none⟩) rl).trans (hb2.frozen (p := ⟨w.heap.size + 1, o, none⟩) rl)).trans (rf o)
           have RF0 := RF 0
           have RF1 := RF 1
           have X0 : w8.cell? ⟨w2.heap.size, 0, none⟩ = some (.slice nta ntr.length ntcap) := by simp [World.cell?, hbox]
           have X1 : w8.cell? ⟨w2.heap.size, 1, none⟩ = some (.slice nna nns.length nncap) := by simp [World.cell?, hbox]
           have XF1 : w8.frozen? ⟨w2.heap.size, 1, none⟩ = false := frozen_of_block hbox 1
           have RL : w.heap.size + 1 < w8.heap.size := lt_of_cell R0
           have XL : w2.heap.size < w8.heap.size := lt_of_cell X0
           have RX : w.heap.size + 1 ≠ w2.heap.size := by have := hb2.size; omega
           clear hS hO hb2 m0 m1 r0 r1 rf hr8 own8 hbox bel8 RF; dsimp only)
        | (at_builtin; refine wpList_append_eq rfl (.tmp 21) (.tmp 22) 22 rfl _ _ _ rfl rfl HR8.out ?_)
        | fail)
      obtain ⟨V9, hV9⟩ : ∃ V9, Hid (V9 = w8.setCell ⟨w2.heap.size, 1, none⟩ (.slice (some ⟨g, 0, none⟩) (nns.length + 1) cap8)) := ⟨_, rfl⟩
      rw [← hV9.out]
      have Y0 : V9.cell? ⟨w2.heap.size, 0, none⟩ = some (.slice nta ntr.length ntcap) := by rw [hV9.out, World.cell?_setCell_other _ _ _ _ (by simp)]; exact X0
      have Y1 : V9.cell? ⟨w2.heap.size, 1, none⟩ = some (.slice (some ⟨g, 0, none⟩) (nns.length + 1) cap8) := by rw [hV9.out]; exact World.cell?_setCell_same _ _ _ X1
      have S0 : V9.cell? ⟨w.heap.size + 1, 0, none⟩ = some (.slice none 0 0) := by rw [hV9.out, World.cell?_setCell_other _ _ _ _ (by first | (simp; done) | (simp; omega))]; exact R0
      have S1 : V9.cell? ⟨w.heap.size + 1, 1, none⟩ = some (.slice none 0 0) := by rw [hV9.out, World.cell?_setCell_other _ _ _ _ (by first | (simp; done) | (simp; omega))]; exact R1
      have SF0 : V9.frozen? ⟨w.heap.size + 1, 0, none⟩ = false := by rw [hV9.out, World.frozen?_setCell]; exact RF0
      have SF1 : V9.frozen? ⟨w.heap.size + 1, 1, none⟩ = false := by rw [hV9.out, World.frozen?_setCell]; exact RF1
      have H9 : Hid (∀ b, b ≠ w2.heap.size → V9.heap[b]? = w8.heap[b]?) := fun b hb => by rw [hV9.out, Below.heap_setCell _ _ _ _ hb]
      have s12 := HB1.out.size
      have s23 := HB2.out.size
      have HO9 : Hid (COwn w1.heap.size V9 ⟨nta, ntr, ntcap, some ⟨g, 0, none⟩, nns ++ [0], cap8⟩) := by
        have q := HO8.out
        have lT := ownsRow_block HON.out.tr
        exact ⟨ownsRow_keep q.tr fun b o s e => H9.out b (by have := (lT b o s e).2.1; omega), ownsRow_keep q.ns fun b o s e => H9.out b (by simp only [Option.some.injEq, Addr.mk.injEq] at e; omega), q.off, q.ok⟩
      have HB9 : Hid (Below w.heap.size w V9) := by
        show Below _ _ _
        rw [hV9.out]
        exact ((HB1.out.trans (HB2.out.mono s12)).trans (HB8.out.mono s12)).setCell (by dsimp only; omega) _
      have L1 : w.heap.size + 1 < V9.heap.size := lt_of_cell S0
      have L2 : w2.heap.size < V9.heap.size := lt_of_cell Y0
      clear hV9 X0 X1 XF1 R0 R1 RF0 RF1 RL XL HR8 HBX H9 HO8 HB8
      go_big_region
      all_goals
        go_wp2_with fail
        refine bp_gen fun V10 hV10 => ?_
        obtain ⟨k0, k1, bb⟩ := two0 (by simp) S0 S1 HB9.out hV10
        have HK : Hid (∀ b, b ≠ w.heap.size + 1 → V10.heap[b]? = V9.heap[b]?) := fun b hb => by rw [hV10]; show (sets _ _ _ _).heap[b]? = _; unfold sets; rw [Below.heap_setCell _ _ _ _ hb, Below.heap_setCell _ _ _ _ hb]
        clear hV10
        (try simp only [Exit.inBlock, Exit.then])
        refine bodyPost_ret (by simp [results, Try.results54, go_sem, k0, k1]; try rfl) rfl ?_
        have q := HO9.out
        have lT := ownsRow_block q.tr
        have lN := ownsRow_block q.ns
        have eT := HSN.out.tr
        have eN := HSN.out.ns
        dsimp only at eT eN
        subst eT eN
        refine ⟨⟨nta, ntr, ntcap, some ⟨g, 0, none⟩, nns ++ [0], cap8⟩, by simp, ⟨rfl, rfl⟩, COwn.mono ⟨ownsRow_keep q.tr fun b o s e => HK.out b (by have := (lT b o s e).1; omega), ownsRow_keep q.ns fun b o s e => HK.out b (by have := (lN b o s e).1; omega), q.off, q.ok⟩ s12, bb⟩
  · have hz1 : (chF tr ns != 0) = true := by simpa using hz
    have hz0 : (chF tr ns == 0) = false := by simpa using hz
    obtain rfl : E = chF tr ns := by rw [HE2.out, if_neg hz]
    rw [if_neg hz, if_neg hz]
    clear HE2 hz h2
    generalize chF tr ns = z at h1 hz1 hz0 ⊢
    go_enter Try.func54, Try.ntmps54
    go_wp2_with (go_at_call 49; refine (h1 _ (B2 _ _).out).mono ?_; rintro x w1 ⟨rfl, hb1⟩; obtain ⟨m0, m1, r0, r1, rf, rl⟩ := CF.out w1 hb1; have HB1 : Hid (Below w.heap.size w w1) := (HX _ _ _).out hb1; have rf0 := rf 0; have rf1 := rf 1; clear hb1 CF)
    obtain ⟨k0, k1⟩ := blk2 (v0 := .slice none 0 0) (v1 := .slice none 0 0) r0 r1
    (try simp only [Exit.inBlock, Exit.then])
    refine bodyPost_ret (by simp [results, Try.results54, go_sem, k0, k1]; try rfl) rfl ?_
    exact ⟨noC, rfl, Cv.Same.refl _, noC_own _ _, (HB1.out.setCell (by simp) _).setCell (by simp) _⟩

set_option maxRecDepth 100000 in
set_option maxHeartbeats 4000000 in
theorem askedOf_any (C : Cv) (w : World) (hC : ChalAt w C) (hF : C.Fits) :
    Calls Try.prog 55 #[C.val] w fun x w' => ∃ N : Cv, x = .returned (.tuple #[N.val, .int .i64 (askN C), .int .i64 (askE C)]) ∧ N.Same (askC C) ∧ COwn w.heap.size w' N ∧ Below w.heap.size w w' := by
  have h1 := fun w' (h : Below w.heap.size w w') => faultC_any C w' (hC.below h)
  have h2 := fun w' (h : Below w.heap.size w w') => ccopy_any C w' (hC.below h) hF
  have hl2 := hC.ok.nsl
  unfold maxLen at hl2
  unfold askC askN
  unfold Cv.val at h1 h2 ⊢
  obtain ⟨E, hE⟩ : ∃ E, Hid (askE C = E) := ⟨_, rfl⟩
  rw [hE.out]
  have HE2 : Hid (E = if chF C.tr C.ns = 0 then (if 20 ≤ C.ns.length then 7 else 0) else chF C.tr C.ns) := by show _ = _; rw [← hE.out]; rfl
  obtain ⟨ta, tr, tcap, na, ns, ncap⟩ := C
  dsimp only at h1 h2 hl2 HE2 ⊢
  clear hC hE
  have B2 : ∀ o1 o2, Hid (Below w.heap.size w ((w.alloc o1).alloc o2)) := fun o1 o2 => ((Below.refl _ _).alloc (Nat.le_refl _) _).alloc (by simp) _
  have HX : ∀ o1 o2 w1, Hid (Below ((w.alloc o1).alloc o2).heap.size ((w.alloc o1).alloc o2) w1 → Below w.heap.size w w1) := fun o1 o2 w1 h => (B2 o1 o2).out.trans (h.mono (by simp; omega))
  have CF : Hid (∀ w1, Below ((w.alloc (.cells #[.slice ta tr.length tcap, .slice na ns.length ncap] 61)).alloc (.cells #[.slice none 0 0, .slice none 0 0] 61)).heap.size ((w.alloc (.cells #[.slice ta tr.length tcap, .slice na ns.length ncap] 61)).alloc (.cells #[.slice none 0 0, .slice none 0 0] 61)) w1 →
      w1.cell? ⟨w.heap.size, 0, none⟩ = some (.slice ta tr.length tcap) ∧ w1.cell? ⟨w.heap.size, 1, none⟩ = some (.slice na ns.length ncap) ∧
      w1.cell? ⟨w.heap.size + 1, 0, none⟩ = some (.slice none 0 0) ∧ w1.cell? ⟨w.heap.size + 1, 1, none⟩ = some (.slice none 0 0) ∧ (∀ o, w1.frozen? ⟨w.heap.size + 1, o, none⟩ = false) ∧ w.heap.size + 1 < w1.heap.size) := fun w1 hb => by
    refine ⟨(hb.cell (p := ⟨w.heap.size, 0, none⟩) (by simp; omega)).trans ?_, (hb.cell (p := ⟨w.heap.size, 1, none⟩) (by simp; omega)).trans ?_, (hb.cell (p := ⟨w.heap.size + 1, 0, none⟩) (by simp)).trans ?_, (hb.cell (p := ⟨w.heap.size + 1, 1, none⟩) (by simp)).trans ?_, fun o => (hb.frozen (p := ⟨w.heap.size + 1, o, none⟩) (by simp)).trans (World.frozen?_alloc_at _ _ _ _ (by simp)), by have := hb.size; simp at this; omega⟩
    · rw [World.cell?_alloc_past _ _ _ (by simp), World.cell?_alloc_at _ _ _ _ rfl]; rfl
    · rw [World.cell?_alloc_past _ _ _ (by simp), World.cell?_alloc_at _ _ _ _ rfl]; rfl
    · rw [World.cell?_alloc_at _ _ _ _ (by simp)]; rfl
    · rw [World.cell?_alloc_at _ _ _ _ (by simp)]; rfl
  by_cases hz : chF tr ns = 0
  · have hz' := chF_zero hz
    rw [hz] at h1
    have HE3 : Hid (E = if 20 ≤ ns.length then 7 else 0) := by show _ = _; rw [HE2.out, if_pos hz]
    clear HE2 hz
    by_cases h20 : 20 ≤ ns.length
    · obtain rfl : E = 7 := by rw [HE3.out, if_pos h20]
      have e20 : ns.length = 20 := by omega
      clear HE3 h2
      rw [if_neg (by omega), if_neg (by omega)]
      have e20' : ((ns.length : Int) == 20) = true := by rw [e20]; rfl
      have e21 : decide ((20 : Int) ≤ (ns.length : Int)) = true := by simp; omega
      have e22 : (20 : Int) ≤ (ns.length : Int) := by omega
      have HEQ : Hid (ns.length = 20) := e20
      clear e20 h20 hz'
      go_enter Try.func55, Try.ntmps55
      go_wp2_with (go_at_call 50; refine (h1 _ (B2 _ _).out).mono ?_; rintro x w1 ⟨rfl, hb1⟩; obtain ⟨m0, m1, r0, r1, rf, rl⟩ := CF.out w1 hb1; have HB1 : Hid (Below w.heap.size w w1) := (HX _ _ _).out hb1; have rf0 := rf 0; have rf1 := rf 1; clear hb1 CF)
      obtain ⟨k0, k1⟩ := blk2 (v0 := .slice none 0 0) (v1 := .slice none 0 0) r0 r1
      (try simp only [Exit.inBlock, Exit.then])
      refine bodyPost_ret (by simp [results, Try.results55, go_sem, k0, k1]; try rfl) rfl ?_
      exact ⟨noC, rfl, Cv.Same.refl _, noC_own _ _, (HB1.out.setCell (by simp) _).setCell (by simp) _⟩
    · obtain rfl : E = 0 := by rw [HE3.out, if_neg h20]
      clear HE3
      rw [if_pos rfl, if_pos rfl]
      have e20' : ((ns.length : Int) == 20) = false := by simp; omega
      have e22 : ¬ (20 : Int) ≤ (ns.length : Int) := by omega
      have HL : Hid (ns.length < 20) := by show _ < _; omega
      clear h20 hz'
      go_enter Try.func55, Try.ntmps55
      go_wp2_with (first
        | (go_at_call 50; refine (h1 _ (B2 _ _).out).mono ?_; rintro x w1 ⟨rfl, hb1⟩; obtain ⟨m0, m1, r0, r1, rf, rl⟩ := CF.out w1 hb1; have HB1 : Hid (Below w.heap.size w w1) := (HX _ _ _).out hb1; clear hb1 CF)
        | (go_at_call 53; refine (h2 _ HB1.out).mono ?_; rintro x w2 ⟨N, rfl, hS, hO, hb2⟩; obtain ⟨nta, ntr, ntcap, nna, nns, nncap⟩ := N; have HSN : Hid (_) := hS; have HON : Hid (_) := hO; have HB2 : Hid (_) := hb2
           obtain ⟨g, cap8, w8, hr8, own8, gne, hbox, bel8⟩ := nonce_more hO hb2.size (by have := hS.ns; dsimp only at this ⊢; rw [this]; exact HL.out) (.cells #[.slice nta ntr.length ntcap, .slice nna nns.length nncap] 61)
           dsimp only at hr8 own8
           have HR8 : Hid (_) := hr8
           have HO8 : Hid (_) := own8
           have HBX : Hid (_) := hbox
           have HB8 : Hid (_) := bel8
           have R0 : w8.cell? ⟨w.heap.size + 1, 0, none⟩ = some (.slice none 0 0) := ((bel8.cell (p := ⟨w.heap.size + 1, 0, none⟩) rl).trans (hb2.cell (p := ⟨w.heap.size + 1, 0, none⟩) rl)).trans r0
           have R1 : w8.cell? ⟨w.heap.size + 1, 1, none⟩ = some (.slice none 0 0) := ((bel8.cell (p := ⟨w.heap.size + 1, 1, none⟩) rl).trans (hb2.cell (p := ⟨w.heap.size + 1, 1, none⟩) rl)).trans r1
           have RF : ∀ o, w8.frozen? ⟨w.heap.size + 1, o, none⟩ = false := fun o => ((bel8.frozen (p := ⟨w.heap.size + 1, o, none⟩) rl).trans (hb2.frozen (p := ⟨w.heap.size + 1, o, none⟩) rl)).trans (rf o)
           have RF0 := RF 0
           have RF1 := RF 1
           have X0 : w8.cell? ⟨w2.heap.size, 0, none⟩ = some (.slice nta ntr.length ntcap) := by simp [World.cell?, hbox]
           have X1 : w8.cell? ⟨w2.heap.size, 1, none⟩ = some (.slice nna nns.length nncap) := by simp [World.cell?, hbox]
           have XF1 : w8.frozen? ⟨w2.heap.size, 1, none⟩ = false := frozen_of_block hbox 1
           have RL : w.heap.size + 1 < w8.heap.size := lt_of_cell R0
           have XL : w2.heap.size < w8.heap.size := lt_of_cell X0
           have RX : w.heap.size + 1 ≠ w2.heap.size := by have := hb2.size; omega
           clear hS hO hb2 m0 m1 r0 r1 rf hr8 own8 hbox bel8 RF; dsimp only)
        | (at_builtin; refine wpList_append_eq rfl (.tmp 24) (.tmp 25) 22 rfl _ _ _ rfl rfl HR8.out ?_)
        | fail)
      obtain ⟨V9, hV9⟩ : ∃ V9, Hid (V9 = w8.setCell ⟨w2.heap.size, 1, none⟩ (.slice (some ⟨g, 0, none⟩) (nns.length + 1) cap8)) := ⟨_, rfl⟩
      rw [← hV9.out]
      have Y0 : V9.cell? ⟨w2.heap.size, 0, none⟩ = some (.slice nta ntr.length ntcap) := by rw [hV9.out, World.cell?_setCell_other _ _ _ _ (by simp)]; exact X0
      have Y1 : V9.cell? ⟨w2.heap.size, 1, none⟩ = some (.slice (some ⟨g, 0, none⟩) (nns.length + 1) cap8) := by rw [hV9.out]; exact World.cell?_setCell_same _ _ _ X1
      have S0 : V9.cell? ⟨w.heap.size + 1, 0, none⟩ = some (.slice none 0 0) := by rw [hV9.out, World.cell?_setCell_other _ _ _ _ (by first | (simp; done) | (simp; omega))]; exact R0
      have S1 : V9.cell? ⟨w.heap.size + 1, 1, none⟩ = some (.slice none 0 0) := by rw [hV9.out, World.cell?_setCell_other _ _ _ _ (by first | (simp; done) | (simp; omega))]; exact R1
      have SF0 : V9.frozen? ⟨w.heap.size + 1, 0, none⟩ = false := by rw [hV9.out, World.frozen?_setCell]; exact RF0
      have SF1 : V9.frozen? ⟨w.heap.size + 1, 1, none⟩ = false := by rw [hV9.out, World.frozen?_setCell]; exact RF1
      have H9 : Hid (∀ b, b ≠ w2.heap.size → V9.heap[b]? = w8.heap[b]?) := fun b hb => by rw [hV9.out, Below.heap_setCell _ _ _ _ hb]
      have s12 := HB1.out.size
      have s23 := HB2.out.size
      have HO9 : Hid (COwn w1.heap.size V9 ⟨nta, ntr, ntcap, some ⟨g, 0, none⟩, nns ++ [0], cap8⟩) := by
        have q := HO8.out
        have lT := ownsRow_block HON.out.tr
        exact ⟨ownsRow_keep q.tr fun b o s e => H9.out b (by have := (lT b o s e).2.1; omega), ownsRow_keep q.ns fun b o s e => H9.out b (by simp only [Option.some.injEq, Addr.mk.injEq] at e; omega), q.off, q.ok⟩
      have HB9 : Hid (Below w.heap.size w V9) := by
        show Below _ _ _
        rw [hV9.out]
        exact ((HB1.out.trans (HB2.out.mono s12)).trans (HB8.out.mono s12)).setCell (by dsimp only; omega) _
      have L1 : w.heap.size + 1 < V9.heap.size := lt_of_cell S0
      have L2 : w2.heap.size < V9.heap.size := lt_of_cell Y0
      clear hV9 X0 X1 XF1 R0 R1 RF0 RF1 RL XL HR8 HBX H9 HO8 HB8
      go_big_region
      all_goals
        go_wp2_with fail
        refine bp_gen fun V10 hV10 => ?_
        obtain ⟨k0, k1, bb⟩ := two0 (by simp) S0 S1 HB9.out hV10
        have HK : Hid (∀ b, b ≠ w.heap.size + 1 → V10.heap[b]? = V9.heap[b]?) := fun b hb => by rw [hV10]; show (sets _ _ _ _).heap[b]? = _; unfold sets; rw [Below.heap_setCell _ _ _ _ hb, Below.heap_setCell _ _ _ _ hb]
        clear hV10
        (try simp only [Exit.inBlock, Exit.then])
        refine bodyPost_ret (by simp [results, Try.results55, go_sem, k0, k1]; try rfl) rfl ?_
        have q := HO9.out
        have lT := ownsRow_block q.tr
        have lN := ownsRow_block q.ns
        have eT := HSN.out.tr
        have eN := HSN.out.ns
        dsimp only at eT eN
        subst eT eN
        refine ⟨⟨nta, ntr, ntcap, some ⟨g, 0, none⟩, nns ++ [0], cap8⟩, by simp, ⟨rfl, rfl⟩, COwn.mono ⟨ownsRow_keep q.tr fun b o s e => HK.out b (by have := (lT b o s e).1; omega), ownsRow_keep q.ns fun b o s e => HK.out b (by have := (lN b o s e).1; omega), q.off, q.ok⟩ s12, bb⟩
  · have hz1 : (chF tr ns != 0) = true := by simpa using hz
    have hz0 : (chF tr ns == 0) = false := by simpa using hz
    obtain rfl : E = chF tr ns := by rw [HE2.out, if_neg hz]
    rw [if_neg hz, if_neg hz]
    clear HE2 hz h2
    generalize chF tr ns = z at h1 hz1 hz0 ⊢
    go_enter Try.func55, Try.ntmps55
    go_wp2_with (go_at_call 50; refine (h1 _ (B2 _ _).out).mono ?_; rintro x w1 ⟨rfl, hb1⟩; obtain ⟨m0, m1, r0, r1, rf, rl⟩ := CF.out w1 hb1; have HB1 : Hid (Below w.heap.size w w1) := (HX _ _ _).out hb1; have rf0 := rf 0; have rf1 := rf 1; clear hb1 CF)
    obtain ⟨k0, k1⟩ := blk2 (v0 := .slice none 0 0) (v1 := .slice none 0 0) r0 r1
    (try simp only [Exit.inBlock, Exit.then])
    refine bodyPost_ret (by simp [results, Try.results55, go_sem, k0, k1]; try rfl) rfl ?_
    exact ⟨noC, rfl, Cv.Same.refl _, noC_own _ _, (HB1.out.setCell (by simp) _).setCell (by simp) _⟩

end Go.Proofs.Ytdbbiibnhgcndaa
