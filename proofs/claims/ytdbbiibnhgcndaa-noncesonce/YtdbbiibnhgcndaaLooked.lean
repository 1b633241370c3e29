/-
  What the call LookedOf (riddleref) answers: the nonce is back, or what is refused, in memory of its own; it turns nothing that was in memory. The condition: the lists are within the reach of the form.
-/
import Derived.Test.YtdbbiibnhgcndaaLook
import Derived.Deep.QuietTactic
import Derived.BigQuiet
namespace Go.Proofs.Ytdbbiibnhgcndaa
open Go.RowKit

theorem any_takeC {α : Type} [Inhabited α] (p : α → Bool) (xs : List α) (k : Nat) (hk : k < xs.length) : (xs.take (k + 1)).any p = ((xs.take k).any p || p (xs.getD k default)) := by
  rw [List.take_add_one, List.any_append]
  simp [List.getD_eq_getElem?_getD, hk]
theorem any_whole {α : Type} (p : α → Bool) (xs : List α) : (xs.take xs.length).any p = xs.any p := by rw [List.take_length]

set_option maxRecDepth 100000 in
set_option maxHeartbeats 8000000 in
theorem lookedOf_any (C : Cv) (ma : Option Addr) (made : List Qu) (mcap : Nat) (q : Qu) (w : World) (hC : ChalAt w C) (hF : C.Fits) (hml : made.length ≤ maxLen) (hm : RowsAt w 2 Qu.cells ma made) (hq : q.Ok) :
    Calls Try.prog 57 #[C.val, .slice ma made.length mcap, .agg #[.string q.log, .int .i64 q.data]] w fun x w' => ∃ N : Cv, x = .returned (.tuple #[N.val, .int .i64 (lookE C made q)]) ∧ N.Same (lookC C made q) ∧ COwn w.heap.size w' N ∧ Below w.heap.size w w' := by
  have h1 := fun w' (h : Below w.heap.size w w') => faultC_any C w' (hC.below h)
  have h2 := fun w' (h : Below w.heap.size w w') => ccopy_any C w' (hC.below h) hF
  have HM : Hid (∀ w', Below w.heap.size w w' → RowsAt w' 2 Qu.cells ma made) := fun w' h => RowsAt.below (cells := Qu.cells) (fun _ => rfl) hm h
  have HT : Hid (∀ w', Below w.heap.size w w' → Texts w' C.ta C.tr) := fun w' h => hC.tr.below h
  have HN : Hid (∀ w', Below w.heap.size w w' → Ints w' C.na C.ns) := fun w' h => hC.ns.below h
  have hwd := i64_wf hq.wd
  have hl := hC.ok.nsl
  have hl1 := hC.ok.trl
  unfold maxLen at hl hl1 hml
  unfold lookC backC
  obtain ⟨X, hX⟩ : ∃ X, Hid (lookE C made q = X) := ⟨_, rfl⟩
  rw [hX.out]
  unfold lookE at hX
  unfold Cv.val at *
  obtain ⟨ta, tr, tcap, na, ns, ncap⟩ := C
  obtain ⟨ql, qd⟩ := q
  dsimp only at *
  clear hC hm hq hF
  have B3 : ∀ o1 o2 o3, Hid (Below w.heap.size w (((w.alloc o1).alloc o2).alloc o3)) := fun o1 o2 o3 => a3B _ _ _ _
  have HX : ∀ o1 o2 o3 w1, Hid (Below (((w.alloc o1).alloc o2).alloc o3).heap.size (((w.alloc o1).alloc o2).alloc o3) w1 → Below w.heap.size w w1) := fun o1 o2 o3 w1 h => (B3 o1 o2 o3).out.trans (h.mono (by simp; omega))
  by_cases hz : chF tr ns = 0
  · replace hX : Hid ((if made.any (fun m => qeq m ⟨ql, qd⟩) = true then (if 1 ≤ qd ∧ qd ≤ (ns.length : Int) then (if ns.getD (qd - 1).toNat 0 = 1 then (6 : Int) else if tr.any (fun t => teq t ql) = true then 0 else 11) else 5) else 4) = X) := by show _ = _; rw [← hX.out, if_pos hz]
    rw [hz] at h1
    clear hz
    go_enter Try.func57, Try.ntmps57
    go_wp2_with (go_at_call 50; refine (h1 _ (B3 _ _ _).out).mono ?_; rintro x w1 ⟨rfl, hb1⟩; obtain ⟨m0, m1, u0, u1, r0, r1, rf, rl⟩ := boxes_look hb1; have HB1 : Hid (Below w.heap.size w w1) := (HX _ _ _ _).out hb1; have CH : Hid (∀ w', Below w1.heap.size w1 w' → w'.cell? ⟨w.heap.size, 0, none⟩ = some (.slice ta tr.length tcap) ∧ w'.cell? ⟨w.heap.size, 1, none⟩ = some (.slice na ns.length ncap) ∧ w'.cell? ⟨w.heap.size + 1, 0, none⟩ = some (.string ql) ∧ w'.cell? ⟨w.heap.size + 1, 1, none⟩ = some (.int .i64 qd) ∧ w'.cell? ⟨w.heap.size + 1 + 1, 0, none⟩ = some (.slice none 0 0) ∧ w'.cell? ⟨w.heap.size + 1 + 1, 1, none⟩ = some (.slice none 0 0) ∧ (∀ o, w'.frozen? ⟨w.heap.size + 1 + 1, o, none⟩ = false) ∧ w.heap.size + 1 + 1 < w'.heap.size) := fun w' h => ⟨(h.cell (p := ⟨w.heap.size, 0, none⟩) (by dsimp only; omega)).trans m0, (h.cell (p := ⟨w.heap.size, 1, none⟩) (by dsimp only; omega)).trans m1, (h.cell (p := ⟨w.heap.size + 1, 0, none⟩) (by dsimp only; omega)).trans u0, (h.cell (p := ⟨w.heap.size + 1, 1, none⟩) (by dsimp only; omega)).trans u1, (h.cell (p := ⟨w.heap.size + 1 + 1, 0, none⟩) (by dsimp only; omega)).trans r0, (h.cell (p := ⟨w.heap.size + 1 + 1, 1, none⟩) (by dsimp only; omega)).trans r1, fun o => (h.frozen (p := ⟨w.heap.size + 1 + 1, o, none⟩) (by dsimp only; omega)).trans (rf o), Nat.lt_of_lt_of_le rl h.size⟩; clear hb1 m0 m1 u0 u1 r0 r1 rf rl)
    clear h1 HX B3
    go_loopw [9, 10] (fun t i wr => ∃ (k : Nat) (b : Bool), k ≤ made.length ∧ t = .bool b ∧ i = .int .i64 k ∧ Below w1.heap.size w1 wr ∧ Hid (b = (made.take k).any (fun m => qeq m ⟨ql, qd⟩))) (fun _ i _ => made.length - (intOf i).toNat)
    case atStart => exact ⟨0, false, Nat.zero_le _, rfl, rfl, Below.refl _ _, rfl⟩
    case round =>
      obtain ⟨k, b, hk, rfl, rfl, hbel, hid⟩ := hrel
      obtain ⟨-, -, t0, t1, -⟩ := CH.out wr hbel
      by_cases hlt : k < made.length
      · rcases HM.out wr (HB1.out.trans (hbel.mono HB1.out.size)) with e | ⟨mb, mo, e, hc⟩
        · rw [e] at hlt; simp at hlt
        subst e
        have c0' := hc k hlt 0 (by omega)
        have c1' := hc k hlt 1 (by omega)
        obtain ⟨P, hP⟩ : ∃ P, made.getD k default = P := ⟨_, rfl⟩
        rw [hP] at c0' c1'
        have HP : Hid (made.getD k default = P) := hP
        clear hP hc
        obtain ⟨pl, pd⟩ := P
        have c0 : wr.cell? ⟨mb, mo + k * 2, none⟩ = some (.string pl) := c0'
        have c1 : wr.cell? ⟨mb, mo + k * 2 + 1, none⟩ = some (.int .i64 pd) := c1'
        clear c0' c1'
        have hE : ∀ w', (Op.equalIn 10000 69 (.agg #[.string pl, .int .i64 pd]) (.agg #[.string ql, .int .i64 qd])).run Try.prog w' = .ok (qeq ⟨pl, pd⟩ ⟨ql, qd⟩) w' := fun w' => eq_quote 9998 pl ql pd qd w'
        have HK : Hid ((made.take (k + 1)).any (fun m => qeq m ⟨ql, qd⟩) = (b || qeq ⟨pl, pd⟩ ⟨ql, qd⟩)) := by show _ = _; rw [any_takeC _ _ _ hlt, ← hid.out, HP.out]
        generalize qeq ⟨pl, pd⟩ ⟨ql, qd⟩ = z at hE HK
        clear hid h2
        cases b with
        | true =>
          go_wp2
          go_quiet (fail)
          go_wp2
          go_roundw
          case rel => exact ⟨k + 1, _, by omega, rfl, by go_num, below_drewN hbel _, by show _ = _; rw [HK.out]; rfl⟩
          case measure => simp [intOf]; omega
        | false =>
          go_wp2
          go_quiet (fail)
          go_wp2
          go_roundw
          case rel => exact ⟨k + 1, _, by omega, rfl, by go_num, below_drewN hbel _, by show _ = _; rw [HK.out]; rfl⟩
          case measure => simp [intOf]; omega
      · have hkl : k = made.length := by omega
        subst hkl
        have hid' := hid.out
        rw [any_whole] at hid'
        rw [← hid'] at hX
        clear hid hid' HM
        rename World => wz
        cases b with
        | false =>
          obtain rfl : X = 4 := by rw [← hX.out]; rfl
          obtain ⟨-, -, -, -, s0, s1, sf, sl⟩ := CH.out wz hbel
          have sf0 := sf 0
          have sf1 := sf 1
          clear h2 hX
          go_wp2
          obtain ⟨k0, k1⟩ := blk2 (v0 := .slice none 0 0) (v1 := .slice none 0 0) s0 s1
          (try simp only [Exit.inBlock, Exit.then])
          refine bodyPost_ret (by simp [results, Try.results57, go_sem, k0, k1]; try rfl) rfl ?_
          exact ⟨noC, rfl, Cv.Same.refl _, noC_own _ _, ((HB1.out.trans (hbel.mono HB1.out.size)).setCell (by dsimp only; omega) _).setCell (by dsimp only; omega) _⟩
        | true =>
          replace hX : Hid ((if 1 ≤ qd ∧ qd ≤ (ns.length : Int) then (if ns.getD (qd - 1).toNat 0 = 1 then (6 : Int) else if tr.any (fun t => teq t ql) = true then 0 else 11) else 5) = X) := by show _ = _; rw [← hX.out, if_pos rfl]
          cases hI : inB qd 1 (ns.length : Int) with
          | false =>
            obtain rfl : X = 5 := by rw [← hX.out, if_neg (fun q => by rw [inB_true q.1 q.2] at hI; cases hI)]
            obtain ⟨v0, v1, t0, t1, s0, s1, sf, sl⟩ := CH.out wz hbel
            have sf0 := sf 0
            have sf1 := sf 1
            clear h2 hX
            go_wp2_with (go_at_call 61; refine (in_any _ _ _ _).mono ?_; rw [hI]; rintro e w' ⟨rfl, rfl⟩)
            obtain ⟨k0, k1⟩ := blk2 (v0 := .slice none 0 0) (v1 := .slice none 0 0) s0 s1
            (try simp only [Exit.inBlock, Exit.then])
            refine bodyPost_ret (by simp [results, Try.results57, go_sem, k0, k1]; try rfl) rfl ?_
            exact ⟨noC, rfl, Cv.Same.refl _, noC_own _ _, ((HB1.out.trans (hbel.mono HB1.out.size)).setCell (by dsimp only; omega) _).setCell (by dsimp only; omega) _⟩
          | true =>
            have q := inB_iff.1 hI
            replace hX : Hid ((if ns.getD (qd - 1).toNat 0 = 1 then (6 : Int) else if tr.any (fun t => teq t ql) = true then 0 else 11) = X) := by show _ = _; rw [← hX.out, if_pos (show 1 ≤ qd ∧ qd ≤ (ns.length : Int) from q)]
            obtain ⟨m, hqd⟩ : ∃ m : Nat, qd = (m : Int) + 1 := ⟨(qd - 1).toNat, by omega⟩
            subst hqd
            have hmn : m < ns.length := by omega
            rw [show ((m : Int) + 1 - 1).toNat = m by omega] at hX
            have hwm : IntKind.i64.wrap ((m : Int) + 1 - 1) = (m : Int) := by rw [IntKind.wrap_i64]; omega
            have k3 : (m : Int) < (ns.length : Int) := by omega
            obtain ⟨v0, v1, t0, t1, s0, s1, sf, sl⟩ := CH.out wz hbel
            obtain ⟨nb, no, hna, hc⟩ : ∃ nb no, na = some ⟨nb, no, none⟩ ∧ wz.cell? ⟨nb, no + m, none⟩ = some (.int .i64 (ns.getD m 0)) := by
              rcases HN.out wz (HB1.out.trans (hbel.mono HB1.out.size)) with e | ⟨nb, no, e, hc⟩
              · rw [e] at hmn; simp at hmn
              · exact ⟨nb, no, e, hc m hmn⟩
            subst hna
            have HMN : Hid (m < ns.length) := hmn
            obtain ⟨v, hv⟩ : ∃ v, Hid (ns.getD m 0 = v) := ⟨_, rfl⟩
            rw [hv.out] at hc hX
            clear HN q hmn hv
            by_cases hv : v = 1
            · subst hv
              obtain rfl : X = 6 := by rw [← hX.out, if_pos rfl]
              have sf0 := sf 0
              have sf1 := sf 1
              clear h2 hX sf
              go_wp2_with (go_at_call 61; refine (in_any _ _ _ _).mono ?_; rw [hI]; rintro e w' ⟨rfl, rfl⟩)
              obtain ⟨k0, k1⟩ := blk2 (v0 := .slice none 0 0) (v1 := .slice none 0 0) s0 s1
              (try simp only [Exit.inBlock, Exit.then])
              refine bodyPost_ret (by simp [results, Try.results57, go_sem, k0, k1]; try rfl) rfl ?_
              exact ⟨noC, rfl, Cv.Same.refl _, noC_own _ _, ((HB1.out.trans (hbel.mono HB1.out.size)).setCell (by dsimp only; omega) _).setCell (by dsimp only; omega) _⟩
            · have hv1 : (v == 1) = false := by simpa using hv
              replace hX : Hid ((if tr.any (fun t => teq t ql) = true then (0 : Int) else 11) = X) := by show _ = _; rw [← hX.out, if_neg hv]
              clear hv sf s0 s1
              go_wp2_with (go_at_call 61; refine (in_any _ _ _ _).mono ?_; rw [hI]; rintro e w' ⟨rfl, rfl⟩)
              go_loopw [11] (fun i wr => ∃ k : Nat, k ≤ tr.length ∧ i = .int .i64 k ∧ Below w1.heap.size w1 wr ∧ Hid (∀ j, j < k → teq (tr.getD j default) ql = false)) (fun i _ => tr.length - (intOf i).toNat)
              case atStart => exact ⟨0, Nat.zero_le _, rfl, hbel, fun j hj => absurd hj (by omega)⟩
              case round =>
                clear v0 v1 t0 t1 hc sl hbel
                obtain ⟨k, hk, rfl, hbel, hid⟩ := hrel
                have HBW : Hid (Below w.heap.size w wr) := HB1.out.trans (hbel.mono HB1.out.size)
                obtain ⟨v0, v1, t0, t1, s0, s1, sf, sl⟩ := CH.out wr hbel
                by_cases hlt : k < tr.length
                · rcases HT.out wr HBW.out with e | ⟨xb, xo, e, hc⟩
                  · rw [e] at hlt; simp at hlt
                  subst e
                  have c0 := hc k hlt
                  obtain ⟨P, hP⟩ : ∃ P, tr.getD k default = P := ⟨_, rfl⟩
                  rw [hP] at c0
                  have HP : Hid (tr.getD k default = P) := hP
                  clear hP hc
                  cases hE : (P.toList == ql.toList) with
                  | false =>
                    have HK : Hid (teq (tr.getD k default) ql = false) := by show _ = _; rw [HP.out]; exact hE
                    clear sf s0 s1 h2
                    go_wp2
                    go_quiet (fail)
                    go_wp2
                    go_roundw
                    case rel => exact ⟨k + 1, by omega, by go_num, below_drewN hbel _, snoc_false (p := fun t => teq t ql) hid HK.out⟩
                    case measure => simp [intOf]; omega
                  | true =>
                    obtain rfl : X = 0 := by rw [← hX.out, if_pos (any_at (p := fun t => teq t ql) hlt (by rw [HP.out]; exact hE))]
                    have H2 := fun n => h2 (wr.drewN n) (below_drewN HBW.out n)
                    have HBD : Hid (∀ n, Below w1.heap.size w1 (wr.drewN n)) := fun n => below_drewN hbel n
                    clear h2 hX
                    go_wp2
                    go_quiet (fail)
                    go_wp2_with (go_at_call 53; refine (H2 _).mono ?_; rintro x w2 ⟨N, rfl, hS, hO, hb2⟩; obtain ⟨nta, ntr, ntcap, nna, nns, nncap⟩ := N
                                 obtain ⟨eT, eN⟩ := hS
                                 dsimp only at eT eN
                                 subst eT eN
                                 replace hO := hO.mono (HBD.out _).size
                                 replace hb2 := (HBD.out _).trans (hb2.mono (HBD.out _).size)
                                 obtain ⟨g, cp, hv, hg1, hg2⟩ := hO.ns.form (by dsimp only; have := HMN.out; omega)
                                 simp only [Value.slice.injEq] at hv
                                 obtain ⟨hv1, _, hv3⟩ := hv
                                 subst hv1 hv3
                                 have HON : Hid (_) := hO
                                 have HB2 : Hid (_) := hb2
                                 have g0 : ∃ y, w2.cell? ⟨g, m, none⟩ = some y := by
                                   have := hO.at_.ns
                                   rcases this with e | ⟨b, off, e, hc⟩
                                   · dsimp only at e; have := HMN.out; rw [e] at this; simp at this
                                   · simp only [Option.some.injEq, Addr.mk.injEq, and_true] at e
                                     obtain ⟨rfl, rfl⟩ := e
                                     have := hc m HMN.out
                                     rw [Nat.zero_add] at this
                                     exact ⟨_, this⟩
                                 obtain ⟨y, g0⟩ := g0
                                 have gf : w2.frozen? ⟨g, m, none⟩ = false := (ownsRow_block hO.ns g 0 none rfl).2.2 m
                                 obtain ⟨-, -, U0, U1, R0, R1, RF, RL⟩ := CH.out w2 hb2
                                 have RF0 := RF 0
                                 have RF1 := RF 1
                                 have UL : w.heap.size + 1 < w2.heap.size := lt_of_cell U1
                                 have hgl : g < w2.heap.size := hg2
                                 have RW1 : Hid (w.heap.size + 1 + 1 < w1.heap.size) := (CH.out w1 (Below.refl _ _)).2.2.2.2.2.2.2
                                 have hgne : g ≠ w.heap.size + 1 + 1 := by have := RW1.out; omega
                                 have hgne' : g ≠ w2.heap.size := by omega
                                 clear hO hb2 v0 v1 t0 t1 s0 s1 sf sl RF hg1 hg2; dsimp only)
                    refine bp_gen fun V9 hV9 => ?_
                    obtain ⟨k0, k1, hO9, hB9⟩ := look_end HON.out rfl HMN.out RW1.out R0 R1 (by omega) (HB1.out.trans (HB2.out.mono HB1.out.size)) hV9
                    clear hV9
                    (try simp only [Exit.inBlock, Exit.then])
                    refine bodyPost_ret (by simp [results, Try.results57, go_sem, k0, k1]; try rfl) rfl ?_
                    exact ⟨⟨nta, ntr, ntcap, some ⟨g, 0, none⟩, nns.set m 1, nncap⟩, by simp, ⟨rfl, rfl⟩, hO9.mono HB1.out.size, hB9⟩
                · have hkl : k = tr.length := by omega
                  subst hkl
                  obtain rfl : X = 11 := by rw [← hX.out, any_none (p := fun t => teq t ql) hid.out]; rfl
                  have sf0 := sf 0
                  have sf1 := sf 1
                  clear h2 hX sf
                  go_wp2
                  obtain ⟨k0, k1⟩ := blk2 (v0 := .slice none 0 0) (v1 := .slice none 0 0) s0 s1
                  (try simp only [Exit.inBlock, Exit.then])
                  refine bodyPost_ret (by simp [results, Try.results57, go_sem, k0, k1]; try rfl) rfl ?_
                  exact ⟨noC, rfl, Cv.Same.refl _, noC_own _ _, ((HB1.out.trans (hbel.mono HB1.out.size)).setCell (by dsimp only; omega) _).setCell (by dsimp only; omega) _⟩
  · obtain rfl : X = chF tr ns := by rw [← hX.out, if_neg hz]
    have hz1 : (chF tr ns != 0) = true := by simpa using hz
    rw [if_neg hz]
    clear hX hz h2
    generalize chF tr ns = z at h1 hz1 ⊢
    go_enter Try.func57, Try.ntmps57
    go_wp2_with (go_at_call 50; refine (h1 _ (B3 _ _ _).out).mono ?_; rintro x w1 ⟨rfl, hb1⟩; obtain ⟨m0, m1, u0, u1, s0, s1, sf, sl⟩ := boxes_look hb1; have HB1 : Hid (Below w.heap.size w w1) := (HX _ _ _ _).out hb1; have sf0 := sf 0; have sf1 := sf 1; clear hb1)
    obtain ⟨k0, k1⟩ := blk2 (v0 := .slice none 0 0) (v1 := .slice none 0 0) s0 s1
    (try simp only [Exit.inBlock, Exit.then])
    refine bodyPost_ret (by simp [results, Try.results57, go_sem, k0, k1]; try rfl) rfl ?_
    exact ⟨noC, rfl, Cv.Same.refl _, noC_own _ _, ((HB1.out).setCell (by dsimp only; omega) _).setCell (by dsimp only; omega) _⟩

end Go.Proofs.Ytdbbiibnhgcndaa
