/-
  What the calls Remove (epc) and RemovedOf (riddleref) answer for every machine and enclave: both what the document asks, in memory of their own; they turn nothing that was in memory. The condition: the lists are within the reach of the form.
-/
import Derived.Test.YtdbbiibnhgcndaaShared
import Derived.Test.YtdbbiibnhgcndaaOwnNew
namespace Go.Proofs.Ytdbbiibnhgcndaa
open Go.RowKit

/-- the loop of Remove: the first k frames are done; the answer's variable, and the new machine's, are as they were -/
structure RemLoop (n1 : Nat) (w W4 wr : World) (s2 : Nat) (A M : Mv) (e : Int) (k : Nat) : Prop where
  fr : ∃ frs', Owned n1 wr { A with frs := frs' } ∧ RemTo { A with frs := frs' } M e k
  bel : Below w.heap.size w wr
  res : wr.heap[w.heap.size + 1]? = W4.heap[w.heap.size + 1]?
  box : wr.heap[s2]? = W4.heap[s2]?
  sz : W4.heap.size ≤ wr.heap.size
theorem RemLoop.drew {n1 : Nat} {w W4 wr : World} {s2 : Nat} {A M : Mv} {e : Int} {k : Nat} (h : RemLoop n1 w W4 wr s2 A M e k) : RemLoop n1 w W4 wr.drew s2 A M e k := by
  obtain ⟨frs', h1, h2⟩ := h.fr
  exact ⟨⟨frs', h1.keep (fun _ _ _ => rfl) (Nat.le_refl _), h2⟩, h.bel.drew, h.res, h.box, h.sz⟩

set_option maxRecDepth 100000 in
set_option maxHeartbeats 4000000 in
theorem remove_any (M : Mv) (e : Int) (w : World) (hM : MachAt w M) (hF : M.Fits) :
    Calls Try.prog 43 #[M.val, .int .i64 e] w fun x w' => ∃ N : Mv, x = .returned (.tuple #[N.val, .int .i64 (askF M e (-1))]) ∧ N.Same (remM M e) ∧ Owned w.heap.size w' N ∧ Below w.heap.size w w' := by
  have h1 := fun w' (h : Below w.heap.size w w') => checkEnclave_any M e w' (hM.below h)
  have h2 := fun w' (h : Below w.heap.size w w') => copyM_any M w' (hM.below h) hF
  obtain ⟨RM, hRM⟩ : ∃ RM, Hid (RM = remM M e) := ⟨_, rfl⟩
  rw [← hRM.out]
  have HM : Hid (MachAt w M) := hM
  unfold Mv.val at h1 h2 ⊢
  obtain ⟨fa, frs, fcap, ea, ens, ecap, qa, qus, qcap⟩ := M
  dsimp only at h1 h2 ⊢
  have B2 : ∀ o1 o2, Hid (Below w.heap.size w ((w.alloc o1).alloc o2)) := fun o1 o2 => ((Below.refl _ _).alloc (Nat.le_refl _) _).alloc (by simp) _
  have HX : ∀ o1 o2 w1, Hid (Below ((w.alloc o1).alloc o2).heap.size ((w.alloc o1).alloc o2) w1 → Below w.heap.size w w1) := fun o1 o2 w1 h => (B2 o1 o2).out.trans (h.mono (by simp; omega))
  have CF : Hid (_) := boxes_at w (.slice fa frs.length fcap) (.slice ea ens.length ecap) (.slice qa qus.length qcap)
  by_cases hz : askF ⟨fa, frs, fcap, ea, ens, ecap, qa, qus, qcap⟩ e (-1) = 0
  · have HZ : Hid (askF ⟨fa, frs, fcap, ea, ens, ecap, qa, qus, qcap⟩ e (-1) = 0) := hz
    obtain ⟨g0, m, rfl, hm4, _, _⟩ := askF_zero hz
    have HS24 : Hid (frs.length = 24) := (machF_sizes g0).1
    have HS4 : Hid (ens.length = 4) := (machF_sizes g0).2.1
    rw [hz] at h1 ⊢
    have hwm : IntKind.i64.wrap ((m : Int) + 1 - 1) = (m : Int) := by rw [IntKind.wrap_i64]; omega
    clear hM hF hz g0
    go_enter Try.func43, Try.ntmps43
    go_wp2_with (first
      | (go_at_call 83; refine (h1 _ (B2 _ _).out).mono ?_; rintro x w1 ⟨rfl, hb1⟩; obtain ⟨m0, m1, m2, r0, r1, r2, rf, rl⟩ := CF.out w1 hb1; have HB1 : Hid (Below w.heap.size w w1) := (HX _ _ _).out hb1; have rf0 := rf 0; have rf1 := rf 1; have rf2 := rf 2; clear hb1 CF)
      | (go_at_call 37; refine (h2 _ HB1.out).mono ?_; rintro x w2 ⟨N, rfl, hS, hO, hb2⟩; obtain ⟨nfa, nfrs, nfcap, nea, nens, necap, nqa, nqus, nqcap⟩ := N; have HSN : Hid (_) := hS; have HON : Hid (_) := hO; have HB2 : Hid (_) := hb2; have hnl : nens.length = 4 := (by have := hS.en; dsimp only at this; rw [this]; exact HS4.out); have hnf : nfrs.length = 24 := (by have := hS.len; dsimp only at this; rw [this]; exact HS24.out); obtain ⟨nb, no, hnfa, _⟩ := hO.at_.frame (j := 0) (by dsimp only; omega); obtain ⟨eb, eo, hnea, e0, e1, e2, e3, e4, e5, e6⟩ := hO.at_.enclave (j := m) (by dsimp only; omega); dsimp only at hnfa hnea e0 e1 e2 e3 e4 e5 e6; subst hnfa hnea; have nn := hO.ne eb eo none rfl; have ef : ∀ o, w2.frozen? ⟨eb, o, none⟩ = false := nn.2.2; have ef0 := ef (eo + m * 7); have ef1 := ef (eo + m * 7 + 1); have ef2 := ef (eo + m * 7 + 2); have ef3 := ef (eo + m * 7 + 3); have ef4 := ef (eo + m * 7 + 4); have ef5 := ef (eo + m * 7 + 5); have ef6 := ef (eo + m * 7 + 6); have el : eb < w2.heap.size := nn.2.1; have R0 : w2.cell? ⟨w.heap.size + 1, 0, none⟩ = some (.slice none 0 0) := (hb2.cell (p := ⟨w.heap.size + 1, 0, none⟩) rl).trans r0; have R1 : w2.cell? ⟨w.heap.size + 1, 1, none⟩ = some (.slice none 0 0) := (hb2.cell (p := ⟨w.heap.size + 1, 1, none⟩) rl).trans r1; have R2 : w2.cell? ⟨w.heap.size + 1, 2, none⟩ = some (.slice none 0 0) := (hb2.cell (p := ⟨w.heap.size + 1, 2, none⟩) rl).trans r2; have RF : Hid (∀ o, w2.frozen? ⟨w.heap.size + 1, o, none⟩ = false) := fun o => (hb2.frozen (p := ⟨w.heap.size + 1, o, none⟩) rl).trans (rf o); have RL : w.heap.size + 1 < w2.heap.size := lt_of_cell R0; have ee : eb ≠ w.heap.size + 1 := (by have := nn.1; omega); have nb2 : Hid (nb ≠ w2.heap.size) := (by have := (hO.nf nb no none rfl).2.1; show nb ≠ w2.heap.size; omega); clear nn ef hS hO hb2 m0 m1 m2 r0 r1 r2 rf rf0 rf1 rf2; dsimp only)
      | fail)
    obtain ⟨W4, hW4⟩ : ∃ W4, Hid (W4 = (((((((w2.setCell ⟨eb, eo + m * 7, none⟩ (.int .i64 0)).setCell ⟨eb, eo + m * 7 + 1, none⟩ (.string ⟨#[]⟩)).setCell ⟨eb, eo + m * 7 + 2, none⟩ (.int .i64 0)).setCell ⟨eb, eo + m * 7 + 3, none⟩ (.int .i64 0)).setCell ⟨eb, eo + m * 7 + 4, none⟩ (.int .i64 0)).setCell ⟨eb, eo + m * 7 + 5, none⟩ (.int .i64 0)).setCell ⟨eb, eo + m * 7 + 6, none⟩ (.int .i64 0)).alloc (.cells #[.slice (some ⟨nb, no, none⟩) 24 nfcap, .slice (some ⟨eb, eo, none⟩) 4 necap, .slice nqa nqus.length nqcap] 43)) := ⟨_, rfl⟩
    rw [← hW4.out]
    have LP : Hid (RemLoop w1.heap.size w W4 W4 w2.heap.size ⟨some ⟨nb, no, none⟩, nfrs, nfcap, some ⟨eb, eo, none⟩, nens.set m default, necap, nqa, nqus, nqcap⟩ ⟨fa, frs, fcap, ea, ens, ecap, qa, qus, qcap⟩ ((m : Int) + 1) 0) := by
      have HZ3 := HON.out.zeroEn (k := m) rfl (by dsimp only; omega)
      have HB3 : Below w.heap.size w (((((((w2.setCell ⟨eb, eo + m * 7, none⟩ (.int .i64 0)).setCell ⟨eb, eo + m * 7 + 1, none⟩ (.string ⟨#[]⟩)).setCell ⟨eb, eo + m * 7 + 2, none⟩ (.int .i64 0)).setCell ⟨eb, eo + m * 7 + 3, none⟩ (.int .i64 0)).setCell ⟨eb, eo + m * 7 + 4, none⟩ (.int .i64 0)).setCell ⟨eb, eo + m * 7 + 5, none⟩ (.int .i64 0)).setCell ⟨eb, eo + m * 7 + 6, none⟩ (.int .i64 0)) := by
        have hh : w.heap.size ≤ eb := by have := (HON.out.ne eb eo none rfl).1; have := HB1.out.size; omega
        exact ((((((((HB1.out.trans (HB2.out.mono HB1.out.size)).setCell (by simpa using hh) _).setCell (by simpa using hh) _).setCell (by simpa using hh) _).setCell (by simpa using hh) _).setCell (by simpa using hh) _).setCell (by simpa using hh) _).setCell (by simpa using hh) _)
      refine ⟨⟨nfrs, ?_, HSN.out.len, fun j hj => absurd hj (by omega), fun j _ hl => HSN.out.fr j (by rw [HSN.out.len]; exact hl)⟩, ?_, rfl, rfl, Nat.le_refl _⟩
      · rw [hW4.out]
        exact HZ3.below ((Below.refl _ _).alloc (Nat.le_refl _) _)
      · rw [hW4.out]
        exact HB3.alloc HB3.size _
    have X0 : Hid (W4.heap[w2.heap.size]? = some (.cells #[.slice (some ⟨nb, no, none⟩) 24 nfcap, .slice (some ⟨eb, eo, none⟩) 4 necap, .slice nqa nqus.length nqcap] 43 (0, 0))) := by
      show _ = _
      rw [hW4.out]
      have := Go.Deep.blk_alloc_new (((((((w2.setCell ⟨eb, eo + m * 7, none⟩ (.int .i64 0)).setCell ⟨eb, eo + m * 7 + 1, none⟩ (.string ⟨#[]⟩)).setCell ⟨eb, eo + m * 7 + 2, none⟩ (.int .i64 0)).setCell ⟨eb, eo + m * 7 + 3, none⟩ (.int .i64 0)).setCell ⟨eb, eo + m * 7 + 4, none⟩ (.int .i64 0)).setCell ⟨eb, eo + m * 7 + 5, none⟩ (.int .i64 0)).setCell ⟨eb, eo + m * 7 + 6, none⟩ (.int .i64 0)) (.cells #[.slice (some ⟨nb, no, none⟩) 24 nfcap, .slice (some ⟨eb, eo, none⟩) 4 necap, .slice nqa nqus.length nqcap] 43)
      simpa [World.setCell] using this
    have X1 : Hid (W4.heap[w.heap.size + 1]? = w2.heap[w.heap.size + 1]?) := by
      show _ = _
      rw [hW4.out, Below.heap_alloc _ _ _ (by simp [World.setCell]; exact RL)]
      have ee' := Ne.symm ee
      rw [Below.heap_setCell _ _ _ _ ee', Below.heap_setCell _ _ _ _ ee', Below.heap_setCell _ _ _ _ ee', Below.heap_setCell _ _ _ _ ee', Below.heap_setCell _ _ _ _ ee', Below.heap_setCell _ _ _ _ ee', Below.heap_setCell _ _ _ _ ee']
    clear e0 e1 e2 e3 e4 e5 e6 ef0 ef1 ef2 ef3 ef4 ef5 ef6
    go_loopw [28] (fun i wr => ∃ k : Nat, k ≤ 24 ∧ i = .int .i64 k ∧ Hid (RemLoop w1.heap.size w W4 wr w2.heap.size ⟨some ⟨nb, no, none⟩, nfrs, nfcap, some ⟨eb, eo, none⟩, nens.set m default, necap, nqa, nqus, nqcap⟩ ⟨fa, frs, fcap, ea, ens, ecap, qa, qus, qcap⟩ ((m : Int) + 1) k)) (fun i _ => 24 - (intOf i).toNat)
    case atStart => exact ⟨0, Nat.zero_le _, rfl, LP⟩
    case round =>
      obtain ⟨k, hk, rfl, hL⟩ := hrel
      clear LP
      obtain ⟨⟨frs', hO, hR⟩, hbel, hres, hbox, hsz⟩ := hL.out
      have b0 : wr.cell? ⟨w2.heap.size, 0, none⟩ = some (.slice (some ⟨nb, no, none⟩) 24 nfcap) := by simp [World.cell?, hbox, X0.out]
      have bl : w2.heap.size < wr.heap.size := lt_of_cell b0
      by_cases hlt : k < 24
      · obtain ⟨_, _, hfa, c0, c1, c2, c3⟩ := hO.at_.frame (j := k) (by have := hR.len; dsimp only at this ⊢; rw [this, HS24.out]; exact hlt)
        dsimp only at hfa c0 c1 c2 c3
        simp only [Option.some.injEq, Addr.mk.injEq, and_true] at hfa
        obtain ⟨rfl, rfl⟩ := hfa
        have ho := (hR.todo k (Nat.le_refl _) (by dsimp only; rw [HS24.out]; exact hlt)).1
        dsimp only at ho
        rw [ho] at c0
        obtain ⟨ow, HOW⟩ : ∃ ow, Hid ((frs.getD k default).o = ow) := ⟨_, rfl⟩
        rw [HOW.out] at c0
        have HOk : Hid (_) := hO
        have HRk : Hid (_) := hR
        have nn := hO.nf nb no none rfl
        have nbl : nb < wr.heap.size := nn.2.1
        have n1 : w1.heap.size ≤ nb := nn.1
        have fz := nn.2.2
        have z0 := fz (no + k * 4)
        have z1 := fz (no + k * 4 + 1)
        have z2 := fz (no + k * 4 + 2)
        have z3 := fz (no + k * 4 + 3)
        generalize (frs'.getD k default).at_ = pat at c1
        generalize (frs'.getD k default).r = pr at c2
        generalize (frs'.getD k default).a = pa at c3
        generalize (frs'.getD k default).ws.length = pl at c3
        generalize (frs'.getD k default).cap = pc at c3
        clear nn fz hO hR ho
        by_cases hw : ow = (m : Int) + 1
        · subst hw
          have LN : Hid (∀ w5 g, Below wr.heap.size wr w5 → wr.heap.size ≤ g → w5.heap[g]? = some (.cells (wvals (List.replicate 8 0)).toArray 3 (0, 0)) → RemLoop w1.heap.size w W4 (laid4 w5 nb (no + k * 4) g) w2.heap.size ⟨some ⟨nb, no, none⟩, nfrs, nfcap, some ⟨eb, eo, none⟩, nens.set m default, necap, nqa, nqus, nqcap⟩ ⟨fa, frs, fcap, ea, ens, ecap, qa, qus, qcap⟩ ((m : Int) + 1) (k + 1)) := fun w5 g hb5 hg5 hgw => by
            have hlk : k < frs'.length := by have := HRk.out.len; dsimp only at this; rw [this, HS24.out]; exact hlt
            have sB := HB1.out.size
            have hLb : nb ≠ w2.heap.size := nb2.out
            exact ⟨⟨frs'.set k (newFrame g), HOk.out.layFrame rfl hlk hb5 hg5 hgw, HRk.out.lay (by dsimp only; rw [HS24.out]; exact hlt) (by dsimp only; exact HOW.out) (newFrame_same g)⟩, laid4_below (hbel.trans (hb5.mono hbel.size)) (by omega), (laid4_heap (by omega)).trans ((hb5.block _ (by omega)).trans hres), (laid4_heap (Ne.symm hLb)).trans ((hb5.block _ bl).trans hbox), by rw [laid4_size]; have := hb5.size; omega⟩
          go_wp2
          go_region_law (go_simp; go_at_call 67; refine (sharedFrame_any _).mono ?_; rintro x w5 ⟨rfl, hg5, hb5⟩; have d0 : w5.cell? ⟨nb, no + k * 4, none⟩ = some (.int .i64 ((m : Int) + 1)) := (hb5.cell (p := ⟨nb, _, none⟩) (by simp; omega)).trans ((World.cell?_alloc_past _ _ _ nbl).trans c0); have d1 : w5.cell? ⟨nb, no + k * 4 + 1, none⟩ = some (.int .i64 pat) := (hb5.cell (p := ⟨nb, _, none⟩) (by simp; omega)).trans ((World.cell?_alloc_past _ _ _ nbl).trans c1); have d2 : w5.cell? ⟨nb, no + k * 4 + 2, none⟩ = some (.int .i64 pr) := (hb5.cell (p := ⟨nb, _, none⟩) (by simp; omega)).trans ((World.cell?_alloc_past _ _ _ nbl).trans c2); have d3 : w5.cell? ⟨nb, no + k * 4 + 3, none⟩ = some (.slice pa pl pc) := (hb5.cell (p := ⟨nb, _, none⟩) (by simp; omega)).trans ((World.cell?_alloc_past _ _ _ nbl).trans c3); have q0 : w5.cell? ⟨w2.heap.size, 0, none⟩ = some (.slice (some ⟨nb, no, none⟩) 24 nfcap) := (hb5.cell (p := ⟨w2.heap.size, 0, none⟩) (by simp; omega)).trans ((World.cell?_alloc_past _ _ _ bl).trans b0); have g0 : w5.frozen? ⟨nb, no + k * 4, none⟩ = false := (hb5.frozen (p := ⟨nb, _, none⟩) (by simp; omega)).trans ((World.frozen?_alloc_past _ _ _ nbl).trans z0); have g1 : w5.frozen? ⟨nb, no + k * 4 + 1, none⟩ = false := (hb5.frozen (p := ⟨nb, _, none⟩) (by simp; omega)).trans ((World.frozen?_alloc_past _ _ _ nbl).trans z1); have g2 : w5.frozen? ⟨nb, no + k * 4 + 2, none⟩ = false := (hb5.frozen (p := ⟨nb, _, none⟩) (by simp; omega)).trans ((World.frozen?_alloc_past _ _ _ nbl).trans z2); have g3 : w5.frozen? ⟨nb, no + k * 4 + 3, none⟩ = false := (hb5.frozen (p := ⟨nb, _, none⟩) (by simp; omega)).trans ((World.frozen?_alloc_past _ _ _ nbl).trans z3); dsimp only)
          all_goals
            have HQ5 : Below wr.heap.size wr w5 := by first | exact ((Below.refl _ _).alloc (Nat.le_refl _) _).trans (hb5.mono (by simp)) | exact (((Below.refl _ _).alloc (Nat.le_refl _) _).drew).trans (hb5.mono (by simp))
            have R := LN.out w5 (wr.heap.size + 1 + 1) HQ5 (by omega) (by simpa using hg5)
            unfold laid4 at R
            have HR5 : Hid (_) := R
            clear R HQ5 LN hb5 hg5 d0 d1 d2 d3 q0 g0 g1 g2 g3
            go_wp2
            go_roundw
            case rel => exact ⟨k + 1, by omega, by go_num, HR5⟩
            case measure => simp [intOf]; omega
        · have hw' : (ow == (m : Int) + 1) = false := by simpa using hw
          have LN : ∀ o, Hid (RemLoop w1.heap.size w W4 (wr.alloc o) w2.heap.size ⟨some ⟨nb, no, none⟩, nfrs, nfcap, some ⟨eb, eo, none⟩, nens.set m default, necap, nqa, nqus, nqcap⟩ ⟨fa, frs, fcap, ea, ens, ecap, qa, qus, qcap⟩ ((m : Int) + 1) (k + 1)) := fun o =>
            ⟨⟨frs', HOk.out.below ((Below.refl _ _).alloc (Nat.le_refl _) _), HRk.out.skip (by dsimp only; rw [HS24.out]; exact hlt) (by dsimp only; rw [HOW.out]; exact hw)⟩, hbel.alloc hbel.size _, (Below.heap_alloc _ _ _ (by omega)).trans hres, (Below.heap_alloc _ _ _ bl).trans hbox, by simp; omega⟩
          go_wp2
          go_roundw
          case rel => exact ⟨k + 1, by omega, by go_num, LN _⟩
          case measure => simp [intOf]; omega
      · have hge : ¬ ((k : Int) < 24) := by omega
        have hkn : k = 24 := by omega
        have b1 : wr.cell? ⟨w2.heap.size, 1, none⟩ = some (.slice (some ⟨eb, eo, none⟩) 4 necap) := by simp [World.cell?, hbox, X0.out]
        have b2 : wr.cell? ⟨w2.heap.size, 2, none⟩ = some (.slice nqa nqus.length nqcap) := by simp [World.cell?, hbox, X0.out]
        have y0 : wr.cell? ⟨w.heap.size + 1, 0, none⟩ = some (.slice none 0 0) := (World.cell?_of_block (hres.trans X1.out)).trans R0
        have y1 : wr.cell? ⟨w.heap.size + 1, 1, none⟩ = some (.slice none 0 0) := (World.cell?_of_block (hres.trans X1.out)).trans R1
        have y2 : wr.cell? ⟨w.heap.size + 1, 2, none⟩ = some (.slice none 0 0) := (World.cell?_of_block (hres.trans X1.out)).trans R2
        have yf : ∀ o, wr.frozen? ⟨w.heap.size + 1, o, none⟩ = false := fun o => (World.frozen?_of_block (hres.trans X1.out)).trans (RF.out o)
        have yf0 := yf 0
        have yf1 := yf 1
        have yf2 := yf 2
        have HLF : Hid (frs'.length = 24) := by have := hR.len; dsimp only at this; show _ = _; rw [this]; exact HS24.out
        have HSM : Hid (Mv.Same ⟨some ⟨nb, no, none⟩, frs', nfcap, some ⟨eb, eo, none⟩, nens.set m default, necap, nqa, nqus, nqcap⟩ RM) := by
          show Mv.Same _ _
          rw [hRM.out]
          have e1 := HSN.out.en
          have e2 := HSN.out.qu
          dsimp only at e1 e2
          refine RemTo.end_ (by dsimp only; rw [HS24.out, ← hkn]; exact hR) ?_ e2 HZ.out
          dsimp only
          rw [e1, show ((m : Int) + 1 - 1).toNat = m by omega]
        have HOE : Hid (_) := hO
        clear hR hO yf hL hbox hres hsz
        go_wp2
        obtain ⟨k0, k1, k2⟩ := blk3 (v0 := .slice (some ⟨nb, no, none⟩) 24 nfcap) (v1 := .slice (some ⟨eb, eo, none⟩) 4 necap) (v2 := .slice nqa nqus.length nqcap) y0 y1 y2
        (try simp only [Exit.inBlock, Exit.then])
        refine bodyPost_ret (by simp [results, Try.results43, go_sem, k0, k1, k2]; try rfl) rfl ?_
        exact ⟨⟨some ⟨nb, no, none⟩, frs', nfcap, some ⟨eb, eo, none⟩, nens.set m default, necap, nqa, nqus, nqcap⟩, by simp [HLF.out, hnl], HSM.out, (HOE.out.keep (fun b hb _ => blk3_heap b (by omega)) (by rw [blk3_size]; exact Nat.le_refl _)).mono (by first | exact HB1.out.size | (have := HRL.out; omega) | omega), blk3_below hbel (by omega)⟩
  · have hz1 : (askF ⟨fa, frs, fcap, ea, ens, ecap, qa, qus, qcap⟩ e (-1) != 0) = true := by simpa using hz
    have RN : RM = noM := by rw [hRM.out]; unfold remM; rw [if_neg hz]
    subst RN
    clear hM hF hz hRM
    generalize askF ⟨fa, frs, fcap, ea, ens, ecap, qa, qus, qcap⟩ e (-1) = z at h1 hz1 ⊢
    go_enter Try.func43, Try.ntmps43
    go_wp2_with (first | (go_at_call 83; refine (h1 _ (B2 _ _).out).mono ?_; rintro x w1 ⟨rfl, hb1⟩; obtain ⟨m0, m1, m2, r0, r1, r2, rf, rl⟩ := CF.out w1 hb1; have HB1 : Hid (Below w.heap.size w w1) := (HX _ _ _).out hb1; have rf0 := rf 0; have rf1 := rf 1; have rf2 := rf 2; clear hb1 CF) | fail)
    obtain ⟨k0, k1, k2⟩ := blk3 (v0 := .slice none 0 0) (v1 := .slice none 0 0) (v2 := .slice none 0 0) r0 r1 r2
    (try simp only [Exit.inBlock, Exit.then])
    refine bodyPost_ret (by simp [results, Try.results43, go_sem, k0, k1, k2]; try rfl) rfl ?_
    exact ⟨noM, rfl, Mv.Same.refl _, noM_own _ _, blk3_below HB1.out (by omega)⟩

set_option maxRecDepth 100000 in
set_option maxHeartbeats 4000000 in
theorem removed_any (M : Mv) (e : Int) (w : World) (hM : MachAt w M) (hF : M.Fits) :
    Calls Try.prog 44 #[M.val, .int .i64 e] w fun x w' => ∃ N : Mv, x = .returned (.tuple #[N.val, .int .i64 (askF M e (-1))]) ∧ N.Same (remM M e) ∧ Owned w.heap.size w' N ∧ Below w.heap.size w w' := by
  have h1 := fun w' (h : Below w.heap.size w w') => asked_any M e (-1) w' (hM.below h)
  have h2 := fun w' (h : Below w.heap.size w w') => mcopy_any M w' (hM.below h) hF
  obtain ⟨RM, hRM⟩ : ∃ RM, Hid (RM = remM M e) := ⟨_, rfl⟩
  rw [← hRM.out]
  have HM : Hid (MachAt w M) := hM
  unfold Mv.val at h1 h2 ⊢
  obtain ⟨fa, frs, fcap, ea, ens, ecap, qa, qus, qcap⟩ := M
  dsimp only at h1 h2 ⊢
  have B2 : ∀ o1 o2, Hid (Below w.heap.size w ((w.alloc o1).alloc o2)) := fun o1 o2 => ((Below.refl _ _).alloc (Nat.le_refl _) _).alloc (by simp) _
  have HX : ∀ o1 o2 w1, Hid (Below ((w.alloc o1).alloc o2).heap.size ((w.alloc o1).alloc o2) w1 → Below w.heap.size w w1) := fun o1 o2 w1 h => (B2 o1 o2).out.trans (h.mono (by simp; omega))
  have CF : Hid (_) := boxes_at w (.slice fa frs.length fcap) (.slice ea ens.length ecap) (.slice qa qus.length qcap)
  by_cases hz : askF ⟨fa, frs, fcap, ea, ens, ecap, qa, qus, qcap⟩ e (-1) = 0
  · have HZ : Hid (askF ⟨fa, frs, fcap, ea, ens, ecap, qa, qus, qcap⟩ e (-1) = 0) := hz
    obtain ⟨g0, m, rfl, hm4, _, _⟩ := askF_zero hz
    have HS24 : Hid (frs.length = 24) := (machF_sizes g0).1
    have HS4 : Hid (ens.length = 4) := (machF_sizes g0).2.1
    rw [hz] at h1 ⊢
    have hwm : IntKind.i64.wrap ((m : Int) + 1 - 1) = (m : Int) := by rw [IntKind.wrap_i64]; omega
    clear hM hF hz g0
    go_enter Try.func44, Try.ntmps44
    go_wp2_with (first
      | (go_at_call 82; refine (h1 _ (B2 _ _).out).mono ?_; rintro x w1 ⟨rfl, hb1⟩; obtain ⟨m0, m1, m2, r0, r1, r2, rf, rl⟩ := CF.out w1 hb1; have HB1 : Hid (Below w.heap.size w w1) := (HX _ _ _).out hb1; have rf0 := rf 0; have rf1 := rf 1; have rf2 := rf 2; clear hb1 CF)
      | (go_at_call 40; refine (h2 _ HB1.out).mono ?_; rintro x w2 ⟨N, rfl, hS, hO, hb2⟩; obtain ⟨nfa, nfrs, nfcap, nea, nens, necap, nqa, nqus, nqcap⟩ := N; have HSN : Hid (_) := hS; have HON : Hid (_) := hO; have HB2 : Hid (_) := hb2; have hnl : nens.length = 4 := (by have := hS.en; dsimp only at this; rw [this]; exact HS4.out); have hnf : nfrs.length = 24 := (by have := hS.len; dsimp only at this; rw [this]; exact HS24.out); obtain ⟨nb, no, hnfa, _⟩ := hO.at_.frame (j := 0) (by dsimp only; omega); obtain ⟨eb, eo, hnea, e0, e1, e2, e3, e4, e5, e6⟩ := hO.at_.enclave (j := m) (by dsimp only; omega); dsimp only at hnfa hnea e0 e1 e2 e3 e4 e5 e6; subst hnfa hnea; have nn := hO.ne eb eo none rfl; have ef : ∀ o, w2.frozen? ⟨eb, o, none⟩ = false := nn.2.2; have ef0 := ef (eo + m * 7); have ef1 := ef (eo + m * 7 + 1); have ef2 := ef (eo + m * 7 + 2); have ef3 := ef (eo + m * 7 + 3); have ef4 := ef (eo + m * 7 + 4); have ef5 := ef (eo + m * 7 + 5); have ef6 := ef (eo + m * 7 + 6); have el : eb < w2.heap.size := nn.2.1; have R0 : w2.cell? ⟨w.heap.size + 1, 0, none⟩ = some (.slice none 0 0) := (hb2.cell (p := ⟨w.heap.size + 1, 0, none⟩) rl).trans r0; have R1 : w2.cell? ⟨w.heap.size + 1, 1, none⟩ = some (.slice none 0 0) := (hb2.cell (p := ⟨w.heap.size + 1, 1, none⟩) rl).trans r1; have R2 : w2.cell? ⟨w.heap.size + 1, 2, none⟩ = some (.slice none 0 0) := (hb2.cell (p := ⟨w.heap.size + 1, 2, none⟩) rl).trans r2; have RF : Hid (∀ o, w2.frozen? ⟨w.heap.size + 1, o, none⟩ = false) := fun o => (hb2.frozen (p := ⟨w.heap.size + 1, o, none⟩) rl).trans (rf o); have RL : w.heap.size + 1 < w2.heap.size := lt_of_cell R0; have ee : eb ≠ w.heap.size + 1 := (by have := nn.1; omega); have nb2 : Hid (nb ≠ w2.heap.size) := (by have := (hO.nf nb no none rfl).2.1; show nb ≠ w2.heap.size; omega); clear nn ef hS hO hb2 m0 m1 m2 r0 r1 r2 rf rf0 rf1 rf2; dsimp only)
      | fail)
    obtain ⟨W4, hW4⟩ : ∃ W4, Hid (W4 = (((((((w2.setCell ⟨eb, eo + m * 7, none⟩ (.int .i64 0)).setCell ⟨eb, eo + m * 7 + 1, none⟩ (.string ⟨#[]⟩)).setCell ⟨eb, eo + m * 7 + 2, none⟩ (.int .i64 0)).setCell ⟨eb, eo + m * 7 + 3, none⟩ (.int .i64 0)).setCell ⟨eb, eo + m * 7 + 4, none⟩ (.int .i64 0)).setCell ⟨eb, eo + m * 7 + 5, none⟩ (.int .i64 0)).setCell ⟨eb, eo + m * 7 + 6, none⟩ (.int .i64 0)).alloc (.cells #[.slice (some ⟨nb, no, none⟩) 24 nfcap, .slice (some ⟨eb, eo, none⟩) 4 necap, .slice nqa nqus.length nqcap] 43)) := ⟨_, rfl⟩
    rw [← hW4.out]
    have LP : Hid (RemLoop w1.heap.size w W4 W4 w2.heap.size ⟨some ⟨nb, no, none⟩, nfrs, nfcap, some ⟨eb, eo, none⟩, nens.set m default, necap, nqa, nqus, nqcap⟩ ⟨fa, frs, fcap, ea, ens, ecap, qa, qus, qcap⟩ ((m : Int) + 1) 0) := by
      have HZ3 := HON.out.zeroEn (k := m) rfl (by dsimp only; omega)
      have HB3 : Below w.heap.size w (((((((w2.setCell ⟨eb, eo + m * 7, none⟩ (.int .i64 0)).setCell ⟨eb, eo + m * 7 + 1, none⟩ (.string ⟨#[]⟩)).setCell ⟨eb, eo + m * 7 + 2, none⟩ (.int .i64 0)).setCell ⟨eb, eo + m * 7 + 3, none⟩ (.int .i64 0)).setCell ⟨eb, eo + m * 7 + 4, none⟩ (.int .i64 0)).setCell ⟨eb, eo + m * 7 + 5, none⟩ (.int .i64 0)).setCell ⟨eb, eo + m * 7 + 6, none⟩ (.int .i64 0)) := by
        have hh : w.heap.size ≤ eb := by have := (HON.out.ne eb eo none rfl).1; have := HB1.out.size; omega
        exact ((((((((HB1.out.trans (HB2.out.mono HB1.out.size)).setCell (by simpa using hh) _).setCell (by simpa using hh) _).setCell (by simpa using hh) _).setCell (by simpa using hh) _).setCell (by simpa using hh) _).setCell (by simpa using hh) _).setCell (by simpa using hh) _)
      refine ⟨⟨nfrs, ?_, HSN.out.len, fun j hj => absurd hj (by omega), fun j _ hl => HSN.out.fr j (by rw [HSN.out.len]; exact hl)⟩, ?_, rfl, rfl, Nat.le_refl _⟩
      · rw [hW4.out]
        exact HZ3.below ((Below.refl _ _).alloc (Nat.le_refl _) _)
      · rw [hW4.out]
        exact HB3.alloc HB3.size _
    have X0 : Hid (W4.heap[w2.heap.size]? = some (.cells #[.slice (some ⟨nb, no, none⟩) 24 nfcap, .slice (some ⟨eb, eo, none⟩) 4 necap, .slice nqa nqus.length nqcap] 43 (0, 0))) := by
      show _ = _
      rw [hW4.out]
      have := Go.Deep.blk_alloc_new (((((((w2.setCell ⟨eb, eo + m * 7, none⟩ (.int .i64 0)).setCell ⟨eb, eo + m * 7 + 1, none⟩ (.string ⟨#[]⟩)).setCell ⟨eb, eo + m * 7 + 2, none⟩ (.int .i64 0)).setCell ⟨eb, eo + m * 7 + 3, none⟩ (.int .i64 0)).setCell ⟨eb, eo + m * 7 + 4, none⟩ (.int .i64 0)).setCell ⟨eb, eo + m * 7 + 5, none⟩ (.int .i64 0)).setCell ⟨eb, eo + m * 7 + 6, none⟩ (.int .i64 0)) (.cells #[.slice (some ⟨nb, no, none⟩) 24 nfcap, .slice (some ⟨eb, eo, none⟩) 4 necap, .slice nqa nqus.length nqcap] 43)
      simpa [World.setCell] using this
    have X1 : Hid (W4.heap[w.heap.size + 1]? = w2.heap[w.heap.size + 1]?) := by
      show _ = _
      rw [hW4.out, Below.heap_alloc _ _ _ (by simp [World.setCell]; exact RL)]
      have ee' := Ne.symm ee
      rw [Below.heap_setCell _ _ _ _ ee', Below.heap_setCell _ _ _ _ ee', Below.heap_setCell _ _ _ _ ee', Below.heap_setCell _ _ _ _ ee', Below.heap_setCell _ _ _ _ ee', Below.heap_setCell _ _ _ _ ee', Below.heap_setCell _ _ _ _ ee']
    clear e0 e1 e2 e3 e4 e5 e6 ef0 ef1 ef2 ef3 ef4 ef5 ef6
    go_loopw [8] (fun i wr => ∃ k : Nat, k ≤ 24 ∧ i = .int .i64 k ∧ Hid (RemLoop w1.heap.size w W4 wr w2.heap.size ⟨some ⟨nb, no, none⟩, nfrs, nfcap, some ⟨eb, eo, none⟩, nens.set m default, necap, nqa, nqus, nqcap⟩ ⟨fa, frs, fcap, ea, ens, ecap, qa, qus, qcap⟩ ((m : Int) + 1) k)) (fun i _ => 24 - (intOf i).toNat)
    case atStart => exact ⟨0, Nat.zero_le _, rfl, LP⟩
    case round =>
      obtain ⟨k, hk, rfl, hL⟩ := hrel
      clear LP
      obtain ⟨⟨frs', hO, hR⟩, hbel, hres, hbox, hsz⟩ := hL.out
      have b0 : wr.cell? ⟨w2.heap.size, 0, none⟩ = some (.slice (some ⟨nb, no, none⟩) 24 nfcap) := by simp [World.cell?, hbox, X0.out]
      have bl : w2.heap.size < wr.heap.size := lt_of_cell b0
      by_cases hlt : k < 24
      · obtain ⟨_, _, hfa, c0, c1, c2, c3⟩ := hO.at_.frame (j := k) (by have := hR.len; dsimp only at this ⊢; rw [this, HS24.out]; exact hlt)
        dsimp only at hfa c0 c1 c2 c3
        simp only [Option.some.injEq, Addr.mk.injEq, and_true] at hfa
        obtain ⟨rfl, rfl⟩ := hfa
        have ho := (hR.todo k (Nat.le_refl _) (by dsimp only; rw [HS24.out]; exact hlt)).1
        dsimp only at ho
        rw [ho] at c0
        obtain ⟨ow, HOW⟩ : ∃ ow, Hid ((frs.getD k default).o = ow) := ⟨_, rfl⟩
        rw [HOW.out] at c0
        have HOk : Hid (_) := hO
        have HRk : Hid (_) := hR
        have nn := hO.nf nb no none rfl
        have nbl : nb < wr.heap.size := nn.2.1
        have n1 : w1.heap.size ≤ nb := nn.1
        have fz := nn.2.2
        have z0 := fz (no + k * 4)
        have z1 := fz (no + k * 4 + 1)
        have z2 := fz (no + k * 4 + 2)
        have z3 := fz (no + k * 4 + 3)
        generalize (frs'.getD k default).at_ = pat at c1
        generalize (frs'.getD k default).r = pr at c2
        generalize (frs'.getD k default).a = pa at c3
        generalize (frs'.getD k default).ws.length = pl at c3
        generalize (frs'.getD k default).cap = pc at c3
        clear nn fz hO hR ho
        by_cases hw : ow = (m : Int) + 1
        · subst hw
          have LN : Hid (∀ w5 g, Below wr.heap.size wr w5 → wr.heap.size ≤ g → w5.heap[g]? = some (.cells (wvals (List.replicate 8 0)).toArray 3 (0, 0)) → RemLoop w1.heap.size w W4 (laid4 w5 nb (no + k * 4) g) w2.heap.size ⟨some ⟨nb, no, none⟩, nfrs, nfcap, some ⟨eb, eo, none⟩, nens.set m default, necap, nqa, nqus, nqcap⟩ ⟨fa, frs, fcap, ea, ens, ecap, qa, qus, qcap⟩ ((m : Int) + 1) (k + 1)) := fun w5 g hb5 hg5 hgw => by
            have hlk : k < frs'.length := by have := HRk.out.len; dsimp only at this; rw [this, HS24.out]; exact hlt
            have sB := HB1.out.size
            have hLb : nb ≠ w2.heap.size := nb2.out
            exact ⟨⟨frs'.set k (newFrame g), HOk.out.layFrame rfl hlk hb5 hg5 hgw, HRk.out.lay (by dsimp only; rw [HS24.out]; exact hlt) (by dsimp only; exact HOW.out) (newFrame_same g)⟩, laid4_below (hbel.trans (hb5.mono hbel.size)) (by omega), (laid4_heap (by omega)).trans ((hb5.block _ (by omega)).trans hres), (laid4_heap (Ne.symm hLb)).trans ((hb5.block _ bl).trans hbox), by rw [laid4_size]; have := hb5.size; omega⟩
          have mk := make8
          have R := (LN.out (wr.alloc (.cells (madeCells #[.int .i64 0] 8) 3)) wr.heap.size ((Below.refl _ _).alloc (Nat.le_refl _) _) (Nat.le_refl _) (by rw [← made8]; exact Go.Deep.blk_alloc_new _ _)).drew
          unfold laid4 at R
          rw [World.setCell_alloc_past _ _ _ _ (by exact nbl), World.setCell_alloc_past _ _ _ _ (by simp [World.setCell]; exact nbl), World.setCell_alloc_past _ _ _ _ (by simp [World.setCell]; exact nbl), World.setCell_alloc_past _ _ _ _ (by simp [World.setCell]; exact nbl)] at R
          have HR5 : Hid (_) := R
          clear R LN
          go_wp2
          go_big_region
          all_goals
            go_wp2
            go_roundw
            case rel => exact ⟨k + 1, by omega, by go_num, HR5⟩
            case measure => simp [intOf]; omega
        · have hw' : (ow == (m : Int) + 1) = false := by simpa using hw
          have LN : Hid (RemLoop w1.heap.size w W4 wr w2.heap.size ⟨some ⟨nb, no, none⟩, nfrs, nfcap, some ⟨eb, eo, none⟩, nens.set m default, necap, nqa, nqus, nqcap⟩ ⟨fa, frs, fcap, ea, ens, ecap, qa, qus, qcap⟩ ((m : Int) + 1) (k + 1)) :=
            ⟨⟨frs', HOk.out, HRk.out.skip (by dsimp only; rw [HS24.out]; exact hlt) (by dsimp only; rw [HOW.out]; exact hw)⟩, hbel, hres, hbox, hsz⟩
          go_wp2
          go_roundw
          case rel => exact ⟨k + 1, by omega, by go_num, LN⟩
          case measure => simp [intOf]; omega
      · have hge : ¬ ((k : Int) < 24) := by omega
        have hkn : k = 24 := by omega
        have b1 : wr.cell? ⟨w2.heap.size, 1, none⟩ = some (.slice (some ⟨eb, eo, none⟩) 4 necap) := by simp [World.cell?, hbox, X0.out]
        have b2 : wr.cell? ⟨w2.heap.size, 2, none⟩ = some (.slice nqa nqus.length nqcap) := by simp [World.cell?, hbox, X0.out]
        have y0 : wr.cell? ⟨w.heap.size + 1, 0, none⟩ = some (.slice none 0 0) := (World.cell?_of_block (hres.trans X1.out)).trans R0
        have y1 : wr.cell? ⟨w.heap.size + 1, 1, none⟩ = some (.slice none 0 0) := (World.cell?_of_block (hres.trans X1.out)).trans R1
        have y2 : wr.cell? ⟨w.heap.size + 1, 2, none⟩ = some (.slice none 0 0) := (World.cell?_of_block (hres.trans X1.out)).trans R2
        have yf : ∀ o, wr.frozen? ⟨w.heap.size + 1, o, none⟩ = false := fun o => (World.frozen?_of_block (hres.trans X1.out)).trans (RF.out o)
        have yf0 := yf 0
        have yf1 := yf 1
        have yf2 := yf 2
        have HLF : Hid (frs'.length = 24) := by have := hR.len; dsimp only at this; show _ = _; rw [this]; exact HS24.out
        have HSM : Hid (Mv.Same ⟨some ⟨nb, no, none⟩, frs', nfcap, some ⟨eb, eo, none⟩, nens.set m default, necap, nqa, nqus, nqcap⟩ RM) := by
          show Mv.Same _ _
          rw [hRM.out]
          have e1 := HSN.out.en
          have e2 := HSN.out.qu
          dsimp only at e1 e2
          refine RemTo.end_ (by dsimp only; rw [HS24.out, ← hkn]; exact hR) ?_ e2 HZ.out
          dsimp only
          rw [e1, show ((m : Int) + 1 - 1).toNat = m by omega]
        have HOE : Hid (_) := hO
        clear hR hO yf hL hbox hres hsz
        go_wp2
        obtain ⟨k0, k1, k2⟩ := blk3 (v0 := .slice (some ⟨nb, no, none⟩) 24 nfcap) (v1 := .slice (some ⟨eb, eo, none⟩) 4 necap) (v2 := .slice nqa nqus.length nqcap) y0 y1 y2
        (try simp only [Exit.inBlock, Exit.then])
        refine bodyPost_ret (by simp [results, Try.results44, go_sem, k0, k1, k2]; try rfl) rfl ?_
        exact ⟨⟨some ⟨nb, no, none⟩, frs', nfcap, some ⟨eb, eo, none⟩, nens.set m default, necap, nqa, nqus, nqcap⟩, by simp [HLF.out, hnl], HSM.out, (HOE.out.keep (fun b hb _ => blk3_heap b (by omega)) (by rw [blk3_size]; exact Nat.le_refl _)).mono (by first | exact HB1.out.size | (have := HRL.out; omega) | omega), blk3_below hbel (by omega)⟩
  · have hz1 : (askF ⟨fa, frs, fcap, ea, ens, ecap, qa, qus, qcap⟩ e (-1) != 0) = true := by simpa using hz
    have RN : RM = noM := by rw [hRM.out]; unfold remM; rw [if_neg hz]
    subst RN
    clear hM hF hz hRM
    generalize askF ⟨fa, frs, fcap, ea, ens, ecap, qa, qus, qcap⟩ e (-1) = z at h1 hz1 ⊢
    go_enter Try.func44, Try.ntmps44
    go_wp2_with (first | (go_at_call 82; refine (h1 _ (B2 _ _).out).mono ?_; rintro x w1 ⟨rfl, hb1⟩; obtain ⟨m0, m1, m2, r0, r1, r2, rf, rl⟩ := CF.out w1 hb1; have HB1 : Hid (Below w.heap.size w w1) := (HX _ _ _).out hb1; have rf0 := rf 0; have rf1 := rf 1; have rf2 := rf 2; clear hb1 CF) | fail)
    obtain ⟨k0, k1, k2⟩ := blk3 (v0 := .slice none 0 0) (v1 := .slice none 0 0) (v2 := .slice none 0 0) r0 r1 r2
    (try simp only [Exit.inBlock, Exit.then])
    refine bodyPost_ret (by simp [results, Try.results44, go_sem, k0, k1, k2]; try rfl) rfl ?_
    exact ⟨noM, rfl, Mv.Same.refl _, noM_own _ _, blk3_below HB1.out (by omega)⟩

end Go.Proofs.Ytdbbiibnhgcndaa
