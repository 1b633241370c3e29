import Derived.Test.YtdngbojbpmdegaaGreatDoorJOpens
import Derived.Test.YtdngbojbpmdegaaGreatDoorJHostRan
import Derived.Test.YtdngbojbpmdegaaGreatDoorJAc
import Derived.Test.YtdngbojbpmdegaaGreatDoorJIdxBase
import Derived.Handy
import Derived.Outline
import Derived.Deep.CutRange
namespace Go.Proofs.YtdngbojbpmdegaaGreatDoor
open Go.RowKit
def emptyB (e : En) : Bool := e.st == 0
def creI (M : Mv) : Int := idxOf emptyB M.ens
def creF (M : Mv) : Int := if machF M = 0 then (if creI M < 0 then 7 else 0) else machF M
def creN (M : Mv) : Int := if creF M = 0 then creI M + 1 else 0
def openE : En := ⟨1, ⟨#[111, 112, 101, 110, 59]⟩, 0, 0, 0, 0, 0⟩
def creM (M : Mv) : Mv := if creF M = 0 then { M with ens := M.ens.set (creI M).toNat openE } else noM
theorem creI_same {M N : Mv} (h : M.Same N) : creI M = creI N := by unfold creI; rw [h.en]
theorem creF_same {M N : Mv} (h : M.Same N) : creF M = creF N := by unfold creF; rw [machF_same h, creI_same h]
theorem creN_same {M N : Mv} (h : M.Same N) : creN M = creN N := by unfold creN; rw [creF_same h, creI_same h]
theorem creM_same {M N : Mv} (h : M.Same N) : (creM M).Same (creM N) := by
  unfold creM
  rw [creF_same h, creI_same h, h.en]
  split
  · exact ⟨h.len, h.fr, rfl, h.qu⟩
  · exact Mv.Same.refl _
theorem idxOf_cases {α : Type} [Inhabited α] (p : α -> Bool) (xs : List α) : (idxOf p xs = -1 /\ ∀ j, j < xs.length -> p (xs.getD j default) = false) ∨ ∃ k : Nat, idxOf p xs = (k : Int) /\ k < xs.length /\ p (xs.getD k default) = true /\ ∀ j, j < k -> p (xs.getD j default) = false := by
  unfold idxOf
  cases h : xs.findIdx? p with
  | none =>
    left
    refine ⟨rfl, fun j hj => ?_⟩
    have := List.findIdx?_eq_none_iff.1 h (xs.getD j default) (by simp [List.getD_eq_getElem?_getD, hj])
    simpa using this
  | some i =>
    right
    obtain ⟨h1, h2, h3⟩ := List.findIdx?_eq_some_iff_getElem.1 h
    refine ⟨i, rfl, h1, by simpa [List.getD_eq_getElem?_getD, h1] using h2, fun j hj => ?_⟩
    have := h3 j hj
    have hl : j < xs.length := by omega
    simpa [List.getD_eq_getElem?_getD, hl] using this
theorem empty_en {M : Mv} (hz : machF M = 0) {k : Nat} (hk : k < M.ens.length) (h : emptyB (M.ens.getD k default) = true) : M.ens.getD k default = default := by
  have hg := List.all_eq_true.1 (machF_all hz).1 (M.ens.getD k default) (by simp [List.getD_eq_getElem?_getD, hk])
  generalize M.ens.getD k default = E at h hg
  obtain ⟨st, lg, pc, g0, g1, g2, g3⟩ := E
  simp only [emptyB, beq_iff_eq] at h
  subst h
  simp [En.good, En.zeros] at hg
  obtain ⟨⟨_, h2⟩, h3, ⟨⟨h4, h5⟩, h6⟩, h7⟩ := hg
  subst h3 h4 h5 h6 h7
  rw [h2]
  rfl
theorem create1_any (st pc g0 g1 g2 g3 : Int) (lg : ByteArray) (w : World) :
    Calls Tryz.prog 127 #[.agg #[.int .i64 st, .string lg, .int .i64 pc, .int .i64 g0, .int .i64 g1, .int .i64 g2, .int .i64 g3]] w fun x w' => x = .returned (.bool (emptyB ⟨st, lg, pc, g0, g1, g2, g3⟩)) /\ Below w.heap.size w w' := by
  go_enter Tryz.func127, Tryz.ntmps127
  go_wp2
  go_ret
  exact ⟨rfl, (Below.refl _ _).alloc (Nat.le_refl _) _⟩
set_option maxRecDepth 100000 in
set_option maxHeartbeats 4000000 in
theorem create_any (M : Mv) (w : World) (hM : MachAt w M) (hF : M.Fits) (ht : Tab w) :
    Calls Tryz.prog 92 #[M.val] w fun x w' => ∃ N : Mv, x = .returned (.tuple #[N.val, .int .i64 (creN M), .int .i64 (creF M)]) /\ N.Same (creM M) /\ Owned w.heap.size w' N /\ Below w.heap.size w w' := by
  have h1 := fun w' (h : Below w.heap.size w w') => checkM_any M w' (hM.below h)
  have h2 := fun w' (h : Below w.heap.size w w') => copyM_any M w' (hM.below h) hF
  have h3 := fun w' (h : Below w.heap.size w w') => emp_index M.ea M.ens M.ecap emptyB w' hM.enl (hM.below h).en (fun j _ w'' _ => create1_any _ _ _ _ _ _ _ w'')
  have h4 := fun w' (h : Below w.heap.size w w') => opened_any w' (ht.below h)
  obtain ⟨RM, hRM⟩ : ∃ RM, Hid (RM = creM M) := ⟨_, rfl⟩
  rw [<- hRM.out]
  have HMM : Hid (M = M) := rfl
  have hN0 : creN M = if creF M = 0 then creI M + 1 else 0 := rfl
  have hF0 : creF M = if machF M = 0 then (if creI M < 0 then 7 else 0) else machF M := rfl
  have hI0 : idxOf emptyB M.ens = creI M := rfl
  rw [hI0] at h3
  by_cases hz : machF M = 0
  · rw [if_pos hz] at hF0
    rw [hz] at h1
    rcases idxOf_cases emptyB M.ens with ⟨hi, _⟩ | ⟨m, hi, hml, hme, _⟩
    · rw [hI0] at hi
      have RN : RM = noM := by rw [hRM.out]; unfold creM; rw [hF0, hi]; rfl
      rw [hF0, hi] at hN0
      rw [hi] at hF0 h3
      rw [hN0, hF0]
      subst RN
      unfold Mv.val at h1 h2 ⊢
      obtain ⟨fa, frs, fcap, ea, ens, ecap, qa, qus, qcap⟩ := M
      dsimp only at h1 h2 h3 ⊢
      have B2 : ∀ o1 o2, Hid (Below w.heap.size w ((w.alloc o1).alloc o2)) := fun o1 o2 => a2B _ _ _
      have HX : ∀ o1 o2 w1, Hid (Below ((w.alloc o1).alloc o2).heap.size ((w.alloc o1).alloc o2) w1 -> Below w.heap.size w w1) := fun o1 o2 w1 h => (B2 o1 o2).out.trans (h.mono (by simp; omega))
      have CF : Hid (_) := boxes_blk w (.slice fa frs.length fcap) (.slice ea ens.length ecap) (.slice qa qus.length qcap)
      clear hM hF hz hi hRM ht h4 hN0 hF0 hI0
      go_enter Tryz.func92, Tryz.ntmps92
      go_wp2_with (first
        | (go_at_call 28; refine (h1 _ (B2 _ _).out).mono ?_; rintro x w1 ⟨rfl, hb1⟩; obtain ⟨AB, RB⟩ := CF.out w1 hb1; have HRB : Hid (_) := RB; have HB1 : Hid (Below w.heap.size w w1) := (HX _ _ _).out hb1; obtain ⟨m0, m1, m2, _, _, _, ml⟩ := box_cells AB; clear hb1 CF AB RB)
        | (go_at_call 117; refine (h3 _ HB1.out).mono ?_; rintro x w2 ⟨rfl, hb2⟩; obtain ⟨r0, r1, r2, rf0, rf1, rf2, rl⟩ := box_cells ((hb2.block _ (Array.getElem?_eq_some_iff.1 HRB.out).1).trans HRB.out); have HB2 : Hid (Below w.heap.size w w2) := HB1.out.trans (hb2.mono HB1.out.size); clear hb2 m0 m1 m2)
        | fail)
      obtain ⟨k0, k1, k2⟩ := blk3 (v0 := .slice none 0 0) (v1 := .slice none 0 0) (v2 := .slice none 0 0) r0 r1 r2
      (try simp only [Exit.inBlock, Exit.then])
      refine bodyPost_ret (by simp [results, Tryz.results92, go_sem, k0, k1, k2]; try rfl) rfl ?_
      exact ⟨noM, rfl, Mv.Same.refl _, noM_own _ _, blk3_below HB2.out (by omega)⟩
    · rw [hI0] at hi
      have hm4 : m < 4 := by have := (machF_sizes hz).2.1; omega
      have HS4 : Hid (M.ens.length = 4) := (machF_sizes hz).2.1
      have HE : Hid (M.ens.getD m default = default) := empty_en hz hml hme
      have e0 : creF M = 0 := by rw [hF0, hi]; exact if_neg (by omega)
      have eN : creN M = (m : Int) + 1 := by rw [hN0, e0, if_pos rfl, hi]
      have RN : Hid (RM = { M with ens := M.ens.set m openE }) := by
        show _ = _
        rw [hRM.out]; unfold creM; rw [e0, if_pos rfl, hi, Int.toNat_natCast]
      rw [hi] at h3
      rw [e0, eN]
      unfold Mv.val at h1 h2 ⊢
      obtain ⟨fa, frs, fcap, ea, ens, ecap, qa, qus, qcap⟩ := M
      dsimp only at h1 h2 h3 HS4 ⊢
      have B2 : ∀ o1 o2, Hid (Below w.heap.size w ((w.alloc o1).alloc o2)) := fun o1 o2 => a2B _ _ _
      have HX : ∀ o1 o2 w1, Hid (Below ((w.alloc o1).alloc o2).heap.size ((w.alloc o1).alloc o2) w1 -> Below w.heap.size w w1) := fun o1 o2 w1 h => (B2 o1 o2).out.trans (h.mono (by simp; omega))
      have CF : Hid (_) := boxes_blk w (.slice fa frs.length fcap) (.slice ea ens.length ecap) (.slice qa qus.length qcap)
      have HT : Hid (_) := h4
      have hge : ¬ ((m : Int) < 0) := by omega
      have hm4i : (m : Int) < 4 := by omega
      have hwm : IntKind.i64.wrap ((m : Int) + 1) = (m : Int) + 1 := by rw [IntKind.wrap_i64]; omega
      clear hM hF hz hi hRM ht h4 hN0 hF0 hI0 hml hme e0 eN
      go_enter Tryz.func92, Tryz.ntmps92
      go_wp2_with (first
        | (go_at_call 28; refine (h1 _ (B2 _ _).out).mono ?_; rintro x w1 ⟨rfl, hb1⟩; obtain ⟨AB, RB⟩ := CF.out w1 hb1; have HAB : Hid (_) := AB; have HRB : Hid (_) := RB; have HB1 : Hid (Below w.heap.size w w1) := (HX _ _ _).out hb1; obtain ⟨m0, m1, m2, _, _, _, ml⟩ := box_cells AB; clear hb1 CF AB RB)
        | (go_at_call 117; refine (h3 _ HB1.out).mono ?_; rintro x w2 ⟨rfl, hb2⟩; have HRB2 : Hid (_) := ((hb2.block _ (Array.getElem?_eq_some_iff.1 HRB.out).1).trans HRB.out); clear ml m0 m1 m2; obtain ⟨m0, m1, m2, _, _, _, ml⟩ := box_cells ((hb2.block _ (Array.getElem?_eq_some_iff.1 HAB.out).1).trans HAB.out); have HB2 : Hid (Below w.heap.size w w2) := HB1.out.trans (hb2.mono HB1.out.size); clear hb2 HAB HRB HB1)
        | (go_at_call 37; refine (h2 _ HB2.out).mono ?_; rintro x w3 ⟨N, rfl, hS, hO, hb3⟩; obtain ⟨nfa, nfrs, nfcap, nea, nens, necap, nqa, nqus, nqcap⟩ := N; have HSN : Hid (_) := hS; have HON : Hid (_) := hO; have HB3 : Hid (_) := hb3; have eN := hS.en; dsimp only at eN; subst eN; obtain ⟨eb, eo, hea, t0, t1, _⟩ := hO.at_.enclave (j := m) (by dsimp only; have := HS4.out; omega); dsimp only at hea t0 t1; subst hea; rw [HE.out] at t0 t1; have nn := hO.ne eb eo none rfl; have ef0 : w3.frozen? ⟨eb, eo + m * 7, none⟩ = false := nn.2.2 _; have ef1 : w3.frozen? ⟨eb, eo + m * 7 + 1, none⟩ = false := nn.2.2 _; have el : eb < w3.heap.size := nn.2.1; have HRB3 : Hid (_) := ((hb3.block _ (Array.getElem?_eq_some_iff.1 HRB2.out).1).trans HRB2.out); have HRL : Hid (w.heap.size + 1 < w2.heap.size) := (Array.getElem?_eq_some_iff.1 HRB2.out).1; rw [HS4.out]; clear nn hS hO hb3 m0 m1 m2 HRB2; dsimp only)
        | fail)
      obtain ⟨W4, hW4⟩ : ∃ W4, Hid (W4 = (w3.setCell ⟨eb, eo + m * 7, none⟩ (.int .i64 1)).alloc (.cells #[.slice nfa nfrs.length nfcap, .slice (some ⟨eb, eo, none⟩) 4 necap, .slice nqa nqus.length nqcap] 29)) := ⟨_, rfl⟩
      rw [<- hW4.out]
      have hok := HON.out.at_.enok m (by dsimp only; have := HS4.out; omega)
      dsimp only at hok
      rw [HE.out] at hok
      have HO4 : Hid (Owned w2.heap.size W4 ⟨nfa, nfrs, nfcap, some ⟨eb, eo, none⟩, nens.set m { (default : En) with st := 1 }, necap, nqa, nqus, nqcap⟩) := by
        show Owned _ _ _
        have := HON.out.setEn (k := m) (i0 := 0) (e' := { (default : En) with st := 1 }) (v := .int .i64 1) rfl (by dsimp only; have := HS4.out; omega) (by omega) ⟨by show (Lit.int .i64 1).wf = true; decide, hok.len, hok.wpc, hok.w0, hok.w1, hok.w2, hok.w3⟩ (fun i hi => by
          dsimp only
          rw [HE.out]
          match i, hi with
          | 0, _ => rfl
          | 1, _ => rfl
          | 2, _ => rfl
          | 3, _ => rfl
          | 4, _ => rfl
          | 5, _ => rfl
          | 6, _ => rfl)
        dsimp only [Nat.add_zero] at this
        rw [hW4.out]
        exact this.below ((Below.refl _ _).alloc (Nat.le_refl _) _)
      have hen := HON.out.ne eb eo none rfl
      have HB34 : Hid (Below w.heap.size w W4) := by
        show Below _ _ _
        have a := HB2.out.trans (HB3.out.mono HB2.out.size)
        have b := (a.setCell (p := ⟨eb, eo + m * 7, none⟩) (by have := HB2.out.size; have := hen.1; dsimp only; omega) (.int .i64 1))
        rw [hW4.out]
        exact b.alloc (by have := b.size; omega) _
      have hsz4 : W4.heap.size = w3.heap.size + 1 := by rw [hW4.out]; simp [World.setCell]
      have HBX : Hid (W4.heap[w3.heap.size]? = some (.cells #[.slice nfa nfrs.length nfcap, .slice (some ⟨eb, eo, none⟩) 4 necap, .slice nqa nqus.length nqcap] 29 (0, 0))) := by
        show _ = _
        rw [hW4.out]
        have := a11 (w3.setCell ⟨eb, eo + m * 7, none⟩ (.int .i64 1)) (.cells #[.slice nfa nfrs.length nfcap, .slice (some ⟨eb, eo, none⟩) 4 necap, .slice nqa nqus.length nqcap] 29)
        simpa [World.setCell] using this
      have HR4 : Hid (W4.heap[w.heap.size + 1]? = some (.cells #[.slice none 0 0, .slice none 0 0, .slice none 0 0] 29 (0, 0))) := by
        show _ = _
        rw [hW4.out, Below.heap_alloc _ _ _ (by simp [World.setCell]; have := HRL.out; have := HB3.out.size; omega), Below.heap_setCell _ _ _ _ (show w.heap.size + 1 ≠ eb by have := hen.1; have := HRL.out; omega)]
        exact HRB3.out
      obtain ⟨x0, x1, x2, _, _, _, xl⟩ := box_cells HBX.out
      obtain ⟨_, _, hea', u0, u1, _⟩ := HO4.out.at_.enclave (j := m) (by simp; have := HS4.out; omega)
      dsimp only at hea' u0 u1
      simp only [Option.some.injEq, Addr.mk.injEq, and_true] at hea'
      obtain ⟨rfl, rfl⟩ := hea'
      have EL4 : eb < W4.heap.size := by omega
      have F4 : Hid (∀ o, W4.frozen? ⟨eb, o, none⟩ = false) := (HO4.out.ne eb eo none rfl).2.2
      have HSZ : Hid (W4.heap.size = w3.heap.size + 1) := hsz4
      have HEN : Hid (w2.heap.size <= eb) := hen.1
      have X1 : Hid (w3.heap.size < W4.heap.size) := xl
      clear hen hsz4 hW4 t0 t1 ef0 ef1 hok HRB3 HB3 HON u0 x0 x2 h1 h2 h3
      clear HX B2 HB2
      go_region_law (go_simp; go_at_call 88; refine (HT.out _ (by first | exact HB34.out | exact HB34.out.drew)).mono ?_; rintro x w5 ⟨rfl, hb5⟩; have d1 : w5.cell? ⟨w3.heap.size, 1, none⟩ = some (.slice (some ⟨eb, eo, none⟩) 4 necap) := (hb5.cell (p := ⟨w3.heap.size, 1, none⟩) X1.out).trans x1; have d2 := (hb5.cell (p := ⟨eb, eo + m * 7 + 1, none⟩) EL4).trans u1; have d3 : w5.frozen? ⟨eb, eo + m * 7 + 1, none⟩ = false := (hb5.frozen (p := ⟨eb, _, none⟩) EL4).trans (F4.out _); dsimp only)
      all_goals
        have HQ5 : Hid (Below W4.heap.size W4 w5) := by first | exact hb5 | exact ((Below.refl _ _).drew).trans hb5
        have HB5 : Hid (Below w.heap.size w w5) := HB34.out.trans (HQ5.out.mono HB34.out.size)
        obtain ⟨W6, hW6⟩ : ∃ W6, Hid (W6 = w5.setCell ⟨eb, eo + m * 7 + 1, none⟩ (.string ⟨#[111, 112, 101, 110, 59]⟩)) := ⟨_, rfl⟩
        rw [<- hW6.out]
        have HO6 : Hid (Owned w2.heap.size W6 ⟨nfa, nfrs, nfcap, some ⟨eb, eo, none⟩, nens.set m openE, necap, nqa, nqus, nqcap⟩) := by
          show Owned _ _ _
          have h5 := HO4.out.below HQ5.out
          have hlm : m < (nens.set m { (default : En) with st := 1 }).length := by simp; have := HS4.out; omega
          have hgd : (nens.set m { (default : En) with st := 1 }).getD m default = { (default : En) with st := 1 } := by rw [getD_set _ _ _ _ (by have := HS4.out; omega), if_pos rfl]
          have z : (Lit.int .i64 0).wf = true := by decide
          have := h5.setEn (k := m) (i0 := 1) (e' := openE) (v := .string ⟨#[111, 112, 101, 110, 59]⟩) rfl hlm (by omega) ⟨by show (Lit.int .i64 1).wf = true; decide, by show (5 : Nat) <= maxLen; unfold maxLen; omega, z, z, z, z, z⟩ (fun i hi => by
            dsimp only
            rw [hgd]
            match i, hi with
            | 0, _ => rfl
            | 1, _ => rfl
            | 2, _ => rfl
            | 3, _ => rfl
            | 4, _ => rfl
            | 5, _ => rfl
            | 6, _ => rfl)
          dsimp only at this
          rw [List.set_set] at this
          rw [hW6.out]
          exact this
        have HB6 : Hid (Below w.heap.size w W6) := by
          show Below _ _ _
          rw [hW6.out]
          exact HB5.out.setCell (by have := HEN.out; have := HRL.out; dsimp only; omega) _
        have hs6 : ∀ b, b ≠ eb -> W6.heap[b]? = w5.heap[b]? := fun b hb => by rw [hW6.out, Below.heap_setCell _ _ _ _ hb]
        have HBX6 : Hid (_) := (hs6 w3.heap.size (by omega)).trans ((HQ5.out.block _ X1.out).trans HBX.out)
        have HR6 : Hid (_) := (hs6 (w.heap.size + 1) (by have := HEN.out; have := HRL.out; omega)).trans ((HQ5.out.block _ (Array.getElem?_eq_some_iff.1 HR4.out).1).trans HR4.out)
        obtain ⟨y0, y1, y2, _, _, _, yl⟩ := box_cells HBX6.out
        obtain ⟨r0, r1, r2, rf0, rf1, rf2, rl⟩ := box_cells HR6.out
        clear hb5 d1 d2 d3 x1 u1 HO4 HBX HR4 HT F4 hs6
        go_wp2
        obtain ⟨k0, k1, k2⟩ := blk3 (v0 := .slice nfa nfrs.length nfcap) (v1 := .slice (some ⟨eb, eo, none⟩) 4 necap) (v2 := .slice nqa nqus.length nqcap) r0 r1 r2
        (try simp only [Exit.inBlock, Exit.then])
        refine bodyPost_ret (by simp [results, Tryz.results92, go_sem, k0, k1, k2]; try rfl) rfl ?_
        exact ⟨⟨nfa, nfrs, nfcap, some ⟨eb, eo, none⟩, nens.set m openE, necap, nqa, nqus, nqcap⟩, by simp [HS4.out], by rw [RN.out]; exact ⟨HSN.out.len, HSN.out.fr, rfl, HSN.out.qu⟩, (HO6.out.keep (fun b hb _ => blk3_heap b (by have := HRL.out; omega)) (by rw [blk3_size]; exact Nat.le_refl _)).mono (by first | exact HB1.out.size | (have := HRL.out; omega) | omega), blk3_below HB6.out (by omega)⟩
  · have hz1 : (machF M != 0) = true := by simpa using hz
    rw [if_neg hz] at hF0
    have RN : RM = noM := by rw [hRM.out]; unfold creM; rw [hF0, if_neg hz]
    rw [hF0, if_neg hz] at hN0
    rw [hN0, hF0]
    subst RN
    unfold Mv.val at h1 h2 ⊢
    obtain ⟨fa, frs, fcap, ea, ens, ecap, qa, qus, qcap⟩ := M
    dsimp only at h1 h2 h3 ⊢
    have B2 : ∀ o1 o2, Hid (Below w.heap.size w ((w.alloc o1).alloc o2)) := fun o1 o2 => a2B _ _ _
    have HX : ∀ o1 o2 w1, Hid (Below ((w.alloc o1).alloc o2).heap.size ((w.alloc o1).alloc o2) w1 -> Below w.heap.size w w1) := fun o1 o2 w1 h => (B2 o1 o2).out.trans (h.mono (by simp; omega))
    have CF : Hid (_) := boxes_blk w (.slice fa frs.length fcap) (.slice ea ens.length ecap) (.slice qa qus.length qcap)
    clear hM hF hz hRM ht h4 hN0 hF0 hI0
    generalize machF _ = z at h1 hz1 ⊢
    go_enter Tryz.func92, Tryz.ntmps92
    go_wp2_with (first
      | (go_at_call 28; refine (h1 _ (B2 _ _).out).mono ?_; rintro x w1 ⟨rfl, hb1⟩; obtain ⟨AB, RB⟩ := CF.out w1 hb1; have HB1 : Hid (Below w.heap.size w w1) := (HX _ _ _).out hb1; obtain ⟨r0, r1, r2, rf0, rf1, rf2, rl⟩ := box_cells RB; clear hb1 CF AB RB)
      | fail)
    obtain ⟨k0, k1, k2⟩ := blk3 (v0 := .slice none 0 0) (v1 := .slice none 0 0) (v2 := .slice none 0 0) r0 r1 r2
    (try simp only [Exit.inBlock, Exit.then])
    refine bodyPost_ret (by simp [results, Tryz.results92, go_sem, k0, k1, k2]; try rfl) rfl ?_
    exact ⟨noM, rfl, Mv.Same.refl _, noM_own _ _, blk3_below HB1.out (by omega)⟩
end Go.Proofs.YtdngbojbpmdegaaGreatDoor

namespace Go.Proofs.YtdngbojbpmdegaaGreatDoor
open Go.RowKit
set_option linter.unusedVariables false
set_option maxRecDepth 100000 in
set_option maxHeartbeats 2000000 in
theorem create_site {n0 : Nat} {w : World} {b : Nat} {M : Mv} {C : Cv} (h : Site n0 w b M C) (hF : M.Fits) (ht : Tab w) :
    Calls Tryz.prog 100 #[.pointer (some ⟨b, 0, none⟩)] w (DoSaid n0 w b M C (creF M) (creN M) (if creF M = 0 then creM M else M) C) := by
  obtain ⟨W1, hW1⟩ : ∃ W1, Hid (W1 = w.alloc (.cells #[.int .i64 0, .int .i64 0] 39)) := ⟨_, rfl⟩
  obtain ⟨bw, q1⟩ := al1w w (.cells #[.int .i64 0, .int .i64 0] 39)
  rw [<- hW1.out] at bw q1
  have BW : Hid (_) := bw
  have QR : Hid (_) := q1
  have HST : Hid (Site n0 W1 b M C) := h.keep bw
  have c1 := create_any M W1 HST.out.own.at_ hF (ht.below bw)
  obtain ⟨z, hz⟩ : ∃ z, Hid (z = creF M) := ⟨_, rfl⟩
  obtain ⟨n, hn⟩ : ∃ n, Hid (n = creN M) := ⟨_, rfl⟩
  obtain ⟨T, hT⟩ : ∃ T, Hid (T = creM M) := ⟨_, rfl⟩
  obtain ⟨TM, hTM⟩ : ∃ TM, Hid (TM = if creF M = 0 then creM M else M) := ⟨_, rfl⟩
  rw [<- hTM.out, <- hz.out, <- hn.out]
  rw [<- hz.out, <- hT.out] at hTM
  rw [<- hz.out, <- hn.out, <- hT.out] at c1
  unfold Mv.val at c1
  have HBL : Hid (b < w.heap.size) := h.lt
  have OLD : Hid (_) := h
  have s0 := HST.out.c0
  have sf0 := HST.out.fz 0
  have s1 := HST.out.c1
  have sf1 := HST.out.fz 1
  have s2 := HST.out.c2
  have sf2 := HST.out.fz 2
  have sl := HST.out.lt
  clear h hF ht bw q1 hz hn hT
  go_enter Tryz.func100, Tryz.ntmps100
  go_upto_region 1 with fail
  rw [<- hW1.out]
  clear hW1
  go_upto_region 2 with (go_at_call 92; refine c1.mono ?_; clear c1; rintro x w1 ⟨N, rfl, hS, hO, hb⟩; have HS : Hid (_) := hS; have HO : Hid (_) := hO; have HB : Hid (_) := hb; clear hS hO hb)
  obtain ⟨V1, hV1⟩ : ∃ V1, Hid (V1 = w1.alloc (.cells #[.slice N.fa N.frs.length N.fcap, .slice N.ea N.ens.length N.ecap, .slice N.qa N.qus.length N.qcap] 29)) := ⟨_, rfl⟩
  obtain ⟨bv, q2⟩ := al1w w1 (.cells #[.slice N.fa N.frs.length N.fcap, .slice N.ea N.ens.length N.ecap, .slice N.qa N.qus.length N.qcap] 29)
  rw [<- hV1.out] at bv q2
  rw [<- hV1.out]
  have BV : Hid (Below W1.heap.size W1 V1) := HB.out.trans (bv.mono HB.out.size)
  have HST1 : Hid (Site n0 V1 b M C) := HST.out.keep BV.out
  have c2 := changed_any HST1.out ((HO.out.below bv).mono HST.out.ge) (fun q => by have h1 := (Mine.fresh HO.out q).1; have h2 := BW.out.size; have h3 := HBL.out; omega) z
  unfold Mv.val at c2
  have p0 : V1.cell? ⟨w1.heap.size, 0, none⟩ = some (.slice N.fa N.frs.length N.fcap) := by simp [World.cell?, q2]
  have p1 : V1.cell? ⟨w1.heap.size, 1, none⟩ = some (.slice N.ea N.ens.length N.ecap) := by simp [World.cell?, q2]
  have p2 : V1.cell? ⟨w1.heap.size, 2, none⟩ = some (.slice N.qa N.qus.length N.qcap) := by simp [World.cell?, q2]
  have pl : w1.heap.size < V1.heap.size := lt_of_cell p0
  clear hV1 bv q2 s0 s1 s2 sf0 sf1 sf2 sl
  go_upto_region 3 with (go_at_call 101; refine c2.mono ?_; clear c2; rintro x w2 ⟨M', hM', rfl, hS, hF⟩; have HM' : Hid (_) := hM'; have HS2 : Hid (_) := hS; have HF2 : Hid (_) := hF; clear hM' hS hF)
  obtain ⟨V2, hV2⟩ : ∃ V2, Hid (V2 = w2.alloc (.cells #[.int .i64 z, .int .i64 0] 39)) := ⟨_, rfl⟩
  obtain ⟨bv, q3⟩ := al1w w2 (.cells #[.int .i64 z, .int .i64 0] 39)
  rw [<- hV2.out] at bv q3
  rw [<- hV2.out]
  have HST2 : Hid (Site n0 V2 b M' C) := HS2.out.keep bv
  have F2 : Hid (Far b w V2) := (((Far.of_below BW.out).trans (Far.of_below BV.out)).trans HF2.out).trans (Far.of_below bv)
  have sz1 := BW.out.size
  have lR : w.heap.size < W1.heap.size := (Array.getElem?_eq_some_iff.1 QR.out).1
  have sz2 := BV.out.size
  have sz3 := HF2.out.size
  have sz4 := bv.size
  have nb : w.heap.size ≠ b := by have := HBL.out; omega
  have q4 := (bv.block w.heap.size (by omega)).trans ((HF2.out.block w.heap.size (by omega) nb).trans ((BV.out.block w.heap.size lR).trans QR.out))
  have r0 : V2.cell? ⟨w.heap.size, 0, none⟩ = some (.int .i64 0) := by simp [World.cell?, q4]
  have r1 : V2.cell? ⟨w.heap.size, 1, none⟩ = some (.int .i64 0) := by simp [World.cell?, q4]
  have rl : w.heap.size < V2.heap.size := lt_of_cell r0
  have rf0 := frozen_of_block q4 0
  have rf1 := frozen_of_block q4 1
  have t0 : V2.cell? ⟨w2.heap.size, 0, none⟩ = some (.int .i64 z) := by simp [World.cell?, q3]
  have t1 : V2.cell? ⟨w2.heap.size, 1, none⟩ = some (.int .i64 0) := by simp [World.cell?, q3]
  have tl : w2.heap.size < V2.heap.size := lt_of_cell t0
  have tf0 := frozen_of_block q3 0
  have tf1 := frozen_of_block q3 1
  have nRT : w.heap.size ≠ w2.heap.size := by omega
  have NEW : Hid (¬ (w2.heap.size = b ∨ Mine M' w2.heap.size ∨ MineC C w2.heap.size) /\ ¬ (w.heap.size = b ∨ Mine M' w.heap.size ∨ MineC C w.heap.size)) := by
    refine ⟨HS2.out.new (Nat.le_refl _), ?_⟩
    rintro (q | q | q)
    · exact nb q
    · rw [HM'.out] at q
      split at q
      · have := (Mine.fresh HO.out q).1; omega
      · have := (Mine.fresh (show Owned n0 w M from OLD.out.own) q).2; omega
    · have := (MineC.fresh (show COwn n0 w C from OLD.out.cown) q).2; omega
  clear hV2 bv q3 q4 p0 p1 p2 pl
  go_wp2
  refine bp_genR fun V9 hV9 => ?_
  have s3 := HST2.out.far NEW.out.1 1 (.int .i64 n)
  have F3 : Far b w (V2.setCell ⟨w2.heap.size, 1, none⟩ (.int .i64 n)) := F2.out.set (.inr (by omega)) 1 _
  have r0' := (cell_offH nRT 1 0 (.int .i64 n)).trans r0
  have r1' := (cell_offH nRT 1 1 (.int .i64 n)).trans r1
  generalize V2.setCell ⟨w2.heap.size, 1, none⟩ (.int .i64 n) = V3 at hV9 s3 F3 r0' r1'
  obtain ⟨k9, k0, k1⟩ := s3.ans NEW.out.2 r0' r1' hV9
  have F9 : Far b w V9 := by rw [hV9]; exact (F3.set (.inr (Nat.le_refl _)) 0 _).set (.inr (Nat.le_refl _)) 1 _
  clear hV9
  (try simp only [Exit.inBlock, Exit.then])
  refine bodyPost_ret (by simp [results, Tryz.results100, go_sem, k0, k1]; try rfl) rfl ?_
  refine ⟨M', C, rfl, ?_, Cv.Same.refl _, k9, F9, fun c hc q => ?_⟩
  · rw [HM'.out, hTM.out]
    split
    · exact HS.out
    · exact Mv.Same.refl _
  · rcases q with q | q
    · rw [HM'.out] at q
      split at q
      · have h1 := (Mine.fresh HO.out q).1; have h2 := BW.out.size; omega
      · exact .inl q
    · exact .inr q
end Go.Proofs.YtdngbojbpmdegaaGreatDoor

namespace Go.Proofs.YtdngbojbpmdegaaGreatDoor
open Go.RowKit
def tooLong (s : ByteArray) : Bool := decide (1000 < (s.size : Int))
def noNonce (n : Int) : Bool := !inB n 0 1
def chF (tr : List ByteArray) (ns : List Int) : Int := if 4 < tr.length ∨ 20 < ns.length then 1 else if tr.any tooLong || ns.any noNonce then 8 else 0
theorem chF_zero {tr : List ByteArray} {ns : List Int} (h : chF tr ns = 0) : tr.length <= 4 /\ ns.length <= 20 /\ tr.any tooLong = false /\ ns.any noNonce = false := by
  unfold chF at h
  split at h
  · omega
  · rename_i h1
    split at h
    · omega
    · rename_i h2
      simp only [Bool.or_eq_true, not_or, Bool.not_eq_true] at h2
      exact ⟨by omega, by omega, h2.1, h2.2⟩
set_option maxHeartbeats 400000 in
theorem tooLong_any (s : ByteArray) (w : World) : Calls Tryz.prog 82 #[.string s] w fun e w' => e = .returned (.bool (tooLong s)) /\ Below w.heap.size w w' := by
  unfold tooLong
  go_enter Tryz.func82, Tryz.ntmps82
  go_wp2
  go_ret
  exact ⟨rfl, Below.refl _ _⟩
theorem noNonce_any (n : Int) (w : World) : Calls Tryz.prog 83 #[.int .i64 n] w fun e w' => e = .returned (.bool (noNonce n)) /\ Below w.heap.size w w' := by
  have hE : noNonce n = (n != 0 && n != 1) := by
    unfold noNonce inB
    rw [Bool.eq_iff_iff]
    simp
    omega
  rw [hE]
  by_cases h0 : n = 0
  · subst h0
    go_enter Tryz.func83, Tryz.ntmps83
    go_wp2
    go_ret
    exact ⟨rfl, Below.refl _ _⟩
  · have h1 : (n != 0) = true := by simpa using h0
    rw [h1]
    clear h0 hE
    go_enter Tryz.func83, Tryz.ntmps83
    go_wp2
    go_ret
    exact ⟨rfl, Below.refl _ _⟩
set_option maxHeartbeats 800000 in
theorem tooLong_index (a : Option Addr) (xs : List ByteArray) (cap : Nat) (p : ByteArray -> Bool) (w : World) (hl : xs.length <= maxLen) (hx : Texts w a xs)
    (hp : ∀ x w', Below w.heap.size w w' -> Calls Tryz.prog 82 #[.string x] w' fun e w'' => e = .returned (.bool (p x)) /\ Below w'.heap.size w' w'') :
    Calls Tryz.prog 120 #[.slice a xs.length cap, .func (.func 82) #[] #[]] w fun e w' => e = .returned (.int .i64 (idxOf p xs)) /\ Below w.heap.size w w' := by
  unfold maxLen at hl
  rcases hx with rfl | ⟨b, off, rfl, hc⟩
  · clear hp
    go_enter Tryz.func120, Tryz.ntmps120
    go_wp2
    refine wp_loop_rounds 1 ?_
    rw [rounds_succ]
    go_wp2
    go_ret
    exact ⟨rfl, Below.refl _ _⟩
  · go_enter Tryz.func120, Tryz.ntmps120
    go_wp2
    go_loopw [8] (fun i wr => ∃ k : Nat, k <= xs.length /\ i = .int .i64 k /\ Below w.heap.size w wr /\ Hid (∀ j, j < k -> p (xs.getD j default) = false)) (fun i _ => xs.length - (intOf i).toNat)
    case atStart => exact ⟨0, Nat.zero_le _, rfl, Below.refl _ _, fun j hj => absurd hj (by omega)⟩
    case round =>
      obtain ⟨k, hk, rfl, hbel, hid⟩ := hrel
      by_cases hlt : k < xs.length
      · have k0 := hc k hlt
        obtain ⟨P, hP⟩ : ∃ P, xs.getD k default = P := ⟨_, rfl⟩
        rw [hP] at k0
        have HP : Hid (xs.getD k default = P) := hP
        have hcall := hp P
        clear hP hc hp
        have bl : b < w.heap.size := lt_of_cell k0
        have l0 : wr.cell? ⟨b, off + k, none⟩ = some (.string P) := (hbel.cell (p := ⟨b, _, none⟩) bl).trans k0
        clear k0 bl
        obtain ⟨z, hz⟩ : ∃ z, p P = z := ⟨_, rfl⟩
        rw [hz] at hcall
        have HZ : Hid (p (xs.getD k default) = z) := by rw [HP.out]; exact hz
        clear hz
        cases z with
        | false =>
          go_wp2_with (go_at_call 82; refine (hcall _ hbel).mono ?_; rintro e w1 ⟨rfl, hb1⟩)
          go_roundw
          case rel => exact ⟨k + 1, by omega, by go_num, hbel.trans (hb1.mono hbel.size), snoc_false hid HZ.out⟩
          case measure => simp [intOf]; omega
        | true =>
          go_wp2_with (go_at_call 82; refine (hcall _ hbel).mono ?_; rintro e w1 ⟨rfl, hb1⟩)
          go_ret
          exact ⟨ret_int (idxOf_at hlt hid.out HZ.out).symm, hbel.trans (hb1.mono hbel.size)⟩
      · have hkl : k = xs.length := by omega
        subst hkl
        clear hp hc
        go_wp2
        go_ret
        exact ⟨ret_int (idxOf_none hid.out).symm, hbel⟩
theorem tooLong_contains (a : Option Addr) (xs : List ByteArray) (cap : Nat) (p : ByteArray -> Bool) (w : World) (hl : xs.length <= maxLen) (hx : Texts w a xs)
    (hp : ∀ x w', Below w.heap.size w w' -> Calls Tryz.prog 82 #[.string x] w' fun e w'' => e = .returned (.bool (p x)) /\ Below w'.heap.size w' w'') :
    Calls Tryz.prog 84 #[.slice a xs.length cap, .func (.func 82) #[] #[]] w fun e w' => e = .returned (.bool (xs.any p)) /\ Below w.heap.size w w' := by
  have hI := tooLong_index a xs cap  p w hl hx hp
  have E := idxOf_any p xs
  generalize idxOf p xs = z at hI E
  rw [<- E]
  clear hx hl hp E
  go_enter Tryz.func84, Tryz.ntmps84
  go_wp2_with (go_at_call 120; refine hI.mono ?_; rintro e w' ⟨rfl, hb⟩)
  go_ret
  exact ⟨rfl, hb⟩
set_option maxHeartbeats 800000 in
theorem noNonce_index (a : Option Addr) (xs : List Int) (cap : Nat) (p : Int -> Bool) (w : World) (hl : xs.length <= maxLen) (hx : Ints w a xs)
    (hp : ∀ x w', Below w.heap.size w w' -> Calls Tryz.prog 83 #[.int .i64 x] w' fun e w'' => e = .returned (.bool (p x)) /\ Below w'.heap.size w' w'') :
    Calls Tryz.prog 121 #[.slice a xs.length cap, .func (.func 83) #[] #[]] w fun e w' => e = .returned (.int .i64 (idxOf p xs)) /\ Below w.heap.size w w' := by
  unfold maxLen at hl
  rcases hx with rfl | ⟨b, off, rfl, hc⟩
  · clear hp
    go_enter Tryz.func121, Tryz.ntmps121
    go_wp2
    refine wp_loop_rounds 1 ?_
    rw [rounds_succ]
    go_wp2
    go_ret
    exact ⟨rfl, Below.refl _ _⟩
  · go_enter Tryz.func121, Tryz.ntmps121
    go_wp2
    go_loopw [8] (fun i wr => ∃ k : Nat, k <= xs.length /\ i = .int .i64 k /\ Below w.heap.size w wr /\ Hid (∀ j, j < k -> p (xs.getD j default) = false)) (fun i _ => xs.length - (intOf i).toNat)
    case atStart => exact ⟨0, Nat.zero_le _, rfl, Below.refl _ _, fun j hj => absurd hj (by omega)⟩
    case round =>
      obtain ⟨k, hk, rfl, hbel, hid⟩ := hrel
      by_cases hlt : k < xs.length
      · have k0 := hc k hlt
        obtain ⟨P, hP⟩ : ∃ P, xs.getD k 0 = P := ⟨_, rfl⟩
        rw [hP] at k0
        have HP : Hid (xs.getD k default = P) := hP
        have hcall := hp P
        clear hP hc hp
        have bl : b < w.heap.size := lt_of_cell k0
        have l0 : wr.cell? ⟨b, off + k, none⟩ = some (.int .i64 P) := (hbel.cell (p := ⟨b, _, none⟩) bl).trans k0
        clear k0 bl
        obtain ⟨z, hz⟩ : ∃ z, p P = z := ⟨_, rfl⟩
        rw [hz] at hcall
        have HZ : Hid (p (xs.getD k default) = z) := by rw [HP.out]; exact hz
        clear hz
        cases z with
        | false =>
          go_wp2_with (go_at_call 83; refine (hcall _ hbel).mono ?_; rintro e w1 ⟨rfl, hb1⟩)
          go_roundw
          case rel => exact ⟨k + 1, by omega, by go_num, hbel.trans (hb1.mono hbel.size), snoc_false hid HZ.out⟩
          case measure => simp [intOf]; omega
        | true =>
          go_wp2_with (go_at_call 83; refine (hcall _ hbel).mono ?_; rintro e w1 ⟨rfl, hb1⟩)
          go_ret
          exact ⟨ret_int (idxOf_at hlt hid.out HZ.out).symm, hbel.trans (hb1.mono hbel.size)⟩
      · have hkl : k = xs.length := by omega
        subst hkl
        clear hp hc
        go_wp2
        go_ret
        exact ⟨ret_int (idxOf_none hid.out).symm, hbel⟩
theorem noNonce_contains (a : Option Addr) (xs : List Int) (cap : Nat) (p : Int -> Bool) (w : World) (hl : xs.length <= maxLen) (hx : Ints w a xs)
    (hp : ∀ x w', Below w.heap.size w w' -> Calls Tryz.prog 83 #[.int .i64 x] w' fun e w'' => e = .returned (.bool (p x)) /\ Below w'.heap.size w' w'') :
    Calls Tryz.prog 85 #[.slice a xs.length cap, .func (.func 83) #[] #[]] w fun e w' => e = .returned (.bool (xs.any p)) /\ Below w.heap.size w w' := by
  have hI := noNonce_index a xs cap  p w hl hx hp
  have E := idxOf_any p xs
  generalize idxOf p xs = z at hI E
  rw [<- E]
  clear hx hl hp E
  go_enter Tryz.func85, Tryz.ntmps85
  go_wp2_with (go_at_call 121; refine hI.mono ?_; rintro e w' ⟨rfl, hb⟩)
  go_ret
  exact ⟨rfl, hb⟩
theorem box2 {x v : World} {a b : Value} {t : TypeId} (h : Below (x.alloc (.cells #[a, b] t)).heap.size (x.alloc (.cells #[a, b] t)) v) :
    v.cell? ⟨x.heap.size, 0, none⟩ = some a /\ v.cell? ⟨x.heap.size, 1, none⟩ = some b /\ x.heap.size < v.heap.size := by
  refine ⟨(h.cell (p := ⟨x.heap.size, 0, none⟩) (by simp)).trans ?_, (h.cell (p := ⟨x.heap.size, 1, none⟩) (by simp)).trans ?_, by have := h.size; simp at this; omega⟩
  · rw [World.cell?_alloc_at _ _ _ _ rfl]; rfl
  · rw [World.cell?_alloc_at _ _ _ _ rfl]; rfl
set_option maxRecDepth 100000 in
set_option maxHeartbeats 1600000 in
theorem checkC_any (C : Cv) (w : World) (hC : ChalAt w C) :
    Calls Tryz.prog 29 #[C.val] w fun x w' => x = .returned (.int .i64 (chF C.tr C.ns)) /\ Below w.heap.size w w' := by
  have h1 := fun w' (h : Below w.heap.size w w') => tooLong_contains C.ta C.tr C.tcap tooLong w' hC.ok.trl (hC.tr.below h) (fun s w'' _ => tooLong_any s w'')
  have h2 := fun w' (h : Below w.heap.size w w') => noNonce_contains C.na C.ns C.ncap noNonce w' hC.ok.nsl (hC.ns.below h) (fun s w'' _ => noNonce_any s w'')
  have B1 : ∀ o, Hid (Below w.heap.size w (w.alloc o)) := fun o => (Below.refl _ _).alloc (Nat.le_refl _) _
  have hl1 := hC.ok.trl
  have hl2 := hC.ok.nsl
  unfold maxLen at hl1 hl2
  unfold Cv.val chF
  clear hC
  obtain ⟨ta, tr, tcap, na, ns, ncap⟩ := C
  dsimp only at *
  by_cases k1 : 4 < tr.length
  · rw [if_pos (.inl k1)]
    clear h1 h2
    go_enter Tryz.func29, Tryz.ntmps29
    go_wp2
    go_ret
    exact ⟨rfl, (B1 _).out⟩
  · by_cases k2 : 20 < ns.length
    · rw [if_pos (.inr k2)]
      clear h1 h2
      go_enter Tryz.func29, Tryz.ntmps29
      go_wp2
      go_ret
      exact ⟨rfl, (B1 _).out⟩
    · rw [if_neg (by omega)]
      generalize tr.any tooLong = z1 at h1
      generalize ns.any noNonce = z2 at h2
      cases z1 with
      | true =>
        clear h2
        go_enter Tryz.func29, Tryz.ntmps29
        go_wp2_with (go_at_call 84; refine (h1 _ (B1 _).out).mono ?_; rintro x w1 ⟨rfl, hb1⟩)
        go_ret
        exact ⟨rfl, (B1 _).out.trans (hb1.mono (by simp))⟩
      | false =>
        cases z2
        all_goals
          go_enter Tryz.func29, Tryz.ntmps29
          go_wp2_with (first
            | (go_at_call 84; refine (h1 _ (B1 _).out).mono ?_; rintro x w1 ⟨rfl, hb1⟩; obtain ⟨m0, m1, ml⟩ := box2 hb1; have HB1 : Hid (Below w.heap.size w w1) := (B1 _).out.trans (hb1.mono (by simp)); clear hb1)
            | (go_at_call 85; refine (h2 _ HB1.out).mono ?_; rintro x w2 ⟨rfl, hb2⟩)
            | fail)
          go_ret
          exact ⟨rfl, HB1.out.trans (hb2.mono HB1.out.size)⟩
end Go.Proofs.YtdngbojbpmdegaaGreatDoor

namespace Go.Proofs.YtdngbojbpmdegaaGreatDoor
open Go.RowKit
theorem bp_gen {P : Program} {f : Func} {Q : Ending -> World -> Prop} {ex : Exit} {a : Act} {W : World} (h : ∀ W9, W9 = W -> bodyPost P f Q ex a W9) : bodyPost P f Q ex a W := h W rfl
def sets (W : World) (R : Nat) (v0 v1 : Value) : World := (W.setCell ⟨R, 0, none⟩ v0).setCell ⟨R, 1, none⟩ v1
theorem sets_cells {W : World} {R : Nat} {v0 v1 x0 x1 : Value} (h0 : W.cell? ⟨R, 0, none⟩ = some x0) (h1 : W.cell? ⟨R, 1, none⟩ = some x1) : (sets W R v0 v1).cell? ⟨R, 0, none⟩ = some v0 /\ (sets W R v0 v1).cell? ⟨R, 1, none⟩ = some v1 := by
  refine ⟨?_, ?_⟩
  · unfold sets
    rw [World.cell?_setCell_other _ _ _ _ (by simp)]
    exact World.cell?_setCell_same _ _ _ h0
  · exact World.cell?_setCell_same _ _ _ ((World.cell?_setCell_other _ _ _ _ (by simp)).trans h1)
theorem blk2 {w : World} {b : Nat} {v0 v1 x0 x1 : Value} (h0 : w.cell? ⟨b, 0, none⟩ = some x0) (h1 : w.cell? ⟨b, 1, none⟩ = some x1) :
    ((w.setCell ⟨b, 0, none⟩ v0).setCell ⟨b, 1, none⟩ v1).cell? ⟨b, 0, none⟩ = some v0 /\ ((w.setCell ⟨b, 0, none⟩ v0).setCell ⟨b, 1, none⟩ v1).cell? ⟨b, 1, none⟩ = some v1 := sets_cells h0 h1
theorem sets_below {w W : World} {B R : Nat} {v0 v1 : Value} (hR : B <= R) (h : Below B w W) : Below B w (sets W R v0 v1) := (h.setCell (by simpa using hR) _).setCell (by simpa using hR) _
theorem two0 {w W W9 : World} {R : Nat} {v0 v1 x0 x1 : Value} (hR : w.heap.size <= R) (h0 : W.cell? ⟨R, 0, none⟩ = some x0) (h1 : W.cell? ⟨R, 1, none⟩ = some x1) (hb : Below w.heap.size w W) (h9 : W9 = (sets W R v0 v1).drew) :
    W9.cell? ⟨R, 0, none⟩ = some v0 /\ W9.cell? ⟨R, 1, none⟩ = some v1 /\ Below w.heap.size w W9 := by
  subst h9
  exact ⟨(sets_cells h0 h1).1, (sets_cells h0 h1).2, (sets_below hR hb).drew⟩
end Go.Proofs.YtdngbojbpmdegaaGreatDoor
