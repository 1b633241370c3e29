/-
  What the calls Create (epc) and CreatedOf (riddleref) answer for every machine: both what the document asks, in memory of their own; they turn nothing that was in memory. The conditions: the lists are within the reach of the form; the library's tables are laid.
-/
import Derived.Test.YtdbbiibnhgcndaaDoorBoxes
import Derived.Test.YtdbbiibnhgcndaaDoorIdxCreate
import Derived.Test.YtdbbiibnhgcndaaDoorOpens
namespace Go.Proofs.YtdbbiibnhgcndaaDoor
open Go.RowKit

def emptyB (e : En) : Bool := e.st == 0
/-- the first enclave that is Empty -/
def creI (M : Mv) : Int := idxOf emptyB M.ens
/-- what Create is refused for -/
def creF (M : Mv) : Int := if machF M = 0 then (if creI M < 0 then 7 else 0) else machF M
def creN (M : Mv) : Int := if creF M = 0 then creI M + 1 else 0
/-- an enclave that is Opened, and has no page yet -/
def openE : En := ⟨1, ⟨#[111, 112, 101, 110, 59]⟩, 0, 0, 0, 0, 0⟩
def creM (M : Mv) : Mv := if creF M = 0 then { M with ens := M.ens.set (creI M).toNat openE } else noM
theorem creI_same {M N : Mv} (h : M.Same N) : creI M = creI N := by unfold creI; rw [h.en]
theorem creF_same {M N : Mv} (h : M.Same N) : creF M = creF N := by unfold creF; rw [machF_same h, creI_same h]
theorem creN_same {M N : Mv} (h : M.Same N) : creN M = creN N := by unfold creN; rw [creF_same h, creI_same h]
theorem creM_same {M N : Mv} (h : M.Same N) : (creM M).Same (creM N) := by
  unfold creM
  rw [creF_same h, creI_same h, h.en]
  split
  · exact ⟨h.len, h.fr, rfl, h.qu⟩
  · exact Mv.Same.refl _
theorem idxOf_cases {α : Type} [Inhabited α] (p : α → Bool) (xs : List α) : (idxOf p xs = -1 ∧ ∀ j, j < xs.length → p (xs.getD j default) = false) ∨ ∃ k : Nat, idxOf p xs = (k : Int) ∧ k < xs.length ∧ p (xs.getD k default) = true ∧ ∀ j, j < k → p (xs.getD j default) = false := by
  unfold idxOf
  cases h : xs.findIdx? p with
  | none =>
    left
    refine ⟨rfl, fun j hj => ?_⟩
    have := List.findIdx?_eq_none_iff.1 h (xs.getD j default) (by simp [List.getD_eq_getElem?_getD, hj])
    simpa using this
  | some i =>
    right
    obtain ⟨h1, h2, h3⟩ := List.findIdx?_eq_some_iff_getElem.1 h
    refine ⟨i, rfl, h1, by simpa [List.getD_eq_getElem?_getD, h1] using h2, fun j hj => ?_⟩
    have := h3 j hj
    have hl : j < xs.length := by omega
    simpa [List.getD_eq_getElem?_getD, hl] using this
/-- an Empty enclave of a machine that may be has nothing -/
theorem empty_en {M : Mv} (hz : machF M = 0) {k : Nat} (hk : k < M.ens.length) (h : emptyB (M.ens.getD k default) = true) : M.ens.getD k default = default := by
  have hg := List.all_eq_true.1 (machF_all hz).1 (M.ens.getD k default) (by simp [List.getD_eq_getElem?_getD, hk])
  generalize M.ens.getD k default = E at h hg
  obtain ⟨st, lg, pc, g0, g1, g2, g3⟩ := E
  simp only [emptyB, beq_iff_eq] at h
  subst h
  simp [En.good, En.zeros] at hg
  obtain ⟨⟨_, h2⟩, h3, ⟨⟨h4, h5⟩, h6⟩, h7⟩ := hg
  subst h3 h4 h5 h6 h7
  rw [h2]
  rfl

theorem create1_any (st pc g0 g1 g2 g3 : Int) (lg : ByteArray) (w : World) :
    Calls Tryd.prog 46 #[.agg #[.int .i64 st, .string lg, .int .i64 pc, .int .i64 g0, .int .i64 g1, .int .i64 g2, .int .i64 g3]] w fun x w' => x = .returned (.bool (emptyB ⟨st, lg, pc, g0, g1, g2, g3⟩)) ∧ Below w.heap.size w w' := by
  go_enter Tryd.func46, Tryd.ntmps46
  go_wp2
  go_ret
  exact ⟨rfl, (Below.refl _ _).alloc (Nat.le_refl _) _⟩

set_option maxRecDepth 100000 in
set_option maxHeartbeats 4000000 in
theorem create_any (M : Mv) (w : World) (hM : MachAt w M) (hF : M.Fits) (ht : Tab w) :
    Calls Tryd.prog 25 #[M.val] w fun x w' => ∃ N : Mv, x = .returned (.tuple #[N.val, .int .i64 (creN M), .int .i64 (creF M)]) ∧ N.Same (creM M) ∧ Owned w.heap.size w' N ∧ Below w.heap.size w w' := by
  have h1 := fun w' (h : Below w.heap.size w w') => checkM_any M w' (hM.below h)
  have h2 := fun w' (h : Below w.heap.size w w') => copyM_any M w' (hM.below h) hF
  have h3 := fun w' (h : Below w.heap.size w w') => emp_index M.ea M.ens M.ecap emptyB w' hM.enl (hM.below h).en (fun j _ w'' _ => create1_any _ _ _ _ _ _ _ w'')
  have h4 := fun w' (h : Below w.heap.size w w') => opened_any w' (ht.below h)
  obtain ⟨RM, hRM⟩ : ∃ RM, Hid (RM = creM M) := ⟨_, rfl⟩
  rw [← hRM.out]
  have HMM : Hid (M = M) := rfl
  have hN0 : creN M = if creF M = 0 then creI M + 1 else 0 := rfl
  have hF0 : creF M = if machF M = 0 then (if creI M < 0 then 7 else 0) else machF M := rfl
  have hI0 : idxOf emptyB M.ens = creI M := rfl
  rw [hI0] at h3
  by_cases hz : machF M = 0
  · rw [if_pos hz] at hF0
    rw [hz] at h1
    rcases idxOf_cases emptyB M.ens with ⟨hi, _⟩ | ⟨m, hi, hml, hme, _⟩
    · rw [hI0] at hi
      have RN : RM = noM := by rw [hRM.out]; unfold creM; rw [hF0, hi]; rfl
      rw [hF0, hi] at hN0
      rw [hi] at hF0 h3
      rw [hN0, hF0]
      subst RN
      unfold Mv.val at h1 h2 ⊢
      obtain ⟨fa, frs, fcap, ea, ens, ecap, qa, qus, qcap⟩ := M
      dsimp only at h1 h2 h3 ⊢
      have B2 : ∀ o1 o2, Hid (Below w.heap.size w ((w.alloc o1).alloc o2)) := fun o1 o2 => a2B _ _ _
      have HX : ∀ o1 o2 w1, Hid (Below ((w.alloc o1).alloc o2).heap.size ((w.alloc o1).alloc o2) w1 → Below w.heap.size w w1) := fun o1 o2 w1 h => (B2 o1 o2).out.trans (h.mono (by simp; omega))
      have CF : Hid (_) := boxes_blk w (.slice fa frs.length fcap) (.slice ea ens.length ecap) (.slice qa qus.length qcap)
      clear hM hF hz hi hRM ht h4 hN0 hF0 hI0
      go_enter Tryd.func25, Tryd.ntmps25
      go_wp2_with (first
        | (go_at_call 45; refine (h1 _ (B2 _ _).out).mono ?_; rintro x w1 ⟨rfl, hb1⟩; obtain ⟨AB, RB⟩ := CF.out w1 hb1; have HRB : Hid (_) := RB; have HB1 : Hid (Below w.heap.size w w1) := (HX _ _ _).out hb1; obtain ⟨m0, m1, m2, _, _, _, ml⟩ := box_cells AB; clear hb1 CF AB RB)
        | (go_at_call 47; refine (h3 _ HB1.out).mono ?_; rintro x w2 ⟨rfl, hb2⟩; obtain ⟨r0, r1, r2, rf0, rf1, rf2, rl⟩ := box_cells ((hb2.block _ (Array.getElem?_eq_some_iff.1 HRB.out).1).trans HRB.out); have HB2 : Hid (Below w.heap.size w w2) := HB1.out.trans (hb2.mono HB1.out.size); clear hb2 m0 m1 m2)
        | fail)
      obtain ⟨k0, k1, k2⟩ := blk3 (v0 := .slice none 0 0) (v1 := .slice none 0 0) (v2 := .slice none 0 0) r0 r1 r2
      (try simp only [Exit.inBlock, Exit.then])
      refine bodyPost_ret (by simp [results, Tryd.results25, go_sem, k0, k1, k2]; try rfl) rfl ?_
      exact ⟨noM, rfl, Mv.Same.refl _, noM_own _ _, blk3_below HB2.out (by omega)⟩
    · rw [hI0] at hi
      have hm4 : m < 4 := by have := (machF_sizes hz).2.1; omega
      have HS4 : Hid (M.ens.length = 4) := (machF_sizes hz).2.1
      have HE : Hid (M.ens.getD m default = default) := empty_en hz hml hme
      have e0 : creF M = 0 := by rw [hF0, hi]; exact if_neg (by omega)
      have eN : creN M = (m : Int) + 1 := by rw [hN0, e0, if_pos rfl, hi]
      have RN : Hid (RM = { M with ens := M.ens.set m openE }) := by
        show _ = _
        rw [hRM.out]; unfold creM; rw [e0, if_pos rfl, hi, Int.toNat_natCast]
      rw [hi] at h3
      rw [e0, eN]
      unfold Mv.val at h1 h2 ⊢
      obtain ⟨fa, frs, fcap, ea, ens, ecap, qa, qus, qcap⟩ := M
      dsimp only at h1 h2 h3 HS4 ⊢
      have B2 : ∀ o1 o2, Hid (Below w.heap.size w ((w.alloc o1).alloc o2)) := fun o1 o2 => a2B _ _ _
      have HX : ∀ o1 o2 w1, Hid (Below ((w.alloc o1).alloc o2).heap.size ((w.alloc o1).alloc o2) w1 → Below w.heap.size w w1) := fun o1 o2 w1 h => (B2 o1 o2).out.trans (h.mono (by simp; omega))
      have CF : Hid (_) := boxes_blk w (.slice fa frs.length fcap) (.slice ea ens.length ecap) (.slice qa qus.length qcap)
      have HT : Hid (_) := h4
      have hge : ¬ ((m : Int) < 0) := by omega
      have hm4i : (m : Int) < 4 := by omega
      have hwm : IntKind.i64.wrap ((m : Int) + 1) = (m : Int) + 1 := by rw [IntKind.wrap_i64]; omega
      clear hM hF hz hi hRM ht h4 hN0 hF0 hI0 hml hme e0 eN
      go_enter Tryd.func25, Tryd.ntmps25
      go_wp2_with (first
        | (go_at_call 45; refine (h1 _ (B2 _ _).out).mono ?_; rintro x w1 ⟨rfl, hb1⟩; obtain ⟨AB, RB⟩ := CF.out w1 hb1; have HAB : Hid (_) := AB; have HRB : Hid (_) := RB; have HB1 : Hid (Below w.heap.size w w1) := (HX _ _ _).out hb1; obtain ⟨m0, m1, m2, _, _, _, ml⟩ := box_cells AB; clear hb1 CF AB RB)
        | (go_at_call 47; refine (h3 _ HB1.out).mono ?_; rintro x w2 ⟨rfl, hb2⟩; have HRB2 : Hid (_) := ((hb2.block _ (Array.getElem?_eq_some_iff.1 HRB.out).1).trans HRB.out); clear ml m0 m1 m2; obtain ⟨m0, m1, m2, _, _, _, ml⟩ := box_cells ((hb2.block _ (Array.getElem?_eq_some_iff.1 HAB.out).1).trans HAB.out); have HB2 : Hid (Below w.heap.size w w2) := HB1.out.trans (hb2.mono HB1.out.size); clear hb2 HAB HRB HB1)
        | (go_at_call 48; refine (h2 _ HB2.out).mono ?_; rintro x w3 ⟨N, rfl, hS, hO, hb3⟩; obtain ⟨nfa, nfrs, nfcap, nea, nens, necap, nqa, nqus, nqcap⟩ := N; have HSN : Hid (_) := hS; have HON : Hid (_) := hO; have HB3 : Hid (_) := hb3; have eN := hS.en; dsimp only at eN; subst eN; obtain ⟨eb, eo, hea, t0, t1, _⟩ := hO.at_.enclave (j := m) (by dsimp only; have := HS4.out; omega); dsimp only at hea t0 t1; subst hea; rw [HE.out] at t0 t1; have nn := hO.ne eb eo none rfl; have ef0 : w3.frozen? ⟨eb, eo + m * 7, none⟩ = false := nn.2.2 _; have ef1 : w3.frozen? ⟨eb, eo + m * 7 + 1, none⟩ = false := nn.2.2 _; have el : eb < w3.heap.size := nn.2.1; have HRB3 : Hid (_) := ((hb3.block _ (Array.getElem?_eq_some_iff.1 HRB2.out).1).trans HRB2.out); have HRL : Hid (w.heap.size + 1 < w2.heap.size) := (Array.getElem?_eq_some_iff.1 HRB2.out).1; rw [HS4.out]; clear nn hS hO hb3 m0 m1 m2 HRB2; dsimp only)
        | fail)
      obtain ⟨W4, hW4⟩ : ∃ W4, Hid (W4 = (w3.setCell ⟨eb, eo + m * 7, none⟩ (.int .i64 1)).alloc (.cells #[.slice nfa nfrs.length nfcap, .slice (some ⟨eb, eo, none⟩) 4 necap, .slice nqa nqus.length nqcap] 51)) := ⟨_, rfl⟩
      rw [← hW4.out]
      have hok := HON.out.at_.enok m (by dsimp only; have := HS4.out; omega)
      dsimp only at hok
      rw [HE.out] at hok
      have HO4 : Hid (Owned w2.heap.size W4 ⟨nfa, nfrs, nfcap, some ⟨eb, eo, none⟩, nens.set m { (default : En) with st := 1 }, necap, nqa, nqus, nqcap⟩) := by
        show Owned _ _ _
        have := HON.out.setEn (k := m) (i0 := 0) (e' := { (default : En) with st := 1 }) (v := .int .i64 1) rfl (by dsimp only; have := HS4.out; omega) (by omega) ⟨by show (Lit.int .i64 1).wf = true; decide, hok.len, hok.wpc, hok.w0, hok.w1, hok.w2, hok.w3⟩ (fun i hi => by
          dsimp only
          rw [HE.out]
          match i, hi with
          | 0, _ => rfl
          | 1, _ => rfl
          | 2, _ => rfl
          | 3, _ => rfl
          | 4, _ => rfl
          | 5, _ => rfl
          | 6, _ => rfl)
        dsimp only [Nat.add_zero] at this
        rw [hW4.out]
        exact this.below ((Below.refl _ _).alloc (Nat.le_refl _) _)
      have hen := HON.out.ne eb eo none rfl
      have HB34 : Hid (Below w.heap.size w W4) := by
        show Below _ _ _
        have a := HB2.out.trans (HB3.out.mono HB2.out.size)
        have b := (a.setCell (p := ⟨eb, eo + m * 7, none⟩) (by have := HB2.out.size; have := hen.1; dsimp only; omega) (.int .i64 1))
        rw [hW4.out]
        exact b.alloc (by have := b.size; omega) _
      have hsz4 : W4.heap.size = w3.heap.size + 1 := by rw [hW4.out]; simp [World.setCell]
      have HBX : Hid (W4.heap[w3.heap.size]? = some (.cells #[.slice nfa nfrs.length nfcap, .slice (some ⟨eb, eo, none⟩) 4 necap, .slice nqa nqus.length nqcap] 51 (0, 0))) := by
        show _ = _
        rw [hW4.out]
        have := a11 (w3.setCell ⟨eb, eo + m * 7, none⟩ (.int .i64 1)) (.cells #[.slice nfa nfrs.length nfcap, .slice (some ⟨eb, eo, none⟩) 4 necap, .slice nqa nqus.length nqcap] 51)
        simpa [World.setCell] using this
      have HR4 : Hid (W4.heap[w.heap.size + 1]? = some (.cells #[.slice none 0 0, .slice none 0 0, .slice none 0 0] 51 (0, 0))) := by
        show _ = _
        rw [hW4.out, Below.heap_alloc _ _ _ (by simp [World.setCell]; have := HRL.out; have := HB3.out.size; omega), Below.heap_setCell _ _ _ _ (show w.heap.size + 1 ≠ eb by have := hen.1; have := HRL.out; omega)]
        exact HRB3.out
      obtain ⟨x0, x1, x2, _, _, _, xl⟩ := box_cells HBX.out
      obtain ⟨_, _, hea', u0, u1, _⟩ := HO4.out.at_.enclave (j := m) (by simp; have := HS4.out; omega)
      dsimp only at hea' u0 u1
      simp only [Option.some.injEq, Addr.mk.injEq, and_true] at hea'
      obtain ⟨rfl, rfl⟩ := hea'
      have EL4 : eb < W4.heap.size := by omega
      have F4 : Hid (∀ o, W4.frozen? ⟨eb, o, none⟩ = false) := (HO4.out.ne eb eo none rfl).2.2
      have HSZ : Hid (W4.heap.size = w3.heap.size + 1) := hsz4
      have HEN : Hid (w2.heap.size ≤ eb) := hen.1
      have X1 : Hid (w3.heap.size < W4.heap.size) := xl
      clear hen hsz4 hW4 t0 t1 ef0 ef1 hok HRB3 HB3 HON u0 x0 x2 h1 h2 h3
      clear HX B2 HB2
      go_region_law (go_simp; go_at_call 12; refine (HT.out _ (by first | exact HB34.out | exact HB34.out.drew)).mono ?_; rintro x w5 ⟨rfl, hb5⟩; have d1 : w5.cell? ⟨w3.heap.size, 1, none⟩ = some (.slice (some ⟨eb, eo, none⟩) 4 necap) := (hb5.cell (p := ⟨w3.heap.size, 1, none⟩) X1.out).trans x1; have d2 := (hb5.cell (p := ⟨eb, eo + m * 7 + 1, none⟩) EL4).trans u1; have d3 : w5.frozen? ⟨eb, eo + m * 7 + 1, none⟩ = false := (hb5.frozen (p := ⟨eb, _, none⟩) EL4).trans (F4.out _); dsimp only)
      all_goals
        have HQ5 : Hid (Below W4.heap.size W4 w5) := by first | exact hb5 | exact ((Below.refl _ _).drew).trans hb5
        have HB5 : Hid (Below w.heap.size w w5) := HB34.out.trans (HQ5.out.mono HB34.out.size)
        obtain ⟨W6, hW6⟩ : ∃ W6, Hid (W6 = w5.setCell ⟨eb, eo + m * 7 + 1, none⟩ (.string ⟨#[111, 112, 101, 110, 59]⟩)) := ⟨_, rfl⟩
        rw [← hW6.out]
        have HO6 : Hid (Owned w2.heap.size W6 ⟨nfa, nfrs, nfcap, some ⟨eb, eo, none⟩, nens.set m openE, necap, nqa, nqus, nqcap⟩) := by
          show Owned _ _ _
          have h5 := HO4.out.below HQ5.out
          have hlm : m < (nens.set m { (default : En) with st := 1 }).length := by simp; have := HS4.out; omega
          have hgd : (nens.set m { (default : En) with st := 1 }).getD m default = { (default : En) with st := 1 } := by rw [getD_set _ _ _ _ (by have := HS4.out; omega), if_pos rfl]
          have z : (Lit.int .i64 0).wf = true := by decide
          have := h5.setEn (k := m) (i0 := 1) (e' := openE) (v := .string ⟨#[111, 112, 101, 110, 59]⟩) rfl hlm (by omega) ⟨by show (Lit.int .i64 1).wf = true; decide, by show (5 : Nat) ≤ maxLen; unfold maxLen; omega, z, z, z, z, z⟩ (fun i hi => by
            dsimp only
            rw [hgd]
            match i, hi with
            | 0, _ => rfl
            | 1, _ => rfl
            | 2, _ => rfl
            | 3, _ => rfl
            | 4, _ => rfl
            | 5, _ => rfl
            | 6, _ => rfl)
          dsimp only at this
          rw [List.set_set] at this
          rw [hW6.out]
          exact this
        have HB6 : Hid (Below w.heap.size w W6) := by
          show Below _ _ _
          rw [hW6.out]
          exact HB5.out.setCell (by have := HEN.out; have := HRL.out; dsimp only; omega) _
        have hs6 : ∀ b, b ≠ eb → W6.heap[b]? = w5.heap[b]? := fun b hb => by rw [hW6.out, Below.heap_setCell _ _ _ _ hb]
        have HBX6 : Hid (_) := (hs6 w3.heap.size (by omega)).trans ((HQ5.out.block _ X1.out).trans HBX.out)
        have HR6 : Hid (_) := (hs6 (w.heap.size + 1) (by have := HEN.out; have := HRL.out; omega)).trans ((HQ5.out.block _ (Array.getElem?_eq_some_iff.1 HR4.out).1).trans HR4.out)
        obtain ⟨y0, y1, y2, _, _, _, yl⟩ := box_cells HBX6.out
        obtain ⟨r0, r1, r2, rf0, rf1, rf2, rl⟩ := box_cells HR6.out
        clear hb5 d1 d2 d3 x1 u1 HO4 HBX HR4 HT F4 hs6
        go_wp2
        obtain ⟨k0, k1, k2⟩ := blk3 (v0 := .slice nfa nfrs.length nfcap) (v1 := .slice (some ⟨eb, eo, none⟩) 4 necap) (v2 := .slice nqa nqus.length nqcap) r0 r1 r2
        (try simp only [Exit.inBlock, Exit.then])
        refine bodyPost_ret (by simp [results, Tryd.results25, go_sem, k0, k1, k2]; try rfl) rfl ?_
        exact ⟨⟨nfa, nfrs, nfcap, some ⟨eb, eo, none⟩, nens.set m openE, necap, nqa, nqus, nqcap⟩, by simp [HS4.out], by rw [RN.out]; exact ⟨HSN.out.len, HSN.out.fr, rfl, HSN.out.qu⟩, (HO6.out.keep (fun b hb _ => blk3_heap b (by have := HRL.out; omega)) (by rw [blk3_size]; exact Nat.le_refl _)).mono (by first | exact HB1.out.size | (have := HRL.out; omega) | omega), blk3_below HB6.out (by omega)⟩
  · have hz1 : (machF M != 0) = true := by simpa using hz
    rw [if_neg hz] at hF0
    have RN : RM = noM := by rw [hRM.out]; unfold creM; rw [hF0, if_neg hz]
    rw [hF0, if_neg hz] at hN0
    rw [hN0, hF0]
    subst RN
    unfold Mv.val at h1 h2 ⊢
    obtain ⟨fa, frs, fcap, ea, ens, ecap, qa, qus, qcap⟩ := M
    dsimp only at h1 h2 h3 ⊢
    have B2 : ∀ o1 o2, Hid (Below w.heap.size w ((w.alloc o1).alloc o2)) := fun o1 o2 => a2B _ _ _
    have HX : ∀ o1 o2 w1, Hid (Below ((w.alloc o1).alloc o2).heap.size ((w.alloc o1).alloc o2) w1 → Below w.heap.size w w1) := fun o1 o2 w1 h => (B2 o1 o2).out.trans (h.mono (by simp; omega))
    have CF : Hid (_) := boxes_blk w (.slice fa frs.length fcap) (.slice ea ens.length ecap) (.slice qa qus.length qcap)
    clear hM hF hz hRM ht h4 hN0 hF0 hI0
    generalize machF _ = z at h1 hz1 ⊢
    go_enter Tryd.func25, Tryd.ntmps25
    go_wp2_with (first
      | (go_at_call 45; refine (h1 _ (B2 _ _).out).mono ?_; rintro x w1 ⟨rfl, hb1⟩; obtain ⟨AB, RB⟩ := CF.out w1 hb1; have HB1 : Hid (Below w.heap.size w w1) := (HX _ _ _).out hb1; obtain ⟨r0, r1, r2, rf0, rf1, rf2, rl⟩ := box_cells RB; clear hb1 CF AB RB)
      | fail)
    obtain ⟨k0, k1, k2⟩ := blk3 (v0 := .slice none 0 0) (v1 := .slice none 0 0) (v2 := .slice none 0 0) r0 r1 r2
    (try simp only [Exit.inBlock, Exit.then])
    refine bodyPost_ret (by simp [results, Tryd.results25, go_sem, k0, k1, k2]; try rfl) rfl ?_
    exact ⟨noM, rfl, Mv.Same.refl _, noM_own _ _, blk3_below HB1.out (by omega)⟩

end Go.Proofs.YtdbbiibnhgcndaaDoor
