/-
  A page of an enclave among the frames of a machine that may be (own work): where it is, and that it may be measured. No condition. What the call Measure (epc) answers for every machine, enclave and place: what the document asks, in memory of its own; it turns nothing that was in memory. The conditions: the lists are within the reach of the form; the library's tables are laid. What becomes of a machine in memory of its own where one frame is laid anew, with words in a new block (own work). No condition beside the cells. What the call sharedFrame (epc) answers: a frame that all share, its words in a new block; and what the store of an Empty enclave makes of a machine in memory of its own. No condition beside the cells. What Remove makes of a machine, as plain mathematics (own work). No condition beside the cells.
-/
import Derived.Test.YtdngbojbpmdegaaGreatDoorJPutMath
import Derived.Test.YtdngbojbpmdegaaGreatDoorOwn
import Derived.Test.YtdngbojbpmdegaaGreatDoorJStart
import Derived.Test.YtdngbojbpmdegaaGreatDoorPoke
namespace Go.Proofs.YtdngbojbpmdegaaGreatDoor
open Go.RowKit

theorem place_cases (frs : List Fr) (e a : Int) : placeOf frs e a = -1 ∨ ∃ k : Nat, placeOf frs e a = (k : Int) ∧ k < frs.length ∧ plB e a (frs.getD k default) = true := by
  unfold placeOf idxOf
  cases h : frs.findIdx? (plB e a) with
  | none => left; rfl
  | some i =>
    right
    obtain ⟨h1, h2, h3⟩ := List.findIdx?_eq_some_iff_getElem.1 h
    exact ⟨i, rfl, h1, by simpa [List.getD_eq_getElem?_getD, h1] using h2⟩
theorem place_page {M : Mv} (hz : machF M = 0) {e a : Int} {k : Nat} (hk : k < 24) (h : plB e a (M.frs.getD k default) = true) : inB a 0 7 = true ∧ mayW (M.frs.getD k default).ws = true := by
  have hg := machF_frame hz hk
  have hw := (machF_words hz hk).2.1
  refine ⟨?_, hw⟩
  generalize M.frs.getD k default = P at hg h
  obtain ⟨o, fat, r, fa, ws, fcap⟩ := P
  simp only [plB, Bool.and_eq_true, beq_iff_eq] at h
  obtain ⟨_, rfl⟩ := h
  rw [good_eq] at hg
  simp only [Bool.and_eq_true] at hg
  exact hg.1.1.2
theorem meaM_log {M : Mv} {e a : Int} (hz : askF M e 1 = 0) (hp : ¬ placeOf M.frs e a < 0) : meaF M e a = logF M (e - 1).toNat (meaS M e a) ∧ meaM M e a = logM M (e - 1).toNat (meaS M e a) := by
  have h1 : meaF M e a = logF M (e - 1).toNat (meaS M e a) := by unfold meaF; rw [if_pos hz, if_neg hp]
  exact ⟨h1, by unfold meaM logM; rw [h1]⟩

end Go.Proofs.YtdngbojbpmdegaaGreatDoor

namespace Go.Proofs.YtdngbojbpmdegaaGreatDoor
open Go.RowKit

set_option maxRecDepth 100000 in
set_option maxHeartbeats 4000000 in
theorem measure_any (M : Mv) (e a : Int) (w : World) (hM : MachAt w M) (hF : M.Fits) (wa : (Lit.int .i64 a).wf = true) (ht : Tab w) :
    Calls Tryz.prog 102 #[M.val, .int .i64 e, .int .i64 a] w fun x w' => ∃ N : Mv, x = .returned (.tuple #[N.val, .int .i64 (meaF M e a)]) ∧ N.Same (meaM M e a) ∧ Owned w.heap.size w' N ∧ Below w.heap.size w w' := by
  have h1 := fun w' (h : Below w.heap.size w w') => checkOpened_any M e w' (hM.below h)
  have h4 := fun w' (h : Below w.heap.size w w') => place_any M e a w' (hM.below h)
  obtain ⟨RM, hRM⟩ : ∃ RM, Hid (RM = meaM M e a) := ⟨_, rfl⟩
  obtain ⟨rf, hrf⟩ : ∃ rf, Hid (rf = meaF M e a) := ⟨_, rfl⟩
  rw [← hRM.out, ← hrf.out]
  have hF0 : meaF M e a = if askF M e 1 = 0 then (if placeOf M.frs e a < 0 then 5 else logF M (e - 1).toNat (meaS M e a)) else askF M e 1 := rfl
  by_cases hz : askF M e 1 = 0
  · rw [if_pos hz] at hF0
    rw [hz] at h1
    rcases place_cases M.frs e a with hp | ⟨k, hp, hk, hpl⟩
    · rw [hp, if_pos (by decide)] at hF0
      rw [hp] at h4
      have e1 : rf = 5 := by rw [hrf.out, hF0]
      have RN : RM = noM := by rw [hRM.out]; exact meaM_bad (by rw [hF0]; decide)
      subst RN e1
      clear hRM hrf hF0 hM hF hz hp ht
      unfold Mv.val at h1 h4 ⊢
      obtain ⟨fa, frs, fcap, ea, ens, ecap, qa, qus, qcap⟩ := M
      dsimp only at *
      have B2 : ∀ o1 o2, Hid (Below w.heap.size w ((w.alloc o1).alloc o2)) := fun o1 o2 => a2B _ _ _
      have HX : ∀ o1 o2 w1, Hid (Below ((w.alloc o1).alloc o2).heap.size ((w.alloc o1).alloc o2) w1 → Below w.heap.size w w1) := fun o1 o2 w1 h => (B2 o1 o2).out.trans (h.mono (by simp; omega))
      have CF : Hid (_) := boxes_blk w (.slice fa frs.length fcap) (.slice ea ens.length ecap) (.slice qa qus.length qcap)
      go_enter Tryz.func102, Tryz.ntmps102
      go_wp2_with (first
        | (go_at_call 128; refine (h1 _ (B2 _ _).out).mono ?_; rintro x w1 ⟨rfl, hb1⟩; obtain ⟨AB, RB⟩ := CF.out w1 hb1; have HAB1 : Hid (_) := AB; have HRB1 : Hid (_) := RB; have HB1 : Hid (Below w.heap.size w w1) := (HX _ _ _).out hb1; obtain ⟨m0, m1, m2, _, _, _, ml⟩ := box_cells AB; clear hb1 CF AB RB)
        | (go_at_call 22; refine (h4 _ HB1.out).mono ?_; rintro x w2 ⟨rfl, hb2⟩; have HAB2 : Hid (_) := ((hb2.block _ (Array.getElem?_eq_some_iff.1 HAB1.out).1).trans HAB1.out); have HRB2 : Hid (_) := ((hb2.block _ (Array.getElem?_eq_some_iff.1 HRB1.out).1).trans HRB1.out); have HB2 : Hid (Below w.heap.size w w2) := HB1.out.trans (hb2.mono HB1.out.size); clear m0 m1 m2 ml; obtain ⟨m0, m1, m2, _, _, _, ml⟩ := box_cells HAB2.out; clear hb2 HAB1 HRB1; obtain ⟨r0, r1, r2, rf0, rf1, rf2, rl⟩ := box_cells HRB2.out)
        | fail)
      obtain ⟨k0, k1, k2⟩ := blk3 (v0 := .slice none 0 0) (v1 := .slice none 0 0) (v2 := .slice none 0 0) r0 r1 r2
      (try simp only [Exit.inBlock, Exit.then])
      refine bodyPost_ret (by simp [results, Tryz.results102, go_sem, k0, k1, k2]; try rfl) rfl ?_
      exact ⟨noM, rfl, Mv.Same.refl _, noM_own _ _, blk3_below HB2.out (by omega)⟩
    · obtain ⟨eF, eM⟩ := meaM_log hz (by rw [hp]; omega)
      have hms : meaS M e a = heldS a (M.frs.getD k default).ws := by unfold meaS; rw [hp, Int.toNat_natCast]
      rw [hms] at eF eM
      obtain ⟨hz0, m, rfl, hm4, _, _⟩ := askF_zero hz
      rw [show ((m : Int) + 1 - 1).toNat = m by omega] at eF eM
      have HS24 : Hid (M.frs.length = 24) := (machF_sizes hz0).1
      have HS4 : Hid (M.ens.length = 4) := (machF_sizes hz0).2.1
      have hk24 : k < 24 := by have := HS24.out; omega
      have hki : (k : Int) < 24 := by omega
      obtain ⟨ia, iw⟩ := place_page hz0 hk24 hpl
      have hok := hM.frok k hk
      have hge : ¬ ((k : Int) < 0) := by omega
      obtain ⟨fb, fo, hfa, hfr⟩ := fr_at hM (j := k) hk
      have hown := fun w1 (h : Below w.heap.size w w1) => (hfr w1 h).2
      rw [hp] at h4
      have h8 : (M.frs.getD k default).ws.length = 8 := (machF_words hz0 hk24).1
      have hss := heldS_size a _ wa hok.wws h8
      have h5 := fun w' (h : Below w.heap.size w w') => held_any a (M.frs.getD k default).a (M.frs.getD k default).ws (M.frs.getD k default).cap w' wa hok.len (hok.ints.below h) (ht.below h)
      have hV : heldV a (M.frs.getD k default).ws = .tuple #[.string (heldS a (M.frs.getD k default).ws), .int .i64 0] := by unfold heldV; rw [if_pos ia, if_pos iw]
      rw [hV] at h5
      obtain ⟨s, HSS⟩ : ∃ s, Hid (heldS a (M.frs.getD k default).ws = s) := ⟨_, rfl⟩
      rw [HSS.out] at eF eM h5 hss
      have hs6 : s.size ≤ 1000000 := by omega
      clear hV hms hfr ia iw hF0
      generalize (M.frs.getD k default).ws.length = wl at h5 hown
      generalize (M.frs.getD k default).a = wad at h5 hown
      generalize (M.frs.getD k default).cap = wcap at h5 hown
      have h6 := fun w' (h : Below w.heap.size w w') => logged_any M m s w' (hM.below h) hF hz0 hm4 hs6
      have e1 : rf = logF M m s := by rw [hrf.out, eF]
      have RN : Hid (RM = logM M m s) := by show _ = _; rw [hRM.out, eM]
      rw [← RN.out] at h6
      subst e1
      clear hRM hrf hM hF hz hz0 hp hpl hk hok hss hs6 eF eM h8 ht wa
      generalize logF M m s = z at h6 ⊢
      unfold Mv.val at h1 h4 h6 ⊢
      obtain ⟨fa, frs, fcap, ea, ens, ecap, qa, qus, qcap⟩ := M
      dsimp only at *
      have B2 : ∀ o1 o2, Hid (Below w.heap.size w ((w.alloc o1).alloc o2)) := fun o1 o2 => a2B _ _ _
      have HX : ∀ o1 o2 w1, Hid (Below ((w.alloc o1).alloc o2).heap.size ((w.alloc o1).alloc o2) w1 → Below w.heap.size w w1) := fun o1 o2 w1 h => (B2 o1 o2).out.trans (h.mono (by simp; omega))
      have CF : Hid (_) := boxes_blk w (.slice fa frs.length fcap) (.slice ea ens.length ecap) (.slice qa qus.length qcap)
      subst hfa
      rw [HS24.out] at h1 h4 h6 CF ⊢
      go_enter Tryz.func102, Tryz.ntmps102
      go_wp2_with (first
        | (go_at_call 128; refine (h1 _ (B2 _ _).out).mono ?_; rintro x w1 ⟨rfl, hb1⟩; obtain ⟨AB, RB⟩ := CF.out w1 hb1; have HAB1 : Hid (_) := AB; have HRB1 : Hid (_) := RB; have HB1 : Hid (Below w.heap.size w w1) := (HX _ _ _).out hb1; obtain ⟨m0, m1, m2, _, _, _, ml⟩ := box_cells AB; clear hb1 CF AB RB)
        | (go_at_call 22; refine (h4 _ HB1.out).mono ?_; rintro x w2 ⟨rfl, hb2⟩; have HAB2 : Hid (_) := ((hb2.block _ (Array.getElem?_eq_some_iff.1 HAB1.out).1).trans HAB1.out); have HRB2 : Hid (_) := ((hb2.block _ (Array.getElem?_eq_some_iff.1 HRB1.out).1).trans HRB1.out); have HB2 : Hid (Below w.heap.size w w2) := HB1.out.trans (hb2.mono HB1.out.size); clear m0 m1 m2 ml; obtain ⟨m0, m1, m2, _, _, _, ml⟩ := box_cells HAB2.out; clear hb2 HAB1 HRB1; have t0 := hown _ HB2.out)
        | (go_at_call 90; refine (h5 _ HB2.out).mono ?_; rintro x w3 ⟨rfl, hb3⟩; have HAB3 : Hid (_) := ((hb3.block _ (Array.getElem?_eq_some_iff.1 HAB2.out).1).trans HAB2.out); have HRB3 : Hid (_) := ((hb3.block _ (Array.getElem?_eq_some_iff.1 HRB2.out).1).trans HRB2.out); have HB3 : Hid (Below w.heap.size w w3) := HB2.out.trans (hb3.mono HB2.out.size); clear m0 m1 m2 ml; obtain ⟨m0, m1, m2, _, _, _, ml⟩ := box_cells HAB3.out; clear hb3 HAB2 HRB2)
        | (go_at_call 130; refine (h6 _ HB3.out).mono ?_; rintro x w4 ⟨N, rfl, hS, hO, hb4⟩; obtain ⟨nfa, nfrs, nfcap, nea, nens, necap, nqa, nqus, nqcap⟩ := N; have HSN : Hid (_) := hS; have HON : Hid (_) := hO; have HB34 : Hid (_) := hb4; have HRL : Hid (w.heap.size + 1 < w3.heap.size) := (Array.getElem?_eq_some_iff.1 HRB3.out).1; have HB4 : Hid (Below w.heap.size w w4) := HB3.out.trans (hb4.mono HB3.out.size); obtain ⟨r0, r1, r2, rf0, rf1, rf2, rl⟩ := box_cells ((hb4.block _ HRL.out).trans HRB3.out); clear hS hO hb4 m0 m1 m2 ml HAB3 HRB3; dsimp only)
        | fail)
      obtain ⟨k0, k1, k2⟩ := blk3 (v0 := .slice nfa nfrs.length nfcap) (v1 := .slice nea nens.length necap) (v2 := .slice nqa nqus.length nqcap) r0 r1 r2
      (try simp only [Exit.inBlock, Exit.then])
      refine bodyPost_ret (by simp [results, Tryz.results102, go_sem, k0, k1, k2]; try rfl) rfl ?_
      exact ⟨⟨nfa, nfrs, nfcap, nea, nens, necap, nqa, nqus, nqcap⟩, rfl, HSN.out, (HON.out.keep (fun b hb _ => blk3_heap b (by have := HRL.out; omega)) (by rw [blk3_size]; exact Nat.le_refl _)).mono HB3.out.size, blk3_below HB4.out (by omega)⟩
  · have hz1 : (askF M e 1 != 0) = true := by simpa using hz
    have hz2 : (askF M e 1 == 0) = false := by simpa using hz
    have e1 : rf = askF M e 1 := by rw [hrf.out, hF0, if_neg hz]
    have RN : RM = noM := by rw [hRM.out]; exact meaM_bad (by rw [hF0, if_neg hz]; exact hz)
    subst RN e1
    clear hRM hrf hF0 hM hF hz ht h4
    generalize askF M e 1 = z at h1 hz1 hz2 ⊢
    unfold Mv.val at h1 ⊢
    obtain ⟨fa, frs, fcap, ea, ens, ecap, qa, qus, qcap⟩ := M
    dsimp only at *
    have B2 : ∀ o1 o2, Hid (Below w.heap.size w ((w.alloc o1).alloc o2)) := fun o1 o2 => a2B _ _ _
    have HX : ∀ o1 o2 w1, Hid (Below ((w.alloc o1).alloc o2).heap.size ((w.alloc o1).alloc o2) w1 → Below w.heap.size w w1) := fun o1 o2 w1 h => (B2 o1 o2).out.trans (h.mono (by simp; omega))
    have CF : Hid (_) := boxes_blk w (.slice fa frs.length fcap) (.slice ea ens.length ecap) (.slice qa qus.length qcap)
    go_enter Tryz.func102, Tryz.ntmps102
    go_wp2_with (first
      | (go_at_call 128; refine (h1 _ (B2 _ _).out).mono ?_; rintro x w1 ⟨rfl, hb1⟩; obtain ⟨AB, RB⟩ := CF.out w1 hb1; have HAB1 : Hid (_) := AB; have HRB1 : Hid (_) := RB; have HB1 : Hid (Below w.heap.size w w1) := (HX _ _ _).out hb1; obtain ⟨m0, m1, m2, _, _, _, ml⟩ := box_cells AB; clear hb1 CF AB RB; obtain ⟨r0, r1, r2, rf0, rf1, rf2, rl⟩ := box_cells HRB1.out)
      | fail)
    obtain ⟨k0, k1, k2⟩ := blk3 (v0 := .slice none 0 0) (v1 := .slice none 0 0) (v2 := .slice none 0 0) r0 r1 r2
    (try simp only [Exit.inBlock, Exit.then])
    refine bodyPost_ret (by simp [results, Tryz.results102, go_sem, k0, k1, k2]; try rfl) rfl ?_
    exact ⟨noM, rfl, Mv.Same.refl _, noM_own _ _, blk3_below HB1.out (by omega)⟩

end Go.Proofs.YtdngbojbpmdegaaGreatDoor

namespace Go.Proofs.YtdngbojbpmdegaaGreatDoor
open Go.RowKit

theorem Owned.newFr {n0 : Nat} {w w' : World} {M : Mv} (h : Owned n0 w M) {fb fo k g : Nat} (he : M.fa = some ⟨fb, fo, none⟩) (hk : k < M.frs.length) {f' : Fr} (hs : w.heap.size ≤ w'.heap.size) (_hn : n0 ≤ w.heap.size)
    (hold : ∀ b, b < w.heap.size → b ≠ fb → w'.heap[b]? = w.heap[b]?) (hrow : RowsAt w' 4 Fr.cells M.fa (M.frs.set k f')) (hfz : ∀ o, w'.frozen? ⟨fb, o, none⟩ = false)
    (ha : f'.a = some ⟨g, 0, none⟩) (hg : w.heap.size ≤ g) (hgw : w'.heap[g]? = some (.cells (wvals f'.ws).toArray 3 (0, 0)))
    (wo : (Lit.int .i64 f'.o).wf = true) (wat : (Lit.int .i64 f'.at_).wf = true) (wr : (Lit.int .i64 f'.r).wf = true) (wl : f'.ws.length ≤ maxLen) (ww : ∀ n ∈ f'.ws, (Lit.int .i64 n).wf = true) :
    Owned n0 w' { M with frs := M.frs.set k f' } := by
  have lf := h.nf fb fo none he
  have hc : ∀ b o, b < w.heap.size → b ≠ fb → w'.cell? ⟨b, o, none⟩ = w.cell? ⟨b, o, none⟩ := fun b o hb hn => World.cell?_of_block (hold b hb hn)
  have rows : ∀ {α : Type} [Inhabited α] {c : Nat} {cells : α → List Value} {a : Option Addr} {xs : List α}, New n0 w a → Off a (some ⟨fb, fo, none⟩) → RowsAt w c cells a xs → RowsAt w' c cells a xs := fun {α} _ {c cells a xs} hA ho hx => by
    rcases hx with e | ⟨b, off, h1, h2⟩
    · exact .inl e
    · exact .inr ⟨b, off, h1, fun j hj i hi => (hc b _ (hA b off none h1).2.1 (ho.ne b off none h1)).trans (h2 j hj i hi)⟩
  have ints : ∀ {a : Option Addr} {xs : List Int}, New n0 w a → Off a (some ⟨fb, fo, none⟩) → Ints w a xs → Ints w' a xs := fun {a xs} hA ho hx => by
    rcases hx with e | ⟨b, off, h1, h2⟩
    · exact .inl e
    · exact .inr ⟨b, off, h1, fun j hj => (hc b _ (hA b off none h1).2.1 (ho.ne b off none h1)).trans (h2 j hj)⟩
  have new : ∀ {a : Option Addr}, New n0 w a → Off a (some ⟨fb, fo, none⟩) → New n0 w' a := fun {a} hA ho b o s e => ⟨(hA b o s e).1, Nat.lt_of_lt_of_le (hA b o s e).2.1 hs, fun o' =>
    (World.frozen?_of_block (w := w) (a := ⟨b, o', none⟩) (hold b (hA b o s e).2.1 (ho.ne b o s e))).trans ((hA b o s e).2.2 o')⟩
  have fe : Off M.ea (some ⟨fb, fo, none⟩) := (he ▸ h.fe : Off (some ⟨fb, fo, none⟩) M.ea).symm
  have fq : Off M.qa (some ⟨fb, fo, none⟩) := (he ▸ h.fq : Off (some ⟨fb, fo, none⟩) M.qa).symm
  have wf : ∀ j, j < M.frs.length → Off (M.frs.getD j default).a (some ⟨fb, fo, none⟩) := fun j hj => he ▸ h.wf j hj
  have hlen : (M.frs.set k f').length = M.frs.length := by simp
  have gl : g < w'.heap.size := (Array.getElem?_eq_some_iff.1 hgw).1
  have offg : ∀ {a : Option Addr}, New n0 w a → Off (some ⟨g, 0, none⟩) a := fun {a} hA b o s o' s' e e' => by
    simp only [Option.some.injEq, Addr.mk.injEq] at e
    have := (hA b o' s' e').2.1
    omega
  have gd : ∀ j, (M.frs.set k f').getD j default = if j = k then f' else M.frs.getD j default := fun j => getD_set _ _ _ _ hk
  refine ⟨⟨hrow, by dsimp only; rw [hlen]; exact h.at_.frl, by dsimp only; rw [hlen]; exact h.at_.frc, fun j hj => ?_, rows h.ne fe h.at_.en, h.at_.enl, h.at_.enok, rows h.nq fq h.at_.qu, h.at_.qul, h.at_.quok⟩,
    fun b o s e => ?_, new h.ne fe, new h.nq fq, fun j hj => ?_, h.fe, h.fq, h.eq, fun j hj => ?_, fun j hj => ?_, fun j hj => ?_, fun i j hi hj hij => ?_⟩
  · have hj' : j < M.frs.length := by simpa using hj
    show ((M.frs.set k f').getD j default).Ok w'
    rw [gd]; split
    · exact ⟨wo, wat, wr, wl, by rw [ha]; exact ints_of_block (rest := []) (by simpa using hgw), ww⟩
    · have q := h.at_.frok j hj'
      exact ⟨q.wo, q.wat, q.wr, q.len, ints (h.nw j hj') (wf j hj') q.ints, q.wws⟩
  · have := h.nf b o s e
    have e2 : b = fb := by
      have e' : M.fa = some ⟨b, o, s⟩ := e
      rw [he] at e'
      simp only [Option.some.injEq, Addr.mk.injEq] at e'
      exact e'.1.symm
    exact ⟨this.1, Nat.lt_of_lt_of_le this.2.1 hs, fun o' => by rw [e2]; exact hfz o'⟩
  · have hj' : j < M.frs.length := by simpa using hj
    show New n0 w' ((M.frs.set k f').getD j default).a
    rw [gd]; split
    · rw [ha]
      intro b o s e
      simp only [Option.some.injEq, Addr.mk.injEq] at e
      rw [← e.1]
      exact ⟨by omega, gl, frozen_of_block hgw⟩
    · exact new (h.nw j hj') (wf j hj')
  · have hj' : j < M.frs.length := by simpa using hj
    show Off ((M.frs.set k f').getD j default).a M.fa
    rw [gd]; split
    · rw [ha]; exact offg h.nf
    · exact h.wf j hj'
  · have hj' : j < M.frs.length := by simpa using hj
    show Off ((M.frs.set k f').getD j default).a M.ea
    rw [gd]; split
    · rw [ha]; exact offg h.ne
    · exact h.we j hj'
  · have hj' : j < M.frs.length := by simpa using hj
    show Off ((M.frs.set k f').getD j default).a M.qa
    rw [gd]; split
    · rw [ha]; exact offg h.nq
    · exact h.wq j hj'
  · have hj' : j < M.frs.length := by simpa using hj
    have hi' : i < M.frs.length := by simpa using hi
    show Off ((M.frs.set k f').getD i default).a ((M.frs.set k f').getD j default).a
    rw [gd, gd]
    by_cases e1 : i = k
    · by_cases e2 : j = k
      · omega
      · rw [if_pos e1, if_neg e2, ha]; exact offg (h.nw j hj')
    · by_cases e2 : j = k
      · rw [if_neg e1, if_pos e2, ha]; exact (offg (h.nw i hi')).symm
      · rw [if_neg e1, if_neg e2]; exact h.ww i j hi' hj' hij
/-- a frame that all share, its words 0 -/
def zeroFr : Fr := ⟨0, 0, 0, none, List.replicate 8 0, 0⟩

end Go.Proofs.YtdngbojbpmdegaaGreatDoor

namespace Go.Proofs.YtdngbojbpmdegaaGreatDoor
open Go.RowKit

theorem make8 (w : World) : (Instr.makeSlice 30 (.int .i64 8) (.int .i64 8)).run Tryz.prog w = .ok (.slice (some ⟨w.heap.size, 0, none⟩) 8 8) (w.alloc (.cells (madeCells #[.int .i64 0] 8) 3)) :=
  run_make_row' (P := Tryz.prog) 30 3 (.int .i64 0) 8 Tryz.underlying30 info_i rfl .i64 .i64 8 (by omega) (by omega) w
theorem made8 : madeCells #[Value.int .i64 0] 8 = (wvals (List.replicate 8 0)).toArray := by
  rw [← Array.toArray_toList (xs := madeCells #[Value.int .i64 0] 8), toList_madeCells_one]
  simp [wvals]
theorem sharedFrame_any (w : World) : Calls Tryz.prog 99 #[] w fun x w' =>
    x = .returned (.agg #[.int .i64 0, .int .i64 0, .int .i64 0, .slice (some ⟨w.heap.size + 1, 0, none⟩) 8 8]) ∧ w'.heap[w.heap.size + 1]? = some (.cells (wvals (List.replicate 8 0)).toArray 3 (0, 0)) ∧ Below w.heap.size w w' := by
  have mk := make8
  go_enter Tryz.func99, Tryz.ntmps99
  go_wp2
  have B2 : ∀ o1 o2, Below w.heap.size w ((w.alloc o1).alloc o2) := fun o1 o2 => ((Below.refl _ _).alloc (Nat.le_refl _) _).alloc (by simp) _
  go_returns
  exact ⟨rfl, by rw [← made8]; exact a22 _ _ _, B2 _ _⟩

theorem Owned.zeroEn {n0 : Nat} {w : World} {M : Mv} (h : Owned n0 w M) {eb eo k : Nat} (he : M.ea = some ⟨eb, eo, none⟩) (hk : k < M.ens.length) :
    Owned n0 (((((((w.setCell ⟨eb, eo + k * 7, none⟩ (.int .i64 0)).setCell ⟨eb, eo + k * 7 + 1, none⟩ (.string ByteArray.empty)).setCell ⟨eb, eo + k * 7 + 2, none⟩ (.int .i64 0)).setCell ⟨eb, eo + k * 7 + 3, none⟩ (.int .i64 0)).setCell ⟨eb, eo + k * 7 + 4, none⟩ (.int .i64 0)).setCell ⟨eb, eo + k * 7 + 5, none⟩ (.int .i64 0)).setCell ⟨eb, eo + k * 7 + 6, none⟩ (.int .i64 0)) { M with ens := M.ens.set k default } := by
  have z : (Lit.int .i64 0).wf = true := by decide
  have q := h.at_.enok k hk
  obtain ⟨E, hE⟩ : ∃ E, E = M.ens.getD k default := ⟨_, rfl⟩
  rw [← hE] at q
  have step : ∀ {w : World} {N : Mv} (_ : Owned n0 w N) (_ : N.ea = some ⟨eb, eo, none⟩) (_ : k < N.ens.length) (i0 : Nat) (_ : i0 < 7) (e0 e' : En) (v : Value) (_ : N.ens.getD k default = e0) (_ : e'.Ok) (_ : ∀ i, i < 7 → e'.cells[i]? = if i = i0 then some v else e0.cells[i]?),
      Owned n0 (w.setCell ⟨eb, eo + k * 7 + i0, none⟩ v) { N with ens := N.ens.set k e' } := fun h he hk i0 hi e0 e' v h0 hok hx => h.setEn he hk hi hok (by rw [h0]; exact hx)
  have g : ∀ (N : Mv) (e : En), k < N.ens.length → (N.ens.set k e).getD k default = e := fun N e hk => by rw [getD_set _ _ _ _ hk, if_pos rfl]
  have s1 := step h he hk 0 (by omega) E { E with st := 0 } (.int .i64 0) hE.symm ⟨z, q.len, q.wpc, q.w0, q.w1, q.w2, q.w3⟩ (fun i hi => by match i, hi with | 0, _ => rfl | 1, _ => rfl | 2, _ => rfl | 3, _ => rfl | 4, _ => rfl | 5, _ => rfl | 6, _ => rfl)
  have s2 := step s1 he (by simpa using hk) 1 (by omega) _ { E with st := 0, log := ByteArray.empty } (.string ByteArray.empty) (g _ _ hk) ⟨z, Nat.zero_le _, q.wpc, q.w0, q.w1, q.w2, q.w3⟩ (fun i hi => by match i, hi with | 0, _ => rfl | 1, _ => rfl | 2, _ => rfl | 3, _ => rfl | 4, _ => rfl | 5, _ => rfl | 6, _ => rfl)
  have s3 := step s2 he (by simpa using hk) 2 (by omega) _ { E with st := 0, log := ByteArray.empty, pc := 0 } (.int .i64 0) (g _ _ (by simpa using hk)) ⟨z, Nat.zero_le _, z, q.w0, q.w1, q.w2, q.w3⟩ (fun i hi => by match i, hi with | 0, _ => rfl | 1, _ => rfl | 2, _ => rfl | 3, _ => rfl | 4, _ => rfl | 5, _ => rfl | 6, _ => rfl)
  have s4 := step s3 he (by simpa using hk) 3 (by omega) _ { E with st := 0, log := ByteArray.empty, pc := 0, g0 := 0 } (.int .i64 0) (g _ _ (by simpa using hk)) ⟨z, Nat.zero_le _, z, z, q.w1, q.w2, q.w3⟩ (fun i hi => by match i, hi with | 0, _ => rfl | 1, _ => rfl | 2, _ => rfl | 3, _ => rfl | 4, _ => rfl | 5, _ => rfl | 6, _ => rfl)
  have s5 := step s4 he (by simpa using hk) 4 (by omega) _ { E with st := 0, log := ByteArray.empty, pc := 0, g0 := 0, g1 := 0 } (.int .i64 0) (g _ _ (by simpa using hk)) ⟨z, Nat.zero_le _, z, z, z, q.w2, q.w3⟩ (fun i hi => by match i, hi with | 0, _ => rfl | 1, _ => rfl | 2, _ => rfl | 3, _ => rfl | 4, _ => rfl | 5, _ => rfl | 6, _ => rfl)
  have s6 := step s5 he (by simpa using hk) 5 (by omega) _ { E with st := 0, log := ByteArray.empty, pc := 0, g0 := 0, g1 := 0, g2 := 0 } (.int .i64 0) (g _ _ (by simpa using hk)) ⟨z, Nat.zero_le _, z, z, z, z, q.w3⟩ (fun i hi => by match i, hi with | 0, _ => rfl | 1, _ => rfl | 2, _ => rfl | 3, _ => rfl | 4, _ => rfl | 5, _ => rfl | 6, _ => rfl)
  have s7 := step s6 he (by simpa using hk) 6 (by omega) _ ⟨0, ByteArray.empty, 0, 0, 0, 0, 0⟩ (.int .i64 0) (g _ _ (by simpa using hk)) ⟨z, Nat.zero_le _, z, z, z, z, z⟩ (fun i hi => by match i, hi with | 0, _ => rfl | 1, _ => rfl | 2, _ => rfl | 3, _ => rfl | 4, _ => rfl | 5, _ => rfl | 6, _ => rfl)
  simp only [List.set_set, Nat.add_zero] at s7
  exact s7

/-- a frame that all share, laid into a machine in memory of its own -/
def newFrame (g : Nat) : Fr := ⟨0, 0, 0, some ⟨g, 0, none⟩, List.replicate 8 0, 8⟩
def laid4 (w : World) (nb a g : Nat) : World := (((w.setCell ⟨nb, a, none⟩ (.int .i64 0)).setCell ⟨nb, a + 1, none⟩ (.int .i64 0)).setCell ⟨nb, a + 2, none⟩ (.int .i64 0)).setCell ⟨nb, a + 3, none⟩ (.slice (some ⟨g, 0, none⟩) 8 8)
theorem laid4_heap {w : World} {nb a g b : Nat} (h : b ≠ nb) : (laid4 w nb a g).heap[b]? = w.heap[b]? := by
  unfold laid4
  rw [Below.heap_setCell _ _ _ _ h, Below.heap_setCell _ _ _ _ h, Below.heap_setCell _ _ _ _ h, Below.heap_setCell _ _ _ _ h]
theorem laid4_frozen {w : World} {nb a g : Nat} (q : Addr) : (laid4 w nb a g).frozen? q = w.frozen? q := by
  unfold laid4
  rw [World.frozen?_setCell, World.frozen?_setCell, World.frozen?_setCell, World.frozen?_setCell]
theorem laid4_size {w : World} {nb a g : Nat} : (laid4 w nb a g).heap.size = w.heap.size := by unfold laid4; simp [World.setCell]
theorem laid4_below {w0 w : World} {B nb a g : Nat} (h : Below B w0 w) (hb : B ≤ nb) : Below B w0 (laid4 w nb a g) := by
  unfold laid4
  exact (((h.setCell (by simpa using hb) _).setCell (by simpa using hb) _).setCell (by simpa using hb) _).setCell (by simpa using hb) _
theorem laid4_rows {w : World} {nb no k g : Nat} {frs : List Fr} (h : RowsAt w 4 Fr.cells (some ⟨nb, no, none⟩) frs) (hk : k < frs.length) : RowsAt (laid4 w nb (no + k * 4) g) 4 Fr.cells (some ⟨nb, no, none⟩) (frs.set k (newFrame g)) := by
  obtain ⟨E, hE⟩ : ∃ E, frs.getD k default = E := ⟨_, rfl⟩
  have gd : ∀ (l : List Fr) (e : Fr), k < l.length → (l.set k e).getD k default = e := fun l e hk => by rw [getD_set _ _ _ _ hk, if_pos rfl]
  have s1 := RowsAt.setCell (cells := Fr.cells) (fun _ => rfl) (x' := { E with o := 0 }) (v := .int .i64 0) (i0 := 0) h hk (by omega) (fun i hi => by rw [hE]; match i, hi with | 0, _ => rfl | 1, _ => rfl | 2, _ => rfl | 3, _ => rfl)
  have s2 := RowsAt.setCell (cells := Fr.cells) (fun _ => rfl) (x' := { E with o := 0, at_ := 0 }) (v := .int .i64 0) (i0 := 1) s1 (by simpa using hk) (by omega) (fun i hi => by rw [gd _ _ hk]; match i, hi with | 0, _ => rfl | 1, _ => rfl | 2, _ => rfl | 3, _ => rfl)
  have s3 := RowsAt.setCell (cells := Fr.cells) (fun _ => rfl) (x' := { E with o := 0, at_ := 0, r := 0 }) (v := .int .i64 0) (i0 := 2) s2 (by simpa using hk) (by omega) (fun i hi => by rw [gd _ _ (by simpa using hk)]; match i, hi with | 0, _ => rfl | 1, _ => rfl | 2, _ => rfl | 3, _ => rfl)
  have s4 := RowsAt.setCell (cells := Fr.cells) (fun _ => rfl) (x' := newFrame g) (v := .slice (some ⟨g, 0, none⟩) 8 8) (i0 := 3) s3 (by simpa using hk) (by omega) (fun i hi => by rw [gd _ _ (by simpa using hk)]; match i, hi with | 0, _ => rfl | 1, _ => rfl | 2, _ => rfl | 3, _ => rfl)
  simp only [List.set_set, Nat.add_zero] at s4
  exact s4
theorem Owned.layFrame {n0 : Nat} {w w5 : World} {M : Mv} (h : Owned n0 w M) {nb no k g : Nat} (he : M.fa = some ⟨nb, no, none⟩) (hk : k < M.frs.length) (hb : Below w.heap.size w w5) (hg : w.heap.size ≤ g) (hgw : w5.heap[g]? = some (.cells (wvals (List.replicate 8 0)).toArray 3 (0, 0))) :
    Owned n0 (laid4 w5 nb (no + k * 4) g) { M with frs := M.frs.set k (newFrame g) } := by
  have nn := h.nf nb no none he
  refine h.newFr (g := g) he hk (by rw [laid4_size]; exact hb.size) (by have := nn.1; have := nn.2.1; omega) (fun b hl hn => (laid4_heap hn).trans (hb.block b hl)) ?_ (fun o => (laid4_frozen _).trans ((hb.frozen (p := ⟨nb, o, none⟩) nn.2.1).trans (nn.2.2 o))) rfl hg ((laid4_heap (by have := nn.2.1; omega)).trans hgw) (show (Lit.int .i64 0).wf = true by decide) (show (Lit.int .i64 0).wf = true by decide) (show (Lit.int .i64 0).wf = true by decide) (by simp [newFrame, maxLen]) (fun n hn => by simp [newFrame] at hn; subst hn; decide)
  rw [he]
  exact laid4_rows (he ▸ (h.below hb).at_.fr) hk
theorem newFrame_same (g : Nat) : (newFrame g).Same zeroFr := ⟨rfl, rfl, rfl, rfl⟩

end Go.Proofs.YtdngbojbpmdegaaGreatDoor

namespace Go.Proofs.YtdngbojbpmdegaaGreatDoor
open Go.RowKit

/-! What Remove makes of a machine. -/
def remFr (e : Int) (f : Fr) : Fr := if f.o = e then zeroFr else f
def remM (M : Mv) (e : Int) : Mv := if askF M e (-1) = 0 then { M with ens := M.ens.set (e - 1).toNat default, frs := M.frs.map (remFr e) } else noM
theorem remFr_same {p q : Fr} (h : p.Same q) (e : Int) : (remFr e p).Same (remFr e q) := by
  unfold remFr
  rw [h.1]
  split
  · exact ⟨rfl, rfl, rfl, rfl⟩
  · exact h
theorem map_getD (l : List Fr) (e : Int) (j : Nat) (hj : j < l.length) : (l.map (remFr e)).getD j default = remFr e (l.getD j default) := by
  simp [List.getD_eq_getElem?_getD, hj]
theorem remM_same {M N : Mv} (h : N.Same M) (e : Int) : (remM N e).Same (remM M e) := by
  unfold remM
  rw [askF_same h, h.en]
  split
  · refine ⟨by simpa using h.len, fun j hj => ?_, rfl, h.qu⟩
    have hj' : j < N.frs.length := by simpa using hj
    show ((N.frs.map (remFr e)).getD j default).Same ((M.frs.map (remFr e)).getD j default)
    rw [map_getD _ _ _ hj', map_getD _ _ _ (by rw [← h.len]; exact hj')]
    exact remFr_same (h.fr j hj') e
  · exact Mv.Same.refl _
/-- the first k frames are done -/
structure RemTo (N M : Mv) (e : Int) (k : Nat) : Prop where
  len : N.frs.length = M.frs.length
  done : ∀ j, j < k → j < M.frs.length → (N.frs.getD j default).Same (remFr e (M.frs.getD j default))
  todo : ∀ j, k ≤ j → j < M.frs.length → (N.frs.getD j default).Same (M.frs.getD j default)
theorem RemTo.skip {N M : Mv} {e : Int} {k : Nat} (h : RemTo N M e k) (hk : k < M.frs.length) (ho : (M.frs.getD k default).o ≠ e) : RemTo N M e (k + 1) := by
  refine ⟨h.len, fun j hj hl => ?_, fun j hj hl => h.todo j (by omega) hl⟩
  by_cases q : j = k
  · subst q
    rw [remFr, if_neg ho]
    exact h.todo j (Nat.le_refl _) hl
  · exact h.done j (by omega) hl
theorem RemTo.lay {N M : Mv} {e : Int} {k : Nat} (h : RemTo N M e k) (hk : k < M.frs.length) (ho : (M.frs.getD k default).o = e) {f' : Fr} (hf : f'.Same zeroFr) : RemTo { N with frs := N.frs.set k f' } M e (k + 1) := by
  have hk' : k < N.frs.length := by rw [h.len]; exact hk
  refine ⟨by simpa using h.len, fun j hj hl => ?_, fun j hj hl => ?_⟩
  · show ((N.frs.set k f').getD j default).Same _
    rw [getD_set _ _ _ _ hk']
    by_cases q : j = k
    · subst q
      rw [if_pos rfl, remFr, if_pos ho]
      exact hf
    · rw [if_neg q]; exact h.done j (by omega) hl
  · show ((N.frs.set k f').getD j default).Same _
    rw [getD_set _ _ _ _ hk', if_neg (by omega)]
    exact h.todo j (by omega) hl
theorem RemTo.end_ {N M : Mv} {e : Int} (h : RemTo N M e M.frs.length) (he : N.ens = M.ens.set (e - 1).toNat default) (hq : N.qus = M.qus) (hz : askF M e (-1) = 0) : N.Same (remM M e) := by
  unfold remM
  rw [if_pos hz]
  refine ⟨by simpa using h.len, fun j hj => ?_, he, hq⟩
  have hj' : j < M.frs.length := by rw [← h.len]; exact hj
  show (N.frs.getD j default).Same ((M.frs.map (remFr e)).getD j default)
  rw [map_getD _ _ _ hj']
  exact h.done j hj' hj'

end Go.Proofs.YtdngbojbpmdegaaGreatDoor
