/-
  What a machine that may be is (own work), and that what is done to it leaves it so: Poke, Create, Put, Measure, Start, Remove. No condition.
-/
import Derived.Test.YtjopgmajgfddoadDoorMeasMath
import Derived.Test.YtjopgmajgfddoadDoorCreate
import Derived.Test.YtjopgmajgfddoadDoorRemove
import Derived.Test.YtjopgmajgfddoadDoorNew
namespace Go.Proofs.YtjopgmajgfddoadDoor
open Go.RowKit

structure Good (M : Mv) : Prop where
  s1 : M.frs.length = 24
  s2 : M.ens.length = 4
  s3 : M.qus.length ≤ 40
  en : ∀ i, i < 4 → (M.ens.getD i default).good = true
  fr : ∀ j, j < 24 → Fr.good M.ens (M.frs.getD j default) = true
  tw : ∀ i j, i < j → j < 24 → (M.frs.getD j default).o ≠ 0 → ¬ ((M.frs.getD i default).o = (M.frs.getD j default).o ∧ (M.frs.getD i default).at_ = (M.frs.getD j default).at_)
  qu : ∀ q ∈ M.qus, q.good = true
theorem all_getD {α : Type} [Inhabited α] {p : α → Bool} {l : List α} {n : Nat} (hl : l.length = n) : l.all p = true ↔ ∀ i, i < n → p (l.getD i default) = true := by
  subst hl
  rw [List.all_eq_true]
  constructor
  · intro h i hi
    exact h _ (by simp [List.getD_eq_getElem?_getD, hi])
  · intro h x hx
    obtain ⟨i, hi, e⟩ := List.mem_iff_getElem.1 hx
    have := h i hi
    simpa [List.getD_eq_getElem?_getD, hi, e] using this
theorem twAt_iff {frs : List Fr} {k : Nat} (hk : k ≤ frs.length) : twAt frs k = true ↔ (frs.getD k default).o ≠ 0 ∧ ∃ i, i < k ∧ (frs.getD i default).o = (frs.getD k default).o ∧ (frs.getD i default).at_ = (frs.getD k default).at_ := by
  unfold twAt
  simp only [Bool.and_eq_true, bne_iff_ne, ne_eq, List.any_eq_true, twB, beq_iff_eq]
  constructor
  · rintro ⟨h0, x, hx, h1, h2⟩
    obtain ⟨i, hi, e⟩ := List.mem_iff_getElem.1 hx
    have hik : i < k := by simp at hi; omega
    refine ⟨h0, i, hik, ?_⟩
    have : frs.getD i default = x := by
      rw [← e]
      have hl : i < frs.length := by omega
      simp [List.getD_eq_getElem?_getD, hl]
    rw [this]
    exact ⟨h1, h2⟩
  · rintro ⟨h0, i, hi, h1, h2⟩
    have hl : i < frs.length := by omega
    refine ⟨h0, frs.getD i default, ?_, h1, h2⟩
    rw [List.mem_iff_getElem]
    exact ⟨i, by simp; omega, by simp [List.getD_eq_getElem?_getD, hl]⟩
theorem good_iff {M : Mv} : machF M = 0 ↔ Good M := by
  constructor
  · intro h
    obtain ⟨s1, s2, s3⟩ := machF_sizes h
    obtain ⟨h1, h2, h3⟩ := machF_all h
    refine ⟨s1, s2, s3, (all_getD s2).1 h1, fun j hj => machF_frame h hj, fun i j hij hj h0 hc => ?_, fun q hq => List.all_eq_true.1 h3 q hq⟩
    have := List.all_eq_true.1 h2 j (by simpa using hj)
    unfold frOk at this
    rw [Bool.and_eq_true] at this
    have t := (twAt_iff (frs := M.frs) (k := j) (by omega)).2 ⟨h0, i, hij, hc⟩
    simp [t] at this
  · intro h
    rw [machF_eq h.s1 h.s2 h.s3, if_pos]
    simp only [Bool.and_eq_true]
    refine ⟨⟨(all_getD h.s2).2 h.en, List.all_eq_true.2 fun j hj => ?_⟩, List.all_eq_true.2 h.qu⟩
    have hj' : j < 24 := by simpa using hj
    unfold frOk
    rw [Bool.and_eq_true]
    refine ⟨h.fr j hj', ?_⟩
    cases ht : twAt M.frs j with
    | false => rfl
    | true =>
      obtain ⟨h0, i, hi, hc⟩ := (twAt_iff (by have := h.s1; omega)).1 ht
      exact absurd hc (h.tw i j hi hj' h0)
theorem goodFr_iff {ens : List En} {f : Fr} : Fr.good ens f = true ↔ mayW f.ws = true ∧ inB f.o 0 4 = true ∧ inB f.at_ 0 7 = true ∧ inB f.r 0 7 = true ∧ (f.o = 0 → f.at_ = 0 ∧ f.r = 0) ∧ (f.o ≠ 0 → (ens.getD (f.o - 1).toNat default).st ≠ 0) := by
  obtain ⟨o, fat, r, fa, ws, fcap⟩ := f
  rw [good_eq]
  simp only [Bool.and_eq_true]
  by_cases h : o = 0
  · simp [h, and_assoc]
  · simp [h, and_assoc]
theorem goodFr_ens {ens ens' : List En} {f : Fr} (h : Fr.good ens f = true) (hs : ∀ i, (ens.getD i default).st ≠ 0 → (ens'.getD i default).st ≠ 0) : Fr.good ens' f = true := by
  rw [goodFr_iff] at h ⊢
  exact ⟨h.1, h.2.1, h.2.2.1, h.2.2.2.1, h.2.2.2.2.1, fun h0 => hs _ (h.2.2.2.2.2 h0)⟩
theorem getD_set_any {α : Type} [Inhabited α] (xs : List α) (k j : Nat) (x : α) : (xs.set k x).getD j default = if j = k ∧ k < xs.length then x else xs.getD j default := by
  by_cases hk : k < xs.length
  · rw [getD_set _ _ _ _ hk]; simp [hk]
  · rw [List.set_eq_of_length_le (by omega)]; simp [hk]
/-- another list of enclaves, each that was one is one still -/
theorem Good.ens {M : Mv} (h : Good M) {k : Nat} {E : En} (hE : E.good = true) (hs : (M.ens.getD k default).st ≠ 0 → E.st ≠ 0) : Good { M with ens := M.ens.set k E } := by
  refine ⟨h.s1, by simpa using h.s2, h.s3, fun i hi => ?_, fun j hj => goodFr_ens (h.fr j hj) fun i hi => ?_, h.tw, h.qu⟩
  · show ((M.ens.set k E).getD i default).good = true
    rw [getD_set_any]; split
    · exact hE
    · exact h.en i hi
  · show ((M.ens.set k E).getD i default).st ≠ 0
    rw [getD_set_any]; split
    · rename_i e; rw [e.1] at hi; exact hs hi
    · exact hi
/-- another frame -/
theorem Good.frm {M : Mv} (h : Good M) {k : Nat} {f : Fr} (hf : Fr.good M.ens f = true) (ht : ∀ i, i < 24 → i ≠ k → f.o ≠ 0 → ¬ ((M.frs.getD i default).o = f.o ∧ (M.frs.getD i default).at_ = f.at_)) : Good { M with frs := M.frs.set k f } := by
  refine ⟨by simpa using h.s1, h.s2, h.s3, h.en, fun j hj => ?_, fun i j hij hj h0 hc => ?_, h.qu⟩
  · show Fr.good M.ens ((M.frs.set k f).getD j default) = true
    rw [getD_set_any]; split
    · exact hf
    · exact h.fr j hj
  · have hj0 : ((M.frs.set k f).getD j default).o ≠ 0 := h0
    have hc' : ((M.frs.set k f).getD i default).o = ((M.frs.set k f).getD j default).o ∧ ((M.frs.set k f).getD i default).at_ = ((M.frs.set k f).getD j default).at_ := hc
    rw [getD_set_any] at hj0
    rw [getD_set_any, getD_set_any] at hc'
    have hl := h.s1
    by_cases ej : j = k ∧ k < M.frs.length
    · rw [if_pos ej] at hj0 hc'
      rw [if_neg (by omega)] at hc'
      exact ht i (by omega) (by omega) hj0 hc'
    · rw [if_neg ej] at hj0 hc'
      by_cases ei : i = k ∧ k < M.frs.length
      · rw [if_pos ei] at hc'
        exact ht j hj (by omega) (by rw [hc'.1]; exact hj0) ⟨hc'.1.symm, hc'.2.symm⟩
      · rw [if_neg ei] at hc'
        exact h.tw i j hij hj hj0 hc'
theorem mayW_set {ws : List Int} (h : mayW ws = true) {p : Nat} {n : Int} (hn : inB n 0 65535 = true) : mayW (ws.set p n) = true := by
  unfold mayW at h ⊢
  simp only [Bool.and_eq_true, beq_iff_eq, List.length_set] at h ⊢
  refine ⟨h.1, List.all_eq_true.2 fun x hx => ?_⟩
  rcases List.mem_or_eq_of_mem_set hx with hx | rfl
  · exact List.all_eq_true.1 h.2 x hx
  · exact hn
/-- a word of a frame is another one -/
theorem Good.word {M : Mv} (h : Good M) {k p : Nat} (hk : k < 24) {n : Int} (hn : inB n 0 65535 = true) : Good { M with frs := M.frs.set k { M.frs.getD k default with ws := (M.frs.getD k default).ws.set p n } } := by
  have hg := goodFr_iff.1 (h.fr k hk)
  refine h.frm (goodFr_iff.2 ⟨mayW_set hg.1 hn, hg.2.1, hg.2.2.1, hg.2.2.2.1, hg.2.2.2.2.1, hg.2.2.2.2.2⟩) fun i hi hik h0 hc => ?_
  rcases Nat.lt_or_ge i k with hl | hl
  · exact h.tw i k hl hk h0 hc
  · exact h.tw k i (by omega) hi (by rw [hc.1]; exact h0) ⟨hc.1.symm, hc.2.symm⟩
theorem poke_good {M : Mv} {f a n : Int} (hF : pokeF M f a n = 0) : machF (pokeM M f a n) = 0 := by
  unfold pokeM
  rw [if_pos hF]
  unfold pokeF at hF
  split at hF
  · rename_i hw
    obtain ⟨hz, hf, _⟩ := wordF_zero hw
    have hfi := inB_iff.1 hf
    split at hF
    · rename_i hn
      split
      · exact good_iff.2 ((good_iff.1 hz).word (by omega) hn)
      · exact hz
    · omega
  · rename_i hw; exact absurd hF hw
theorem enGood_iff {e : En} : e.good = true ↔ inB e.st 0 4 = true ∧ e.log.size ≤ 1000 ∧ (e.st = 0 → e.log.size = 0) ∧ (if e.st = 3 then inB e.pc 0 65535 = true ∧ e.words = true else e.pc = 0 ∧ e.zeros = true) := by
  unfold En.good
  simp only [Bool.and_eq_true, decide_eq_true_eq, Bool.or_eq_true, bne_iff_ne, ne_eq, beq_iff_eq]
  by_cases h3 : e.st = 3
  · by_cases h0 : e.st = 0
    · omega
    · simp [h3, and_assoc]
  · by_cases h0 : e.st = 0
    · simp [h0, and_assoc]
    · simp [h3, h0, and_assoc]
theorem create_good {M : Mv} (hF : creF M = 0) : machF (creM M) = 0 := by
  unfold creM
  rw [if_pos hF]
  unfold creF at hF
  split at hF
  · rename_i hz
    exact good_iff.2 ((good_iff.1 hz).ens (by decide) (fun _ => by decide))
  · rename_i hz; exact absurd hF hz
/-- a text more behind a log -/
theorem Good.logg {M : Mv} (h : Good M) {m : Nat} (hm : m < 4) {s : ByteArray} (h0 : (M.ens.getD m default).st ≠ 0) (hl : logF M m s = 0) : Good { M with ens := M.ens.set m ((M.ens.getD m default).withLog s) } := by
  refine h.ens (enGood_iff.2 ?_) (fun h => h)
  have hg := enGood_iff.1 (h.en m hm)
  refine ⟨hg.1, ?_, fun e => absurd e h0, hg.2.2.2⟩
  unfold logF at hl
  split at hl
  · omega
  · show ((M.ens.getD m default).log ++ s).size ≤ 1000
    rw [ByteArray.size_append]; omega
theorem place_none {frs : List Fr} {e a : Int} (h : placeOf frs e a < 0) : ∀ f ∈ frs, plB e a f = false := by
  unfold placeOf idxOf at h
  cases hf : frs.findIdx? (plB e a) with
  | none => intro f hx; simpa using List.findIdx?_eq_none_iff.1 hf f hx
  | some i => rw [hf] at h; simp only at h; omega
theorem put_good {M : Mv} {e f a r : Int} (hF : putF M e f a r = 0) : machF (putM M e f a r) = 0 := by
  unfold putM
  rw [if_pos hF]
  unfold putF at hF
  split at hF
  · rename_i hz
    obtain ⟨hz0, m, rfl, hm4, hst, _⟩ := askF_zero hz
    rw [show ((m : Int) + 1 - 1).toNat = m by omega] at hF ⊢
    split at hF
    · rename_i hf
      have hfi := inB_iff.1 hf
      split at hF
      · rename_i ha
        rw [Bool.and_eq_true] at ha
        split at hF
        · rename_i ho
          split at hF
          · rename_i hp
            have g := good_iff.1 hz0
            have hg := goodFr_iff.1 (g.fr f.toNat (by omega))
            have hpn := place_none hp
            have g1 := g.frm (k := f.toNat) (f := putFr M f.toNat ((m : Int) + 1) a r) (goodFr_iff.2 ⟨hg.1, inB_iff.2 ⟨by show (0 : Int) ≤ (m : Int) + 1; omega, by show (m : Int) + 1 ≤ 4; omega⟩, ha.1, ha.2, fun h => absurd h (by show (m : Int) + 1 ≠ 0; omega), fun _ => by show (M.ens.getD ((m : Int) + 1 - 1).toNat default).st ≠ 0; rw [show ((m : Int) + 1 - 1).toNat = m by omega]; exact hst⟩) (fun i hi _ _ hc => by
              have hil : i < M.frs.length := by have := g.s1; omega
              have := hpn (M.frs.getD i default) (by simp [List.getD_eq_getElem?_getD, hil])
              simp only [plB, hc.1, hc.2, putFr, beq_self_eq_true, Bool.and_true, decide_eq_false_iff_not] at this
              omega)
            exact good_iff.2 (g1.logg (m := m) hm4 hst hF)
          · omega
        · omega
      · omega
    · omega
  · rename_i hz; exact absurd hF hz
theorem measure_good {M : Mv} {e a : Int} (hF : meaF M e a = 0) : machF (meaM M e a) = 0 := by
  unfold meaM
  rw [if_pos hF]
  unfold meaF at hF
  split at hF
  · rename_i hz
    obtain ⟨hz0, m, rfl, hm4, hst, _⟩ := askF_zero hz
    rw [show ((m : Int) + 1 - 1).toNat = m by omega] at hF ⊢
    split at hF
    · omega
    · exact good_iff.2 ((good_iff.1 hz0).logg hm4 hst hF)
  · rename_i hz; exact absurd hF hz
theorem start_good {M : Mv} {e : Int} (hF : askF M e 1 = 0) : machF (startM M e) = 0 := by
  unfold startM
  rw [if_pos hF]
  obtain ⟨hz0, m, rfl, hm4, hst, hs1⟩ := askF_zero hF
  rw [show ((m : Int) + 1 - 1).toNat = m by omega]
  have g := good_iff.1 hz0
  have hg := enGood_iff.1 (g.en m hm4)
  have hs := hs1 (by omega)
  rw [hs] at hg
  exact good_iff.2 (g.ens (enGood_iff.2 ⟨(show inB 2 0 4 = true by decide), hg.2.1, fun h => absurd h (by show (2 : Int) ≠ 0; omega), by have h4 := hg.2.2.2; rw [if_neg (by omega)] at h4; show (if (2 : Int) = 3 then _ else _); rw [if_neg (by omega)]; exact h4⟩) (fun _ => by show (2 : Int) ≠ 0; omega))
theorem zeroFr_good (ens : List En) : Fr.good ens zeroFr = true := goodFr_iff.2 ⟨by decide, by decide, by decide, by decide, fun _ => ⟨rfl, rfl⟩, fun h => absurd rfl h⟩
theorem frmap_getD {l : List Fr} (g : Fr → Fr) {j : Nat} (hj : j < l.length) : (l.map g).getD j default = g (l.getD j default) := by simp [List.getD_eq_getElem?_getD, hj]
theorem remove_good {M : Mv} {e : Int} (hF : askF M e (-1) = 0) : machF (remM M e) = 0 := by
  unfold remM
  rw [if_pos hF]
  obtain ⟨hz0, m, rfl, hm4, hst, _⟩ := askF_zero hF
  rw [show ((m : Int) + 1 - 1).toNat = m by omega]
  have g := good_iff.1 hz0
  have hl : ∀ j, j < 24 → j < M.frs.length := fun j hj => by have := g.s1; omega
  refine good_iff.2 ⟨by simpa using g.s1, by simpa using g.s2, g.s3, fun i hi => ?_, fun j hj => ?_, fun i j hij hj h0 hc => ?_, g.qu⟩
  · show ((M.ens.set m default).getD i default).good = true
    rw [getD_set_any]; split
    · decide
    · exact g.en i hi
  · show Fr.good (M.ens.set m default) ((M.frs.map (remFr ((m : Int) + 1))).getD j default) = true
    rw [frmap_getD _ (hl j hj)]
    unfold remFr
    split
    · exact zeroFr_good _
    · rename_i ho
      have hg := goodFr_iff.1 (g.fr j hj)
      refine goodFr_iff.2 ⟨hg.1, hg.2.1, hg.2.2.1, hg.2.2.2.1, hg.2.2.2.2.1, fun h0 => ?_⟩
      have hb := inB_iff.1 hg.2.1
      rw [getD_set_any, if_neg (by omega)]
      exact hg.2.2.2.2.2 h0
  · have h0' : ((M.frs.map (remFr ((m : Int) + 1))).getD j default).o ≠ 0 := h0
    have hc' : ((M.frs.map (remFr ((m : Int) + 1))).getD i default).o = ((M.frs.map (remFr ((m : Int) + 1))).getD j default).o ∧ ((M.frs.map (remFr ((m : Int) + 1))).getD i default).at_ = ((M.frs.map (remFr ((m : Int) + 1))).getD j default).at_ := hc
    rw [frmap_getD _ (hl j hj)] at h0' hc'
    rw [frmap_getD _ (hl i (by omega))] at hc'
    unfold remFr at h0' hc'
    split at h0'
    · exact h0' rfl
    · rename_i hj1
      rw [if_neg hj1] at hc'
      split at hc'
      · exact h0' hc'.1.symm
      · exact g.tw i j hij hj h0' hc'
theorem new_good : machF newM = 0 := by
  refine good_iff.2 ⟨by simp [newM], by simp [newM], by simp [newM], fun i hi => ?_, fun j hj => ?_, fun i j hij hj h0 => ?_, fun q hq => by simp [newM] at hq⟩
  · show ((List.replicate 4 (default : En)).getD i default).good = true
    rw [rep_getD _ _ _ hi]; decide
  · show Fr.good _ ((List.replicate 24 zeroFr).getD j default) = true
    rw [rep_getD _ _ _ hj]; exact zeroFr_good _
  · exfalso
    have h0' : ((List.replicate 24 zeroFr).getD j default).o ≠ 0 := h0
    rw [rep_getD _ _ _ hj] at h0'
    exact h0' rfl

end Go.Proofs.YtjopgmajgfddoadDoor
