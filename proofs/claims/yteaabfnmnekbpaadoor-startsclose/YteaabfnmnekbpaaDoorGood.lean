/-
  What a machine that may be is (own work), and that what is done to it leaves it so: Poke, Create, Put, Measure, Start, Remove. No condition.
-/
import Derived.Test.YteaabfnmnekbpaaDoorMeasMath
import Derived.Test.YteaabfnmnekbpaaDoorGoodM
import Derived.Test.YteaabfnmnekbpaaDoorCreate
import Derived.Test.YteaabfnmnekbpaaDoorRemove
import Derived.Test.YteaabfnmnekbpaaDoorNew
namespace Go.Proofs.YteaabfnmnekbpaaDoor
open Go.RowKit

theorem poke_good {M : Mv} {f a n : Int} (hF : pokeF M f a n = 0) : machF (pokeM M f a n) = 0 := by
  unfold pokeM
  rw [if_pos hF]
  unfold pokeF at hF
  split at hF
  · rename_i hw
    obtain ⟨hz, hf, _⟩ := wordF_zero hw
    have hfi := inB_iff.1 hf
    split at hF
    · rename_i hn
      split
      · exact good_iff.2 ((good_iff.1 hz).word (by omega) hn)
      · exact hz
    · omega
  · rename_i hw; exact absurd hF hw
theorem create_good {M : Mv} (hF : creF M = 0) : machF (creM M) = 0 := by
  unfold creM
  rw [if_pos hF]
  unfold creF at hF
  split at hF
  · rename_i hz
    exact good_iff.2 ((good_iff.1 hz).ens (by decide) (fun _ => by decide))
  · rename_i hz; exact absurd hF hz
/-- a text more behind a log -/
theorem Good.logg {M : Mv} (h : Good M) {m : Nat} (hm : m < 4) {s : ByteArray} (h0 : (M.ens.getD m default).st ≠ 0) (hl : logF M m s = 0) : Good { M with ens := M.ens.set m ((M.ens.getD m default).withLog s) } := by
  refine h.ens (enGood_iff.2 ?_) (fun h => h)
  have hg := enGood_iff.1 (h.en m hm)
  refine ⟨hg.1, ?_, fun e => absurd e h0, hg.2.2.2⟩
  unfold logF at hl
  split at hl
  · omega
  · show ((M.ens.getD m default).log ++ s).size ≤ 1000
    rw [ByteArray.size_append]; omega
theorem place_none {frs : List Fr} {e a : Int} (h : placeOf frs e a < 0) : ∀ f ∈ frs, plB e a f = false := by
  unfold placeOf idxOf at h
  cases hf : frs.findIdx? (plB e a) with
  | none => intro f hx; simpa using List.findIdx?_eq_none_iff.1 hf f hx
  | some i => rw [hf] at h; simp only at h; omega
theorem put_good {M : Mv} {e f a r : Int} (hF : putF M e f a r = 0) : machF (putM M e f a r) = 0 := by
  unfold putM
  rw [if_pos hF]
  unfold putF at hF
  split at hF
  · rename_i hz
    obtain ⟨hz0, m, rfl, hm4, hst, _⟩ := askF_zero hz
    rw [show ((m : Int) + 1 - 1).toNat = m by omega] at hF ⊢
    split at hF
    · rename_i hf
      have hfi := inB_iff.1 hf
      split at hF
      · rename_i ha
        rw [Bool.and_eq_true] at ha
        split at hF
        · rename_i ho
          split at hF
          · rename_i hp
            have g := good_iff.1 hz0
            have hg := goodFr_iff.1 (g.fr f.toNat (by omega))
            have hpn := place_none hp
            have g1 := g.frm (k := f.toNat) (f := putFr M f.toNat ((m : Int) + 1) a r) (goodFr_iff.2 ⟨hg.1, inB_iff.2 ⟨by show (0 : Int) ≤ (m : Int) + 1; omega, by show (m : Int) + 1 ≤ 4; omega⟩, ha.1, ha.2, fun h => absurd h (by show (m : Int) + 1 ≠ 0; omega), fun _ => by show (M.ens.getD ((m : Int) + 1 - 1).toNat default).st ≠ 0; rw [show ((m : Int) + 1 - 1).toNat = m by omega]; exact hst⟩) (fun i hi _ _ hc => by
              have hil : i < M.frs.length := by have := g.s1; omega
              have := hpn (M.frs.getD i default) (by simp [List.getD_eq_getElem?_getD, hil])
              simp only [plB, hc.1, hc.2, putFr, beq_self_eq_true, Bool.and_true, decide_eq_false_iff_not] at this
              omega)
            exact good_iff.2 (g1.logg (m := m) hm4 hst hF)
          · omega
        · omega
      · omega
    · omega
  · rename_i hz; exact absurd hF hz
theorem measure_good {M : Mv} {e a : Int} (hF : meaF M e a = 0) : machF (meaM M e a) = 0 := by
  unfold meaM
  rw [if_pos hF]
  unfold meaF at hF
  split at hF
  · rename_i hz
    obtain ⟨hz0, m, rfl, hm4, hst, _⟩ := askF_zero hz
    rw [show ((m : Int) + 1 - 1).toNat = m by omega] at hF ⊢
    split at hF
    · omega
    · exact good_iff.2 ((good_iff.1 hz0).logg hm4 hst hF)
  · rename_i hz; exact absurd hF hz
theorem start_good {M : Mv} {e : Int} (hF : askF M e 1 = 0) : machF (startM M e) = 0 := by
  unfold startM
  rw [if_pos hF]
  obtain ⟨hz0, m, rfl, hm4, hst, hs1⟩ := askF_zero hF
  rw [show ((m : Int) + 1 - 1).toNat = m by omega]
  have g := good_iff.1 hz0
  have hg := enGood_iff.1 (g.en m hm4)
  have hs := hs1 (by omega)
  rw [hs] at hg
  exact good_iff.2 (g.ens (enGood_iff.2 ⟨(show inB 2 0 4 = true by decide), hg.2.1, fun h => absurd h (by show (2 : Int) ≠ 0; omega), by have h4 := hg.2.2.2; rw [if_neg (by omega)] at h4; show (if (2 : Int) = 3 then _ else _); rw [if_neg (by omega)]; exact h4⟩) (fun _ => by show (2 : Int) ≠ 0; omega))
theorem zeroFr_good (ens : List En) : Fr.good ens zeroFr = true := goodFr_iff.2 ⟨by decide, by decide, by decide, by decide, fun _ => ⟨rfl, rfl⟩, fun h => absurd rfl h⟩
theorem frmap_getD {l : List Fr} (g : Fr → Fr) {j : Nat} (hj : j < l.length) : (l.map g).getD j default = g (l.getD j default) := by simp [List.getD_eq_getElem?_getD, hj]
theorem remove_good {M : Mv} {e : Int} (hF : askF M e (-1) = 0) : machF (remM M e) = 0 := by
  unfold remM
  rw [if_pos hF]
  obtain ⟨hz0, m, rfl, hm4, hst, _⟩ := askF_zero hF
  rw [show ((m : Int) + 1 - 1).toNat = m by omega]
  have g := good_iff.1 hz0
  have hl : ∀ j, j < 24 → j < M.frs.length := fun j hj => by have := g.s1; omega
  refine good_iff.2 ⟨by simpa using g.s1, by simpa using g.s2, g.s3, fun i hi => ?_, fun j hj => ?_, fun i j hij hj h0 hc => ?_, g.qu⟩
  · show ((M.ens.set m default).getD i default).good = true
    rw [getD_set_any]; split
    · decide
    · exact g.en i hi
  · show Fr.good (M.ens.set m default) ((M.frs.map (remFr ((m : Int) + 1))).getD j default) = true
    rw [frmap_getD _ (hl j hj)]
    unfold remFr
    split
    · exact zeroFr_good _
    · rename_i ho
      have hg := goodFr_iff.1 (g.fr j hj)
      refine goodFr_iff.2 ⟨hg.1, hg.2.1, hg.2.2.1, hg.2.2.2.1, hg.2.2.2.2.1, fun h0 => ?_⟩
      have hb := inB_iff.1 hg.2.1
      rw [getD_set_any, if_neg (by omega)]
      exact hg.2.2.2.2.2 h0
  · have h0' : ((M.frs.map (remFr ((m : Int) + 1))).getD j default).o ≠ 0 := h0
    have hc' : ((M.frs.map (remFr ((m : Int) + 1))).getD i default).o = ((M.frs.map (remFr ((m : Int) + 1))).getD j default).o ∧ ((M.frs.map (remFr ((m : Int) + 1))).getD i default).at_ = ((M.frs.map (remFr ((m : Int) + 1))).getD j default).at_ := hc
    rw [frmap_getD _ (hl j hj)] at h0' hc'
    rw [frmap_getD _ (hl i (by omega))] at hc'
    unfold remFr at h0' hc'
    split at h0'
    · exact h0' rfl
    · rename_i hj1
      rw [if_neg hj1] at hc'
      split at hc'
      · exact h0' hc'.1.symm
      · exact g.tw i j hij hj h0' hc'
theorem new_good : machF newM = 0 := by
  refine good_iff.2 ⟨by simp [newM], by simp [newM], by simp [newM], fun i hi => ?_, fun j hj => ?_, fun i j hij hj h0 => ?_, fun q hq => by simp [newM] at hq⟩
  · show ((List.replicate 4 (default : En)).getD i default).good = true
    rw [rep_getD _ _ _ hi]; decide
  · show Fr.good _ ((List.replicate 24 zeroFr).getD j default) = true
    rw [rep_getD _ _ _ hj]; exact zeroFr_good _
  · exfalso
    have h0' : ((List.replicate 24 zeroFr).getD j default).o ≠ 0 := h0
    rw [rep_getD _ _ _ hj] at h0'
    exact h0' rfl

end Go.Proofs.YteaabfnmnekbpaaDoor
