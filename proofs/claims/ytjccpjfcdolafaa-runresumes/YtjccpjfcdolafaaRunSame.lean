/-
  Two machines that hold the same run the same (own work). No condition.
-/
import Derived.Test.YtjccpjfcdolafaaRunMath
namespace Go.Proofs.Ytjccpjfcdolafaa
open Go.RowKit

theorem placeOf_normR (l : List Fr) (e a : Int) : placeOf (l.map Fr.norm) e a = placeOf l e a := by
  unfold placeOf idxOf
  rw [List.findIdx?_map]
  rfl
theorem placeOf_sameR {M N : Mv} (h : M.Same N) (e a : Int) : placeOf M.frs e a = placeOf N.frs e a := by
  rw [← placeOf_normR M.frs, norm_eq h, placeOf_normR]
theorem norm_atR {M N : Mv} (h : M.Same N) (k : Nat) : (M.frs.getD k default).norm = (N.frs.getD k default).norm := by
  rw [← norm_getD, norm_eq h, norm_getD]
theorem same_o {M N : Mv} (h : M.Same N) (k : Nat) : (M.frs.getD k default).o = (N.frs.getD k default).o := by have := congrArg Fr.o (norm_atR h k); exact this
theorem same_r {M N : Mv} (h : M.Same N) (k : Nat) : (M.frs.getD k default).r = (N.frs.getD k default).r := by have := congrArg Fr.r (norm_atR h k); exact this
theorem same_at {M N : Mv} (h : M.Same N) (k : Nat) : (M.frs.getD k default).at_ = (N.frs.getD k default).at_ := by have := congrArg Fr.at_ (norm_atR h k); exact this
theorem same_ws {M N : Mv} (h : M.Same N) (k : Nat) : (M.frs.getD k default).ws = (N.frs.getD k default).ws := by have := congrArg Fr.ws (norm_atR h k); exact this
theorem frmF_same {M N : Mv} (h : M.Same N) (e n right : Int) : frmF M.frs e n right = frmF N.frs e n right := by
  unfold frmF shF
  rw [placeOf_sameR h, same_o h, same_r h]
theorem wordAt_same {M N : Mv} (h : M.Same N) (f n : Int) : wordAt M f n = wordAt N f n := by unfold wordAt; rw [same_ws h]
theorem putWord_same {M N : Mv} (h : M.Same N) (f n v : Int) : (putWord M f n v).Same (putWord N f n v) := by
  unfold putWord
  by_cases hj : f.toNat < N.frs.length
  · have hj' : f.toNat < M.frs.length := by rw [h.len]; exact hj
    refine ⟨by simpa using h.len, fun i hi => ?_, h.en, h.qu⟩
    have hi' : i < M.frs.length := by simpa using hi
    show ((M.frs.set _ _).getD i default).Same ((N.frs.set _ _).getD i default)
    rw [getD_set _ _ _ _ hj', getD_set _ _ _ _ hj]
    by_cases e : i = f.toNat
    · rw [if_pos e, if_pos e]
      exact ⟨same_o h _, same_at h _, same_r h _, by dsimp only; rw [same_ws h]⟩
    · rw [if_neg e, if_neg e]; exact h.fr i hi'
  · have hj' : ¬ f.toNat < M.frs.length := by rw [h.len]; exact hj
    rw [List.set_eq_of_length_le (by omega), List.set_eq_of_length_le (by omega)]
    exact h
theorem sayM_same {M N : Mv} (h : M.Same N) (m : Nat) (v : Int) : (sayM M m v).Same (sayM N m v) := ⟨h.len, h.fr, h.en, by unfold sayM; dsimp only; rw [h.en, h.qu]⟩
/-- two runs stand alike -/
structure Rn.Same (R S : Rn) : Prop where
  M : R.M.Same S.M
  pc : R.pc = S.pc
  rs : R.rs = S.rs
  nd : R.nd = S.nd
  v : R.v = S.v
theorem ite_same {c : Prop} [Decidable c] {A B A' B' : Rn} (h1 : A.Same A') (h2 : B.Same B') : (if c then A else B).Same (if c then A' else B') := by
  by_cases h : c
  · rw [if_pos h, if_pos h]; exact h1
  · rw [if_neg h, if_neg h]; exact h2
theorem doR_same {M N : Mv} (h : M.Same N) (m : Nat) (pc : Int) (rs : List Int) (x n : Int) (xr : Int → Int → Int) : (doR M m pc rs x n xr).Same (doR N m pc rs x n xr) := by
  unfold doR
  rw [frmF_same h, frmF_same h, wordAt_same h, show M.qus.length = N.qus.length by rw [h.qu]]
  repeat' refine ite_same ?_ ?_
  all_goals first | exact ⟨h, rfl, rfl, rfl, rfl⟩ | exact ⟨putWord_same h _ _ _, rfl, rfl, rfl, rfl⟩ | exact ⟨sayM_same h _ _, rfl, rfl, rfl, rfl⟩
theorem stepR_same {M N : Mv} (h : M.Same N) (m : Nat) (pc : Int) (rs : List Int) (xr : Int → Int → Int) : (stepR M m pc rs xr).Same (stepR N m pc rs xr) := by
  unfold stepR
  rw [frmF_same h, frmF_same h, wordAt_same h, wordAt_same h]
  exact ite_same ⟨h, rfl, rfl, rfl, rfl⟩ (doR_same h m pc rs _ _ xr)
theorem runR_same : ∀ (k : Nat) {M N : Mv} (_ : M.Same N) (m : Nat) (pc : Int) (rs : List Int) (xr : Int → Int → Int), (runR k M m pc rs xr).Same (runR k N m pc rs xr)
  | 0, _, _, h, _, _, _, _ => ⟨h, rfl, rfl, rfl, rfl⟩
  | k + 1, M, N, h, m, pc, rs, xr => by
    have hs := stepR_same h m pc rs xr
    unfold runR
    rw [hs.nd, hs.pc, hs.rs]
    exact ite_same (runR_same k hs.M m _ _ xr) hs
theorem leftM_same {R S : Rn} (h : R.Same S) (m : Nat) : (leftM R m).Same (leftM S m) := by
  refine ⟨h.M.len, h.M.fr, ?_, h.M.qu⟩
  unfold leftM leftE
  dsimp only
  rw [h.M.en, h.nd, h.pc, h.rs]
/-- one step more, as the loop takes it -/
theorem runR_stop {k : Nat} {M : Mv} {m : Nat} {pc : Int} {rs : List Int} {xr : Int → Int → Int} (h : ¬ (stepR M m pc rs xr).nd = 0) : runR (k + 1) M m pc rs xr = stepR M m pc rs xr := by
  rw [runR, if_neg h]
theorem runR_more {k : Nat} {M : Mv} {m : Nat} {pc : Int} {rs : List Int} {xr : Int → Int → Int} (h : (stepR M m pc rs xr).nd = 0) : runR (k + 1) M m pc rs xr = runR k (stepR M m pc rs xr).M m (stepR M m pc rs xr).pc (stepR M m pc rs xr).rs xr := by
  rw [runR, if_pos h]

end Go.Proofs.Ytjccpjfcdolafaa
