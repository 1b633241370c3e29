/-
  What Remove makes of a machine, as plain mathematics (own work). No condition beside the cells.
-/
import Derived.Test.YtdbbiibnhgcndaaPoke
import Derived.Test.YtdbbiibnhgcndaaOwnFr
namespace Go.Proofs.Ytdbbiibnhgcndaa
open Go.RowKit

/-! What Remove makes of a machine. -/
def remFr (e : Int) (f : Fr) : Fr := if f.o = e then zeroFr else f
def remM (M : Mv) (e : Int) : Mv := if askF M e (-1) = 0 then { M with ens := M.ens.set (e - 1).toNat default, frs := M.frs.map (remFr e) } else noM
theorem remFr_same {p q : Fr} (h : p.Same q) (e : Int) : (remFr e p).Same (remFr e q) := by
  unfold remFr
  rw [h.1]
  split
  · exact ⟨rfl, rfl, rfl, rfl⟩
  · exact h
theorem map_getD (l : List Fr) (e : Int) (j : Nat) (hj : j < l.length) : (l.map (remFr e)).getD j default = remFr e (l.getD j default) := by
  simp [List.getD_eq_getElem?_getD, hj]
theorem remM_same {M N : Mv} (h : N.Same M) (e : Int) : (remM N e).Same (remM M e) := by
  unfold remM
  rw [askF_same h, h.en]
  split
  · refine ⟨by simpa using h.len, fun j hj => ?_, rfl, h.qu⟩
    have hj' : j < N.frs.length := by simpa using hj
    show ((N.frs.map (remFr e)).getD j default).Same ((M.frs.map (remFr e)).getD j default)
    rw [map_getD _ _ _ hj', map_getD _ _ _ (by rw [← h.len]; exact hj')]
    exact remFr_same (h.fr j hj') e
  · exact Mv.Same.refl _
/-- the first k frames are done -/
structure RemTo (N M : Mv) (e : Int) (k : Nat) : Prop where
  len : N.frs.length = M.frs.length
  done : ∀ j, j < k → j < M.frs.length → (N.frs.getD j default).Same (remFr e (M.frs.getD j default))
  todo : ∀ j, k ≤ j → j < M.frs.length → (N.frs.getD j default).Same (M.frs.getD j default)
theorem RemTo.skip {N M : Mv} {e : Int} {k : Nat} (h : RemTo N M e k) (hk : k < M.frs.length) (ho : (M.frs.getD k default).o ≠ e) : RemTo N M e (k + 1) := by
  refine ⟨h.len, fun j hj hl => ?_, fun j hj hl => h.todo j (by omega) hl⟩
  by_cases q : j = k
  · subst q
    rw [remFr, if_neg ho]
    exact h.todo j (Nat.le_refl _) hl
  · exact h.done j (by omega) hl
theorem RemTo.lay {N M : Mv} {e : Int} {k : Nat} (h : RemTo N M e k) (hk : k < M.frs.length) (ho : (M.frs.getD k default).o = e) {f' : Fr} (hf : f'.Same zeroFr) : RemTo { N with frs := N.frs.set k f' } M e (k + 1) := by
  have hk' : k < N.frs.length := by rw [h.len]; exact hk
  refine ⟨by simpa using h.len, fun j hj hl => ?_, fun j hj hl => ?_⟩
  · show ((N.frs.set k f').getD j default).Same _
    rw [getD_set _ _ _ _ hk']
    by_cases q : j = k
    · subst q
      rw [if_pos rfl, remFr, if_pos ho]
      exact hf
    · rw [if_neg q]; exact h.done j (by omega) hl
  · show ((N.frs.set k f').getD j default).Same _
    rw [getD_set _ _ _ _ hk', if_neg (by omega)]
    exact h.todo j (by omega) hl
theorem RemTo.end_ {N M : Mv} {e : Int} (h : RemTo N M e M.frs.length) (he : N.ens = M.ens.set (e - 1).toNat default) (hq : N.qus = M.qus) (hz : askF M e (-1) = 0) : N.Same (remM M e) := by
  unfold remM
  rw [if_pos hz]
  refine ⟨by simpa using h.len, fun j hj => ?_, he, hq⟩
  have hj' : j < M.frs.length := by rw [← h.len]; exact hj
  show (N.frs.getD j default).Same ((M.frs.map (remFr e)).getD j default)
  rw [map_getD _ _ _ hj']
  exact h.done j hj' hj'

end Go.Proofs.Ytdbbiibnhgcndaa
