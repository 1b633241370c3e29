/-
  What the call sameMachine (riddlelaw) answers where both machines hold the same: true; it turns nothing that was in memory. The condition: the machines' cells are there.
-/
import Derived.Test.YteaabfnmnekbpaaDoorSameI
import Derived.Test.YteaabfnmnekbpaaDoorEqVal
namespace Go.Proofs.YteaabfnmnekbpaaDoor
open Go.RowKit

/-- two frames hold the same -/
def Fr.Same (p q : Fr) : Prop := p.o = q.o ∧ p.at_ = q.at_ ∧ p.r = q.r ∧ p.ws = q.ws
/-- two machines hold the same -/
structure Mv.Same (M N : Mv) : Prop where
  len : M.frs.length = N.frs.length
  fr : ∀ j, j < M.frs.length → (M.frs.getD j default).Same (N.frs.getD j default)
  en : M.ens = N.ens
  qu : M.qus = N.qus
theorem Mv.Same.refl (M : Mv) : M.Same M := ⟨rfl, fun _ _ => ⟨rfl, rfl, rfl, rfl⟩, rfl, rfl⟩
theorem Mv.Same.symm {M N : Mv} (h : M.Same N) : N.Same M := ⟨h.len.symm, fun j hj => by obtain ⟨a, b, c, d⟩ := h.fr j (by rw [h.len]; exact hj); exact ⟨a.symm, b.symm, c.symm, d.symm⟩, h.en.symm, h.qu.symm⟩
theorem Mv.Same.trans {M N K : Mv} (h : M.Same N) (g : N.Same K) : M.Same K := ⟨h.len.trans g.len, fun j hj => by
  obtain ⟨a, b, c, d⟩ := h.fr j hj
  obtain ⟨a', b', c', d'⟩ := g.fr j (by rw [← h.len]; exact hj)
  exact ⟨a.trans a', b.trans b', c.trans c', d.trans d'⟩, h.en.trans g.en, h.qu.trans g.qu⟩

end Go.Proofs.YteaabfnmnekbpaaDoor
