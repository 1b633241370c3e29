/-
  What the call MachineFault (riddleref) answers for every machine: its walk. The condition: the machine's cells are there.
-/
import Derived.Test.YteaabfnmnekbpaaDoorRefChk
namespace Go.Proofs.YteaabfnmnekbpaaDoor
open Go.RowKit

theorem good_eq (ens : List En) (o fat r : Int) (fa : Option Addr) (ws : List Int) (fcap : Nat) :
    Fr.good ens ⟨o, fat, r, fa, ws, fcap⟩ = (mayW ws && inB o 0 4 && inB fat 0 7 && inB r 0 7 && (if o = 0 then (fat == 0) && (r == 0) else (ens.getD (o - 1).toNat default).st != 0)) := by
  unfold Fr.good pageF
  dsimp only
  generalize (if o = 0 then (fat == 0) && (r == 0) else (ens.getD (o - 1).toNat default).st != 0) = q
  cases inB fat 0 7 <;> cases inB r 0 7 <;> cases mayW ws <;> cases inB o 0 4 <;> cases q <;> rfl
theorem frOk_eq {ens : List En} {frs : List Fr} {k : Nat} {o fat r : Int} {fa : Option Addr} {ws : List Int} {fcap : Nat} (hP : frs.getD k default = ⟨o, fat, r, fa, ws, fcap⟩) :
    frOk ens frs k = (mayW ws && inB o 0 4 && inB fat 0 7 && inB r 0 7 && (if o = 0 then (fat == 0) && (r == 0) else ((ens.getD (o - 1).toNat default).st != 0) && !(frs.take k).any (twB o fat))) := by
  unfold frOk twAt
  rw [hP, good_eq]
  dsimp only
  by_cases h : o = 0
  · subst h; simp
  · rw [if_neg h, if_neg h]
    have : (o != 0) = true := by simpa using h
    rw [this]
    simp only [Bool.true_and, Bool.and_assoc]

end Go.Proofs.YteaabfnmnekbpaaDoor
