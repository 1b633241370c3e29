/-
  What slices.Equal answers at two lists of enclaves, or of quotes, that hold the same (own work): true; nothing that was in memory turns. The condition: the machines' cells are there. What the call has (riddletop) answers: whether an enclave has just the pages of an image. It turns nothing that was in memory. The conditions: the cells are there, and no frame and no page has too many words. What a run changes, and that a run in pieces is the run in one (own work). No condition but that the machine may be. What an enclave has, of a machine that holds the same as another one (own work). No condition. A region that draws its order, in which two variables are made that only its last operations touch (own work): they may be made at any time; it is enough to walk the other operations, and to hand the two variables over behind them. The conditions: those of the theorem, which the kernel decides.
-/
import Derived.Test.YtdngbojbpmdegaaGreatDoorJSameM
import Derived.BigQuiet
import Derived.Test.YtdngbojbpmdegaaGreatDoorJRunMath
import Derived.Test.YtdngbojbpmdegaaGreatDoorJActs
import Derived.Deep.RegionHeld3
import Derived.Deep.DeepCutAuto
import Derived.Test.YtdngbojbpmdegaaGreatDoorTopPlan
import Derived.Test.YtdngbojbpmdegaaGreatDoorJLogged
import Derived.Below
import Derived.Deep.Heap
namespace Go.Proofs.YtdngbojbpmdegaaGreatDoor
open Go.RowKit
set_option maxRecDepth 100000
set_option linter.unusedVariables false

end Go.Proofs.YtdngbojbpmdegaaGreatDoor

namespace Go.Proofs.YtdngbojbpmdegaaGreatDoor
open Go.RowKit
set_option maxRecDepth 100000
set_option linter.unusedVariables false

end Go.Proofs.YtdngbojbpmdegaaGreatDoor

namespace Go.Proofs.YtdngbojbpmdegaaGreatDoor
open Go.RowKit

/-- what a run of the enclave m leaves as it was -/
structure Walled (m : Nat) (M N : Mv) : Prop where
  len : N.frs.length = M.frs.length
  ens : N.ens = M.ens
  own : ∀ j, (N.frs.getD j default).o = (M.frs.getD j default).o ∧ (N.frs.getD j default).at_ = (M.frs.getD j default).at_ ∧ (N.frs.getD j default).r = (M.frs.getD j default).r
  ws : ∀ j, (M.frs.getD j default).o ≠ 0 → ((M.frs.getD j default).o ≠ (m : Int) + 1 ∨ ¬ (M.frs.getD j default).r / 2 % 2 = 1) → (N.frs.getD j default).ws = (M.frs.getD j default).ws
  qus : ∃ l, N.qus = M.qus ++ l
theorem Walled.refl (m : Nat) (M : Mv) : Walled m M M := ⟨rfl, rfl, fun _ => ⟨rfl, rfl, rfl⟩, fun _ _ _ => rfl, [], by simp⟩
theorem Walled.trans {m : Nat} {M N K : Mv} (h : Walled m M N) (g : Walled m N K) : Walled m M K := by
  refine ⟨g.len.trans h.len, g.ens.trans h.ens, fun j => ?_, fun j h0 hc => ?_, ?_⟩
  · obtain ⟨a, b, c⟩ := h.own j
    obtain ⟨a', b', c'⟩ := g.own j
    exact ⟨a'.trans a, b'.trans b, c'.trans c⟩
  · obtain ⟨a, b, c⟩ := h.own j
    rw [g.ws j (by rw [a]; exact h0) (by rw [a, c]; exact hc), h.ws j h0 hc]
  · obtain ⟨l, hl⟩ := h.qus
    obtain ⟨k, hk⟩ := g.qus
    exact ⟨l ++ k, by rw [hk, hl, List.append_assoc]⟩
end Go.Proofs.YtdngbojbpmdegaaGreatDoor

namespace Go.Proofs.YtdngbojbpmdegaaGreatDoor
open Go.RowKit

end Go.Proofs.YtdngbojbpmdegaaGreatDoor

namespace Go.Proofs.YtdngbojbpmdegaaGreatDoor
open Go.RowKit
set_option linter.unusedVariables false
section
variable {P : Program} {ops : Array Oper} {Q : Exit → Act → World → Prop} {md : Region.Mode}

variable {i1 i2 : Nat} {d1 d2 : Tmp} {o1 o2 : Obj} {N last : Nat} {E : List Nat}

theorem alloc_old {wt : World} {g : Nat} {o : Obj} (ob : Obj) (h : wt.heap[g]? = some o) : (wt.alloc ob).heap[g]? = some o :=
  (((Below.refl wt.heap.size wt).alloc (Nat.le_refl _) ob).block g (Array.getElem?_eq_some_iff.1 h).1).trans h
theorem wpOp_if {l : List Oper} {j : Nat} {oj : Oper} {K : Act → World → Prop} {a : Act} {w : World} (hi : l[j]? = some oj) (h : if Region.wanted oj (yielded l.toArray a.tmps) = true then Oper.wp P oj a w K Q else K (a.put oj.dst undef) w) : wpOp P l.toArray Q j K a w := by
  have hi' : l.toArray[j]? = some oj := by rw [List.getElem?_toArray]; exact hi
  unfold wpOp
  simp only [hi']
  split
  · rename_i hw
    rw [if_pos hw] at h
    exact .inl h
  · rename_i hw
    rw [if_neg hw] at h
    exact h
end
end Go.Proofs.YtdngbojbpmdegaaGreatDoor
