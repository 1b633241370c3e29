/-
  What the call step of package run does (own work): one instruction. The conditions: the core holds a machine that may be, an address and registers that may be.
-/
import Derived.Test.YtjccpjfcdolafaaRunSay
namespace Go.Proofs.Ytjccpjfcdolafaa
open Go.RowKit

theorem reg_nat {x : Int} (_h : 0 ≤ x) : x / 16 % 4 = (regA x : Int) ∧ x / 256 % 4 = (regB x : Int) ∧ regA x < 4 ∧ regB x < 4 := by
  unfold regA regB
  omega
theorem one_true (w : World) : Calls Try.prog 46 #[.bool true] w fun x w' => x = .returned (.int .i64 1) ∧ w = w' := oneIf_run true w
theorem one_false (w : World) : Calls Try.prog 46 #[.bool false] w fun x w' => x = .returned (.int .i64 0) ∧ w = w' := oneIf_run false w

end Go.Proofs.Ytjccpjfcdolafaa
