/-
  What the call picked (riddlekeep) answers: a number below many, of each number. The condition: many is from 1 to 1000000.
-/
import Derived.Test.YtdbbiibnhgcndaaDoorSmall
namespace Go.Proofs.YtdbbiibnhgcndaaDoor
open Go.RowKit

/-- a number from 0 to many - 1 -/
def pick (n many : Int) : Int := (if n < 0 then -(n + 1) else n) % many
theorem pick_lt (n : Int) {many : Int} (h : 0 < many) : 0 ≤ pick n many ∧ pick n many < many := ⟨Int.emod_nonneg _ (by omega), Int.emod_lt_of_pos _ h⟩

theorem picked_any (n many : Int) (w : World) (hn : (Lit.int .i64 n).wf = true) (h0 : 0 < many) (h1 : many ≤ 1000000) :
    Calls Tryd.prog 23 #[.int .i64 n, .int .i64 many] w fun e w' => e = .returned (.int .i64 (pick n many)) ∧ w = w' := by
  have hb := i64_wf hn
  have hne : ¬ many = 0 := by omega
  by_cases h : n < 0
  · have hp : pick n many = (-(n + 1)) % many := by unfold pick; rw [if_pos h]
    rw [hp]
    have h2 : 0 ≤ -(n + 1) := by omega
    clear hn hp
    go_enter Tryd.func23, Tryd.ntmps23
    go_wp2
    go_ret
    exact ⟨by apply ret_int; rw [← Int.neg_tmod, Int.tmod_eq_emod_of_nonneg h2], rfl⟩
  · have hp : pick n many = n % many := by unfold pick; rw [if_neg h]
    rw [hp]
    have h2 : 0 ≤ n := by omega
    clear hn hp
    go_enter Tryd.func23, Tryd.ntmps23
    go_wp2
    go_ret
    exact ⟨by first | rfl | (apply ret_int; rw [Int.tmod_eq_emod_of_nonneg h2]), rfl⟩

end Go.Proofs.YtdbbiibnhgcndaaDoor
