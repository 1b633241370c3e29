/-
  What the call CheckPage (image) answers for every page: what the page is refused for; it turns nothing that was in memory. The condition: the rights fit 64 bits, the words' cells are there.
-/
import Derived.Test.YtdbbiibnhgcndaaDoorWords
namespace Go.Proofs.YtdbbiibnhgcndaaDoor
open Go.RowKit

set_option maxHeartbeats 400000 in
theorem checkPage_any (p r : Int) (a : Option Addr) (xs : List Int) (cap : Nat) (w : World) (hr : (Lit.int .i64 r).wf = true) (hl : xs.length ≤ maxLen) (hx : Ints w a xs) :
    Calls Tryd.prog 41 #[.agg #[.int .i64 p, .int .i64 r, .slice a xs.length cap]] w fun e w' => e = .returned (.int .i64 (pageF p r xs)) ∧ Below w.heap.size w w' := by
  have hI := fun o => words_any a xs cap (w.alloc o) hl (hx.alloc o)
  have hP := fun w => isPlace_any p w
  have hR := fun w => areRights_any r w hr
  unfold pageF
  clear hl hx hr
  generalize inB p 0 7 = b1 at hP ⊢
  generalize inB r 0 7 = b2 at hR ⊢
  generalize mayW xs = b3 at hI ⊢
  cases b1 <;> cases b2 <;> cases b3
  all_goals
    go_enter Tryd.func41, Tryd.ntmps41
    go_wp2_with (first | (go_at_call 33; refine (hP _).mono ?_; rintro e w' ⟨rfl, rfl⟩) | (go_at_call 34; refine (hR _).mono ?_; rintro e w' ⟨rfl, rfl⟩) | (go_at_call 37; refine (hI _).mono ?_; rintro e w' ⟨rfl, rfl⟩))
    go_ret
    exact ⟨rfl, (Below.refl _ _).alloc (Nat.le_refl _) _⟩

end Go.Proofs.YtdbbiibnhgcndaaDoor
