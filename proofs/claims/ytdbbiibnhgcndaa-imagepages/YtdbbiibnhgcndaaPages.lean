/-
  What the call PageFault (riddleref) answers for every page: what the page is refused for, as CheckPage (image); it turns nothing that was in memory. The condition: the words' cells are there.
-/
import Derived.Test.YtdbbiibnhgcndaaPagesC
namespace Go.Proofs.Ytdbbiibnhgcndaa
open Go.RowKit

set_option maxHeartbeats 400000 in
theorem pageFault_any (p r : Int) (a : Option Addr) (xs : List Int) (cap : Nat) (w : World) (hl : xs.length ≤ maxLen) (hx : Ints w a xs) :
    Calls Try.prog 24 #[.agg #[.int .i64 p, .int .i64 r, .slice a xs.length cap]] w fun e w' => e = .returned (.int .i64 (pageF p r xs)) ∧ Below w.heap.size w w' := by
  have hI := fun o => wordsMay_any a xs cap (w.alloc o) hl (hx.alloc o)
  unfold pageF
  clear hl hx
  generalize mayW xs = b3 at hI ⊢
  cases h1 : inB p 0 7 <;> cases h2 : inB r 0 7 <;> cases b3
  all_goals
    go_enter Try.func24, Try.ntmps24
    go_wp2_with (first | (go_at_call 61; refine (in_any _ _ _ _).mono ?_; rintro e w' ⟨rfl, rfl⟩) | (go_at_call 22; refine (hI _).mono ?_; rintro e w' ⟨rfl, rfl⟩))
    go_ret
    exact ⟨rfl, (Below.refl _ _).alloc (Nat.le_refl _) _⟩

end Go.Proofs.Ytdbbiibnhgcndaa
