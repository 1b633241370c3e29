/-
  ImageOpens answers true: what image.Opened answers is what P1.3 says. No condition but that the library's tables are as the program's text lays them, which the card ties.
-/
import Derived.Test.YteaabfnmnekbpaaDoorLaid
namespace Go.Proofs.YteaabfnmnekbpaaDoor
open Go.ChangeShapes Go.WideShapes Go.ChangeAt Go.RowKit
set_option linter.unusedVariables false

theorem opened_any (w : World) (ht : Tab w) : Calls Tryd.prog 14 #[] w fun e w' => e = .returned (.string ⟨#[111, 112, 101, 110, 59]⟩) ∧ Below w.heap.size w w' := by
  have h := entry_any ⟨#[111, 112, 101, 110]⟩ none [] 0 w (by decide) (by decide) (.inl rfl) (fun n hn => absurd hn (by simp)) ht
  go_enter Tryd.func14, Tryd.ntmps14
  go_wp2_with (go_at_call 32; go_must (refine h.mono ?_); rintro e w1 ⟨rfl, hb⟩)
  go_ret
  exact ⟨rfl, hb⟩

theorem imageOpens_laid (os : Os) : laidMet Tryd.prog listed ((laidWorld os).forCall (fun _ _ => 0) ⟨#[], #[], []⟩).memory :=
  laidMet_of_run' 8 (by kernel_rfl) (by kernel_rfl)
end Go.Proofs.YteaabfnmnekbpaaDoor
