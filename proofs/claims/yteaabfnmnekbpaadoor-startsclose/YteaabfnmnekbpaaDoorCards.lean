/-
  DERIVED. GIVEN WITH THE SEED: THE CARDS: each row of YteaabfnmnekbpaaDoorRows.lean that lists a variable, with what it lists TIED to the program's text (the seventh form; the later family's looks); each row that meets fmt, with fmt's text TOLD by the authors' own Lean function (tested against real Go, not proved from fmt's source: count such statements apart). THE CARD IS WHAT COUNTS. Prove the row's statement (the work); the ties are given (YteaabfnmnekbpaaDoorTie.lean); close each card by the builder's one call (the guide's Derived/Test/ToyasCard.lean, 'card_holds'). Laid BY PROGRAM, IN A SANDBOX (cutbox-door.mjs). By AI agents, Wed Nov 11 2026. No macro, syntax, notation, axiom, sorry.
-/
import Derived.Test.YteaabfnmnekbpaaDoorRows
import GoSem.ClaimSeven
namespace Go.Proofs.YteaabfnmnekbpaaDoor
namespace Rows

/-- THE TIED CARD OF 'riddlekeep.StartsClose'. -/
def startsCloseCard : Claim7 := { stood := { row := startsCloseRow, standIns := [], harness := (true, "c34097cd95541aa1a55456ee0fcefd743705acdb59f7fc4d2a2804ec212579ce"), looks := false }, kinds := [], alts := [], laidByText := true, laidKinds := [.data, .data, .data], laidTests := true, laidLooks := .later }
def StartsCloseCardSaid : Prop := Claim7.holds Tryd.pinned (.plain (OpenSpec.ofChange startsCloseSpec)) startsCloseCard

/-- THE SECOND FORM's CARD OF 'riddlekeep.StartsClose'. -/
def startsCloseUptoCard : Claim7 := { stood := { row := startsCloseUptoRow, standIns := [], harness := (true, "c34097cd95541aa1a55456ee0fcefd743705acdb59f7fc4d2a2804ec212579ce"), looks := false }, kinds := [], alts := [], laidByText := true, laidKinds := [.data, .data, .data], laidTests := true, laidLooks := .later }
def StartsCloseUptoCardSaid : Prop := Claim7.holds Tryd.pinned (.plain (OpenSpec.upto startsCloseSpec)) startsCloseUptoCard
end Rows
end Go.Proofs.YteaabfnmnekbpaaDoor
