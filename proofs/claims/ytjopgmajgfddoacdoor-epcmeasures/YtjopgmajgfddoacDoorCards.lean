/-
  DERIVED. GIVEN WITH THE SEED: THE CARDS: each row of YtjopgmajgfddoacDoorRows.lean that lists a variable, with what it lists TIED to the program's text (the seventh form; the later family's looks); each row that meets fmt, with fmt's text TOLD by the authors' own Lean function (tested against real Go, not proved from fmt's source: count such statements apart). THE CARD IS WHAT COUNTS. Prove the row's statement (the work); the ties are given (YtjopgmajgfddoacDoorTie.lean); close each card by the builder's one call (the guide's Derived/Test/ToyasCard.lean, 'card_holds'). Laid BY PROGRAM, IN A SANDBOX (cutbox-door.mjs). By AI agents, Wed Nov 11 2026. No macro, syntax, notation, axiom, sorry.
-/
import Derived.Test.YtjopgmajgfddoacDoorRows
import GoSem.ClaimSeven
namespace Go.Proofs.YtjopgmajgfddoacDoor
namespace Rows

/-- THE TIED CARD OF 'riddlelaw.EpcCreates'. -/
def epcCreatesCard : Claim7 := { stood := { row := epcCreatesRow, standIns := [], harness := (true, "c92fca022578ce418f061334afe36ffce888b35be18a7fc42fc68ee433906d7b"), looks := false }, kinds := [], alts := [], laidByText := true, laidKinds := [.data, .data, .data], laidTests := true, laidLooks := .later }
def EpcCreatesCardSaid : Prop := Claim7.holds Tryd.pinned (.plain (OpenSpec.ofChange epcCreatesSpec)) epcCreatesCard

/-- THE TIED CARD OF 'riddlelaw.EpcPuts'. -/
def epcPutsCard : Claim7 := { stood := { row := epcPutsRow, standIns := [], harness := (true, "c92fca022578ce418f061334afe36ffce888b35be18a7fc42fc68ee433906d7b"), looks := false }, kinds := [], alts := [], laidByText := true, laidKinds := [.data, .data, .data], laidTests := true, laidLooks := .later }
def EpcPutsCardSaid : Prop := Claim7.holds Tryd.pinned (.plain (OpenSpec.ofChange epcPutsSpec)) epcPutsCard

/-- THE TIED CARD OF 'riddlelaw.EpcMeasures'. -/
def epcMeasuresCard : Claim7 := { stood := { row := epcMeasuresRow, standIns := [], harness := (true, "c92fca022578ce418f061334afe36ffce888b35be18a7fc42fc68ee433906d7b"), looks := false }, kinds := [], alts := [], laidByText := true, laidKinds := [.data, .data, .data], laidTests := true, laidLooks := .later }
def EpcMeasuresCardSaid : Prop := Claim7.holds Tryd.pinned (.plain (OpenSpec.ofChange epcMeasuresSpec)) epcMeasuresCard

/-- THE SECOND FORM's CARD OF 'riddlelaw.EpcCreates'. -/
def epcCreatesUptoCard : Claim7 := { stood := { row := epcCreatesUptoRow, standIns := [], harness := (true, "c92fca022578ce418f061334afe36ffce888b35be18a7fc42fc68ee433906d7b"), looks := false }, kinds := [], alts := [], laidByText := true, laidKinds := [.data, .data, .data], laidTests := true, laidLooks := .later }
def EpcCreatesUptoCardSaid : Prop := Claim7.holds Tryd.pinned (.plain (OpenSpec.upto epcCreatesSpec)) epcCreatesUptoCard

/-- THE SECOND FORM's CARD OF 'riddlelaw.EpcPuts'. -/
def epcPutsUptoCard : Claim7 := { stood := { row := epcPutsUptoRow, standIns := [], harness := (true, "c92fca022578ce418f061334afe36ffce888b35be18a7fc42fc68ee433906d7b"), looks := false }, kinds := [], alts := [], laidByText := true, laidKinds := [.data, .data, .data], laidTests := true, laidLooks := .later }
def EpcPutsUptoCardSaid : Prop := Claim7.holds Tryd.pinned (.plain (OpenSpec.upto epcPutsSpec)) epcPutsUptoCard

/-- THE SECOND FORM's CARD OF 'riddlelaw.EpcMeasures'. -/
def epcMeasuresUptoCard : Claim7 := { stood := { row := epcMeasuresUptoRow, standIns := [], harness := (true, "c92fca022578ce418f061334afe36ffce888b35be18a7fc42fc68ee433906d7b"), looks := false }, kinds := [], alts := [], laidByText := true, laidKinds := [.data, .data, .data], laidTests := true, laidLooks := .later }
def EpcMeasuresUptoCardSaid : Prop := Claim7.holds Tryd.pinned (.plain (OpenSpec.upto epcMeasuresSpec)) epcMeasuresUptoCard
end Rows
end Go.Proofs.YtjopgmajgfddoacDoor
