/-
  DERIVED. GIVEN WITH THE SEED: THE CARDS: each row of YtdidjepnlcnhmaaDoorRows.lean that lists a variable, with what it lists TIED to the program's text (the seventh form; the later family's looks); each row that meets fmt, with fmt's text TOLD by the authors' own Lean function (tested against real Go, not proved from fmt's source: count such statements apart). THE CARD IS WHAT COUNTS. Prove the row's statement (the work); the ties are given (YtdidjepnlcnhmaaDoorTie.lean); close each card by the builder's one call (the guide's Derived/Test/ToyasCard.lean, 'card_holds'). Laid BY PROGRAM, IN A SANDBOX (cutbox-door.mjs). By AI agents, Wed Nov 11 2026. No macro, syntax, notation, axiom, sorry.
-/
import Derived.Test.YtdidjepnlcnhmaaDoorRows
import GoSem.ClaimSeven
namespace Go.Proofs.YtdidjepnlcnhmaaDoor
namespace Rows

/-- THE TIED CARD OF 'riddlelaw.ImageOpens'. -/
def imageOpensCard : Claim7 := { stood := { row := imageOpensRow, standIns := [], harness := (true, "097d33bdc797e49eac4a0d3c4df4a944d5e86e58db4219430a25164cc1b50f4e"), looks := false }, kinds := [], alts := [], laidByText := true, laidKinds := [.data, .data, .data], laidTests := true, laidLooks := .later }
def ImageOpensCardSaid : Prop := Claim7.holds Tryd.pinned (.plain (OpenSpec.ofChange imageOpensSpec)) imageOpensCard

/-- THE TIED CARD OF 'riddlelaw.ImageAdds'. -/
def imageAddsCard : Claim7 := { stood := { row := imageAddsRow, standIns := [], harness := (true, "097d33bdc797e49eac4a0d3c4df4a944d5e86e58db4219430a25164cc1b50f4e"), looks := false }, kinds := [], alts := [], laidByText := true, laidKinds := [.data, .data, .data], laidTests := true, laidLooks := .later }
def ImageAddsCardSaid : Prop := Claim7.holds Tryd.pinned (.plain (OpenSpec.ofChange imageAddsSpec)) imageAddsCard

/-- THE SECOND FORM's CARD OF 'riddlelaw.ImageOpens'. -/
def imageOpensUptoCard : Claim7 := { stood := { row := imageOpensUptoRow, standIns := [], harness := (true, "097d33bdc797e49eac4a0d3c4df4a944d5e86e58db4219430a25164cc1b50f4e"), looks := false }, kinds := [], alts := [], laidByText := true, laidKinds := [.data, .data, .data], laidTests := true, laidLooks := .later }
def ImageOpensUptoCardSaid : Prop := Claim7.holds Tryd.pinned (.plain (OpenSpec.upto imageOpensSpec)) imageOpensUptoCard

/-- THE SECOND FORM's CARD OF 'riddlelaw.ImageAdds'. -/
def imageAddsUptoCard : Claim7 := { stood := { row := imageAddsUptoRow, standIns := [], harness := (true, "097d33bdc797e49eac4a0d3c4df4a944d5e86e58db4219430a25164cc1b50f4e"), looks := false }, kinds := [], alts := [], laidByText := true, laidKinds := [.data, .data, .data], laidTests := true, laidLooks := .later }
def ImageAddsUptoCardSaid : Prop := Claim7.holds Tryd.pinned (.plain (OpenSpec.upto imageAddsSpec)) imageAddsUptoCard
end Rows
end Go.Proofs.YtdidjepnlcnhmaaDoor
