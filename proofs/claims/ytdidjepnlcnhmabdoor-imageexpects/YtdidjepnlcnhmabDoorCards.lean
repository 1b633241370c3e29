/-
  DERIVED. GIVEN WITH THE SEED: THE CARDS: each row of YtdidjepnlcnhmabDoorRows.lean that lists a variable, with what it lists TIED to the program's text (the seventh form; the later family's looks); each row that meets fmt, with fmt's text TOLD by the authors' own Lean function (tested against real Go, not proved from fmt's source: count such statements apart). THE CARD IS WHAT COUNTS. Prove the row's statement (the work); the ties are given (YtdidjepnlcnhmabDoorTie.lean); close each card by the builder's one call (the guide's Derived/Test/ToyasCard.lean, 'card_holds'). Laid BY PROGRAM, IN A SANDBOX (cutbox-door.mjs). By AI agents, Wed Nov 11 2026. No macro, syntax, notation, axiom, sorry.
-/
import Derived.Test.YtdidjepnlcnhmabDoorRows
import GoSem.ClaimSeven
namespace Go.Proofs.YtdidjepnlcnhmabDoor
namespace Rows

/-- THE TIED CARD OF 'riddlelaw.ImageHolds'. -/
def imageHoldsCard : Claim7 := { stood := { row := imageHoldsRow, standIns := [], harness := (true, "7da197bb95678929128c3856e460e800165fdd21605575fb852251f58fe88dab"), looks := false }, kinds := [], alts := [], laidByText := true, laidKinds := [.data, .data, .data], laidTests := true, laidLooks := .later }
def ImageHoldsCardSaid : Prop := Claim7.holds Tryd.pinned (.plain (OpenSpec.ofChange imageHoldsSpec)) imageHoldsCard

/-- THE TIED CARD OF 'riddlelaw.ImageExpects'. -/
def imageExpectsCard : Claim7 := { stood := { row := imageExpectsRow, standIns := [], harness := (true, "7da197bb95678929128c3856e460e800165fdd21605575fb852251f58fe88dab"), looks := false }, kinds := [], alts := [], laidByText := true, laidKinds := [.data, .data, .data], laidTests := true, laidLooks := .later }
def ImageExpectsCardSaid : Prop := Claim7.holds Tryd.pinned (.plain (OpenSpec.ofChange imageExpectsSpec)) imageExpectsCard

/-- THE TIED CARD OF 'riddlekeep.ImagesApart'. -/
def imagesApartCard : Claim7 := { stood := { row := imagesApartRow, standIns := [], harness := (true, "7da197bb95678929128c3856e460e800165fdd21605575fb852251f58fe88dab"), looks := false }, kinds := [], alts := [], laidByText := true, laidKinds := [.data, .data, .data], laidTests := true, laidLooks := .later }
def ImagesApartCardSaid : Prop := Claim7.holds Tryd.pinned (.plain (OpenSpec.ofChange imagesApartSpec)) imagesApartCard

/-- THE TIED CARD OF 'riddlekeep.ImagesTouched'. -/
def imagesTouchedCard : Claim7 := { stood := { row := imagesTouchedRow, standIns := [], harness := (true, "7da197bb95678929128c3856e460e800165fdd21605575fb852251f58fe88dab"), looks := false }, kinds := [], alts := [], laidByText := true, laidKinds := [.data, .data, .data], laidTests := true, laidLooks := .later }
def ImagesTouchedCardSaid : Prop := Claim7.holds Tryd.pinned (.plain (OpenSpec.ofChange imagesTouchedSpec)) imagesTouchedCard

/-- THE SECOND FORM's CARD OF 'riddlelaw.ImageHolds'. -/
def imageHoldsUptoCard : Claim7 := { stood := { row := imageHoldsUptoRow, standIns := [], harness := (true, "7da197bb95678929128c3856e460e800165fdd21605575fb852251f58fe88dab"), looks := false }, kinds := [], alts := [], laidByText := true, laidKinds := [.data, .data, .data], laidTests := true, laidLooks := .later }
def ImageHoldsUptoCardSaid : Prop := Claim7.holds Tryd.pinned (.plain (OpenSpec.upto imageHoldsSpec)) imageHoldsUptoCard

/-- THE SECOND FORM's CARD OF 'riddlelaw.ImageExpects'. -/
def imageExpectsUptoCard : Claim7 := { stood := { row := imageExpectsUptoRow, standIns := [], harness := (true, "7da197bb95678929128c3856e460e800165fdd21605575fb852251f58fe88dab"), looks := false }, kinds := [], alts := [], laidByText := true, laidKinds := [.data, .data, .data], laidTests := true, laidLooks := .later }
def ImageExpectsUptoCardSaid : Prop := Claim7.holds Tryd.pinned (.plain (OpenSpec.upto imageExpectsSpec)) imageExpectsUptoCard

/-- THE SECOND FORM's CARD OF 'riddlekeep.ImagesApart'. -/
def imagesApartUptoCard : Claim7 := { stood := { row := imagesApartUptoRow, standIns := [], harness := (true, "7da197bb95678929128c3856e460e800165fdd21605575fb852251f58fe88dab"), looks := false }, kinds := [], alts := [], laidByText := true, laidKinds := [.data, .data, .data], laidTests := true, laidLooks := .later }
def ImagesApartUptoCardSaid : Prop := Claim7.holds Tryd.pinned (.plain (OpenSpec.upto imagesApartSpec)) imagesApartUptoCard

/-- THE SECOND FORM's CARD OF 'riddlekeep.ImagesTouched'. -/
def imagesTouchedUptoCard : Claim7 := { stood := { row := imagesTouchedUptoRow, standIns := [], harness := (true, "7da197bb95678929128c3856e460e800165fdd21605575fb852251f58fe88dab"), looks := false }, kinds := [], alts := [], laidByText := true, laidKinds := [.data, .data, .data], laidTests := true, laidLooks := .later }
def ImagesTouchedUptoCardSaid : Prop := Claim7.holds Tryd.pinned (.plain (OpenSpec.upto imagesTouchedSpec)) imagesTouchedUptoCard
end Rows
end Go.Proofs.YtdidjepnlcnhmabDoor
