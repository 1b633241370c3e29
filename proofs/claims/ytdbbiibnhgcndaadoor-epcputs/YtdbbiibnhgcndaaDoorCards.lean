/-
  DERIVED. GIVEN WITH THE SEED: THE CARDS: each row of YtdbbiibnhgcndaaDoorRows.lean that lists a variable, with what it lists TIED to the program's text (the seventh form; the later family's looks); each row that meets fmt, with fmt's text TOLD by the authors' own Lean function (tested against real Go, not proved from fmt's source: count such statements apart). THE CARD IS WHAT COUNTS. Prove the row's statement (the work); the ties are given (YtdbbiibnhgcndaaDoorTie.lean); close each card by the builder's one call (the guide's Derived/Test/ToyasCard.lean, 'card_holds'). Laid BY PROGRAM, IN A SANDBOX (cutbox-door.mjs). By AI agents, Wed Nov 11 2026. No macro, syntax, notation, axiom, sorry.
-/
import Derived.Test.YtdbbiibnhgcndaaDoorRows
import GoSem.ClaimSeven
namespace Go.Proofs.YtdbbiibnhgcndaaDoor
namespace Rows

/-- THE TIED CARD OF 'riddlelaw.ImageOpens'. -/
def imageOpensCard : Claim7 := { stood := { row := imageOpensRow, standIns := [], harness := (true, "320995ef7355017da0565a13f26bfdad68dead1ca6a5a49b7c88b72b320038dc"), looks := false }, kinds := [], alts := [], laidByText := true, laidKinds := [.data, .data, .data], laidTests := true, laidLooks := .later }
def ImageOpensCardSaid : Prop := Claim7.holds Tryd.pinned (.plain (OpenSpec.ofChange imageOpensSpec)) imageOpensCard

/-- THE TIED CARD OF 'riddlelaw.ImageAdds'. -/
def imageAddsCard : Claim7 := { stood := { row := imageAddsRow, standIns := [], harness := (true, "320995ef7355017da0565a13f26bfdad68dead1ca6a5a49b7c88b72b320038dc"), looks := false }, kinds := [], alts := [], laidByText := true, laidKinds := [.data, .data, .data], laidTests := true, laidLooks := .later }
def ImageAddsCardSaid : Prop := Claim7.holds Tryd.pinned (.plain (OpenSpec.ofChange imageAddsSpec)) imageAddsCard

/-- THE TIED CARD OF 'riddlelaw.ImageHolds'. -/
def imageHoldsCard : Claim7 := { stood := { row := imageHoldsRow, standIns := [], harness := (true, "320995ef7355017da0565a13f26bfdad68dead1ca6a5a49b7c88b72b320038dc"), looks := false }, kinds := [], alts := [], laidByText := true, laidKinds := [.data, .data, .data], laidTests := true, laidLooks := .later }
def ImageHoldsCardSaid : Prop := Claim7.holds Tryd.pinned (.plain (OpenSpec.ofChange imageHoldsSpec)) imageHoldsCard

/-- THE TIED CARD OF 'riddlelaw.ImageExpects'. -/
def imageExpectsCard : Claim7 := { stood := { row := imageExpectsRow, standIns := [], harness := (true, "320995ef7355017da0565a13f26bfdad68dead1ca6a5a49b7c88b72b320038dc"), looks := false }, kinds := [], alts := [], laidByText := true, laidKinds := [.data, .data, .data], laidTests := true, laidLooks := .later }
def ImageExpectsCardSaid : Prop := Claim7.holds Tryd.pinned (.plain (OpenSpec.ofChange imageExpectsSpec)) imageExpectsCard

/-- THE TIED CARD OF 'riddlekeep.ImagesApart'. -/
def imagesApartCard : Claim7 := { stood := { row := imagesApartRow, standIns := [], harness := (true, "320995ef7355017da0565a13f26bfdad68dead1ca6a5a49b7c88b72b320038dc"), looks := false }, kinds := [], alts := [], laidByText := true, laidKinds := [.data, .data, .data], laidTests := true, laidLooks := .later }
def ImagesApartCardSaid : Prop := Claim7.holds Tryd.pinned (.plain (OpenSpec.ofChange imagesApartSpec)) imagesApartCard

/-- THE TIED CARD OF 'riddlekeep.ImagesTouched'. -/
def imagesTouchedCard : Claim7 := { stood := { row := imagesTouchedRow, standIns := [], harness := (true, "320995ef7355017da0565a13f26bfdad68dead1ca6a5a49b7c88b72b320038dc"), looks := false }, kinds := [], alts := [], laidByText := true, laidKinds := [.data, .data, .data], laidTests := true, laidLooks := .later }
def ImagesTouchedCardSaid : Prop := Claim7.holds Tryd.pinned (.plain (OpenSpec.ofChange imagesTouchedSpec)) imagesTouchedCard

/-- THE TIED CARD OF 'riddlelaw.EpcCreates'. -/
def epcCreatesCard : Claim7 := { stood := { row := epcCreatesRow, standIns := [], harness := (true, "320995ef7355017da0565a13f26bfdad68dead1ca6a5a49b7c88b72b320038dc"), looks := false }, kinds := [], alts := [], laidByText := true, laidKinds := [.data, .data, .data], laidTests := true, laidLooks := .later }
def EpcCreatesCardSaid : Prop := Claim7.holds Tryd.pinned (.plain (OpenSpec.ofChange epcCreatesSpec)) epcCreatesCard

/-- THE TIED CARD OF 'riddlelaw.EpcPuts'. -/
def epcPutsCard : Claim7 := { stood := { row := epcPutsRow, standIns := [], harness := (true, "320995ef7355017da0565a13f26bfdad68dead1ca6a5a49b7c88b72b320038dc"), looks := false }, kinds := [], alts := [], laidByText := true, laidKinds := [.data, .data, .data], laidTests := true, laidLooks := .later }
def EpcPutsCardSaid : Prop := Claim7.holds Tryd.pinned (.plain (OpenSpec.ofChange epcPutsSpec)) epcPutsCard

/-- THE TIED CARD OF 'riddlelaw.EpcMeasures'. -/
def epcMeasuresCard : Claim7 := { stood := { row := epcMeasuresRow, standIns := [], harness := (true, "320995ef7355017da0565a13f26bfdad68dead1ca6a5a49b7c88b72b320038dc"), looks := false }, kinds := [], alts := [], laidByText := true, laidKinds := [.data, .data, .data], laidTests := true, laidLooks := .later }
def EpcMeasuresCardSaid : Prop := Claim7.holds Tryd.pinned (.plain (OpenSpec.ofChange epcMeasuresSpec)) epcMeasuresCard

/-- THE SECOND FORM's CARD OF 'riddlelaw.ImageOpens'. -/
def imageOpensUptoCard : Claim7 := { stood := { row := imageOpensUptoRow, standIns := [], harness := (true, "320995ef7355017da0565a13f26bfdad68dead1ca6a5a49b7c88b72b320038dc"), looks := false }, kinds := [], alts := [], laidByText := true, laidKinds := [.data, .data, .data], laidTests := true, laidLooks := .later }
def ImageOpensUptoCardSaid : Prop := Claim7.holds Tryd.pinned (.plain (OpenSpec.upto imageOpensSpec)) imageOpensUptoCard

/-- THE SECOND FORM's CARD OF 'riddlelaw.ImageAdds'. -/
def imageAddsUptoCard : Claim7 := { stood := { row := imageAddsUptoRow, standIns := [], harness := (true, "320995ef7355017da0565a13f26bfdad68dead1ca6a5a49b7c88b72b320038dc"), looks := false }, kinds := [], alts := [], laidByText := true, laidKinds := [.data, .data, .data], laidTests := true, laidLooks := .later }
def ImageAddsUptoCardSaid : Prop := Claim7.holds Tryd.pinned (.plain (OpenSpec.upto imageAddsSpec)) imageAddsUptoCard

/-- THE SECOND FORM's CARD OF 'riddlelaw.ImageHolds'. -/
def imageHoldsUptoCard : Claim7 := { stood := { row := imageHoldsUptoRow, standIns := [], harness := (true, "320995ef7355017da0565a13f26bfdad68dead1ca6a5a49b7c88b72b320038dc"), looks := false }, kinds := [], alts := [], laidByText := true, laidKinds := [.data, .data, .data], laidTests := true, laidLooks := .later }
def ImageHoldsUptoCardSaid : Prop := Claim7.holds Tryd.pinned (.plain (OpenSpec.upto imageHoldsSpec)) imageHoldsUptoCard

/-- THE SECOND FORM's CARD OF 'riddlelaw.ImageExpects'. -/
def imageExpectsUptoCard : Claim7 := { stood := { row := imageExpectsUptoRow, standIns := [], harness := (true, "320995ef7355017da0565a13f26bfdad68dead1ca6a5a49b7c88b72b320038dc"), looks := false }, kinds := [], alts := [], laidByText := true, laidKinds := [.data, .data, .data], laidTests := true, laidLooks := .later }
def ImageExpectsUptoCardSaid : Prop := Claim7.holds Tryd.pinned (.plain (OpenSpec.upto imageExpectsSpec)) imageExpectsUptoCard

/-- THE SECOND FORM's CARD OF 'riddlekeep.ImagesApart'. -/
def imagesApartUptoCard : Claim7 := { stood := { row := imagesApartUptoRow, standIns := [], harness := (true, "320995ef7355017da0565a13f26bfdad68dead1ca6a5a49b7c88b72b320038dc"), looks := false }, kinds := [], alts := [], laidByText := true, laidKinds := [.data, .data, .data], laidTests := true, laidLooks := .later }
def ImagesApartUptoCardSaid : Prop := Claim7.holds Tryd.pinned (.plain (OpenSpec.upto imagesApartSpec)) imagesApartUptoCard

/-- THE SECOND FORM's CARD OF 'riddlekeep.ImagesTouched'. -/
def imagesTouchedUptoCard : Claim7 := { stood := { row := imagesTouchedUptoRow, standIns := [], harness := (true, "320995ef7355017da0565a13f26bfdad68dead1ca6a5a49b7c88b72b320038dc"), looks := false }, kinds := [], alts := [], laidByText := true, laidKinds := [.data, .data, .data], laidTests := true, laidLooks := .later }
def ImagesTouchedUptoCardSaid : Prop := Claim7.holds Tryd.pinned (.plain (OpenSpec.upto imagesTouchedSpec)) imagesTouchedUptoCard

/-- THE SECOND FORM's CARD OF 'riddlelaw.EpcCreates'. -/
def epcCreatesUptoCard : Claim7 := { stood := { row := epcCreatesUptoRow, standIns := [], harness := (true, "320995ef7355017da0565a13f26bfdad68dead1ca6a5a49b7c88b72b320038dc"), looks := false }, kinds := [], alts := [], laidByText := true, laidKinds := [.data, .data, .data], laidTests := true, laidLooks := .later }
def EpcCreatesUptoCardSaid : Prop := Claim7.holds Tryd.pinned (.plain (OpenSpec.upto epcCreatesSpec)) epcCreatesUptoCard

/-- THE SECOND FORM's CARD OF 'riddlelaw.EpcPuts'. -/
def epcPutsUptoCard : Claim7 := { stood := { row := epcPutsUptoRow, standIns := [], harness := (true, "320995ef7355017da0565a13f26bfdad68dead1ca6a5a49b7c88b72b320038dc"), looks := false }, kinds := [], alts := [], laidByText := true, laidKinds := [.data, .data, .data], laidTests := true, laidLooks := .later }
def EpcPutsUptoCardSaid : Prop := Claim7.holds Tryd.pinned (.plain (OpenSpec.upto epcPutsSpec)) epcPutsUptoCard

/-- THE SECOND FORM's CARD OF 'riddlelaw.EpcMeasures'. -/
def epcMeasuresUptoCard : Claim7 := { stood := { row := epcMeasuresUptoRow, standIns := [], harness := (true, "320995ef7355017da0565a13f26bfdad68dead1ca6a5a49b7c88b72b320038dc"), looks := false }, kinds := [], alts := [], laidByText := true, laidKinds := [.data, .data, .data], laidTests := true, laidLooks := .later }
def EpcMeasuresUptoCardSaid : Prop := Claim7.holds Tryd.pinned (.plain (OpenSpec.upto epcMeasuresSpec)) epcMeasuresUptoCard
end Rows
end Go.Proofs.YtdbbiibnhgcndaaDoor
