/-
  DERIVED. GIVEN WITH THE SEED: THE CARDS: each row of YtjopgmajgfddoadDoorRows.lean that lists a variable, with what it lists TIED to the program's text (the seventh form; the later family's looks); each row that meets fmt, with fmt's text TOLD by the authors' own Lean function (tested against real Go, not proved from fmt's source: count such statements apart). THE CARD IS WHAT COUNTS. Prove the row's statement (the work); the ties are given (YtjopgmajgfddoadDoorTie.lean); close each card by the builder's one call (the guide's Derived/Test/ToyasCard.lean, 'card_holds'). Laid BY PROGRAM, IN A SANDBOX (cutbox-door.mjs). By AI agents, Wed Nov 11 2026. No macro, syntax, notation, axiom, sorry.
-/
import Derived.Test.YtjopgmajgfddoadDoorRows
import GoSem.ClaimSeven
namespace Go.Proofs.YtjopgmajgfddoadDoor
namespace Rows

/-- THE TIED CARD OF 'riddlekeep.PagesApart'. -/
def pagesApartCard : Claim7 := { stood := { row := pagesApartRow, standIns := [], harness := (true, "64b907d99afb9db46fb96b8118fd71ca5d27cd7dc45bfbae2e8903ec2065c676"), looks := false }, kinds := [], alts := [], laidByText := true, laidKinds := [.data, .data, .data], laidTests := true, laidLooks := .later }
def PagesApartCardSaid : Prop := Claim7.holds Tryd.pinned (.plain (OpenSpec.ofChange pagesApartSpec)) pagesApartCard

/-- THE TIED CARD OF 'riddlekeep.StartsClose'. -/
def startsCloseCard : Claim7 := { stood := { row := startsCloseRow, standIns := [], harness := (true, "64b907d99afb9db46fb96b8118fd71ca5d27cd7dc45bfbae2e8903ec2065c676"), looks := false }, kinds := [], alts := [], laidByText := true, laidKinds := [.data, .data, .data], laidTests := true, laidLooks := .later }
def StartsCloseCardSaid : Prop := Claim7.holds Tryd.pinned (.plain (OpenSpec.ofChange startsCloseSpec)) startsCloseCard

/-- THE SECOND FORM's CARD OF 'riddlekeep.PagesApart'. -/
def pagesApartUptoCard : Claim7 := { stood := { row := pagesApartUptoRow, standIns := [], harness := (true, "64b907d99afb9db46fb96b8118fd71ca5d27cd7dc45bfbae2e8903ec2065c676"), looks := false }, kinds := [], alts := [], laidByText := true, laidKinds := [.data, .data, .data], laidTests := true, laidLooks := .later }
def PagesApartUptoCardSaid : Prop := Claim7.holds Tryd.pinned (.plain (OpenSpec.upto pagesApartSpec)) pagesApartUptoCard

/-- THE SECOND FORM's CARD OF 'riddlekeep.StartsClose'. -/
def startsCloseUptoCard : Claim7 := { stood := { row := startsCloseUptoRow, standIns := [], harness := (true, "64b907d99afb9db46fb96b8118fd71ca5d27cd7dc45bfbae2e8903ec2065c676"), looks := false }, kinds := [], alts := [], laidByText := true, laidKinds := [.data, .data, .data], laidTests := true, laidLooks := .later }
def StartsCloseUptoCardSaid : Prop := Claim7.holds Tryd.pinned (.plain (OpenSpec.upto startsCloseSpec)) startsCloseUptoCard
end Rows
end Go.Proofs.YtjopgmajgfddoadDoor
