/-
  DERIVED. GIVEN WITH THE SEED: THE CARDS: each row of YtdngbojbpmdegaaGreatDoorRows.lean that lists a variable, with what it lists TIED to the program's text (the seventh form; the later family's looks); each row that meets fmt, with fmt's text TOLD by the authors' own Lean function (tested against real Go, not proved from fmt's source: count such statements apart). THE CARD IS WHAT COUNTS. Prove the row's statement (the work); the ties are given (YtdngbojbpmdegaaGreatDoorTie.lean); close each card by the builder's one call (the guide's Derived/Test/ToyasCard.lean, 'card_holds'). Laid BY PROGRAM, IN A SANDBOX (cutbox-door.mjs). By AI agents, Wed Nov 11 2026. No macro, syntax, notation, axiom, sorry.
-/
import Derived.Test.YtdngbojbpmdegaaGreatDoorRows
import GoSem.ClaimSeven
namespace Go.Proofs.YtdngbojbpmdegaaGreatDoor
namespace Rows

/-- THE TIED CARD OF 'riddlelaw.HostRuns'. -/
def hostRunsCard : Claim7 := { stood := { row := hostRunsRow, standIns := [], harness := (true, "28fa9dad725b404c375b6a8196cd5aa9a84fb615e2ed28b0b9d531913442807d"), looks := false }, kinds := [], alts := [], laidByText := true, laidKinds := [.data, .data, .data], laidTests := true, laidLooks := .later }
def HostRunsCardSaid : Prop := Claim7.holds Tryz.pinned (.plain (OpenSpec.ofChange hostRunsSpec)) hostRunsCard

/-- THE TIED CARD OF 'riddlekeep.RunsReckon'. -/
def runsReckonCard : Claim7 := { stood := { row := runsReckonRow, standIns := [], harness := (true, "28fa9dad725b404c375b6a8196cd5aa9a84fb615e2ed28b0b9d531913442807d"), looks := false }, kinds := [], alts := [], laidByText := true, laidKinds := [.data, .data, .data], laidTests := true, laidLooks := .later }
def RunsReckonCardSaid : Prop := Claim7.holds Tryz.pinned (.plain (OpenSpec.ofChange runsReckonSpec)) runsReckonCard

/-- THE TIED CARD OF 'riddlekeep.RunsFault'. -/
def runsFaultCard : Claim7 := { stood := { row := runsFaultRow, standIns := [], harness := (true, "28fa9dad725b404c375b6a8196cd5aa9a84fb615e2ed28b0b9d531913442807d"), looks := false }, kinds := [], alts := [], laidByText := true, laidKinds := [.data, .data, .data], laidTests := true, laidLooks := .later }
def RunsFaultCardSaid : Prop := Claim7.holds Tryz.pinned (.plain (OpenSpec.ofChange runsFaultSpec)) runsFaultCard

/-- THE TIED CARD OF 'riddlekeep.HostsGood'. -/
def hostsGoodCard : Claim7 := { stood := { row := hostsGoodRow, standIns := [], harness := (true, "28fa9dad725b404c375b6a8196cd5aa9a84fb615e2ed28b0b9d531913442807d"), looks := false }, kinds := [], alts := [], laidByText := true, laidKinds := [.data, .data, .data], laidTests := true, laidLooks := .later }
def HostsGoodCardSaid : Prop := Claim7.holds Tryz.pinned (.plain (OpenSpec.ofChange hostsGoodSpec)) hostsGoodCard

/-- THE TIED CARD OF 'riddletop.TopBuilt'. -/
def topBuiltCard : Claim7 := { stood := { row := topBuiltRow, standIns := [], harness := (true, "28fa9dad725b404c375b6a8196cd5aa9a84fb615e2ed28b0b9d531913442807d"), looks := false }, kinds := [], alts := [], laidByText := true, laidKinds := [.data, .data, .data], laidTests := true, laidLooks := .later }
def TopBuiltCardSaid : Prop := Claim7.holds Tryz.pinned (.plain (OpenSpec.ofChange topBuiltSpec)) topBuiltCard

/-- THE TIED CARD OF 'riddletop.TopMeasured'. -/
def topMeasuredCard : Claim7 := { stood := { row := topMeasuredRow, standIns := [], harness := (true, "28fa9dad725b404c375b6a8196cd5aa9a84fb615e2ed28b0b9d531913442807d"), looks := false }, kinds := [], alts := [], laidByText := true, laidKinds := [.data, .data, .data], laidTests := true, laidLooks := .later }
def TopMeasuredCardSaid : Prop := Claim7.holds Tryz.pinned (.plain (OpenSpec.ofChange topMeasuredSpec)) topMeasuredCard

/-- THE TIED CARD OF 'riddletop.TopBlind'. -/
def topBlindCard : Claim7 := { stood := { row := topBlindRow, standIns := [], harness := (true, "28fa9dad725b404c375b6a8196cd5aa9a84fb615e2ed28b0b9d531913442807d"), looks := false }, kinds := [], alts := [], laidByText := true, laidKinds := [.data, .data, .data], laidTests := true, laidLooks := .later }
def TopBlindCardSaid : Prop := Claim7.holds Tryz.pinned (.plain (OpenSpec.ofChange topBlindSpec)) topBlindCard

/-- THE TIED CARD OF 'riddletop.TopWalls'. -/
def topWallsCard : Claim7 := { stood := { row := topWallsRow, standIns := [], harness := (true, "28fa9dad725b404c375b6a8196cd5aa9a84fb615e2ed28b0b9d531913442807d"), looks := false }, kinds := [], alts := [], laidByText := true, laidKinds := [.data, .data, .data], laidTests := true, laidLooks := .later }
def TopWallsCardSaid : Prop := Claim7.holds Tryz.pinned (.plain (OpenSpec.ofChange topWallsSpec)) topWallsCard

/-- THE TIED CARD OF 'riddletop.TopHeld'. -/
def topHeldCard : Claim7 := { stood := { row := topHeldRow, standIns := [], harness := (true, "28fa9dad725b404c375b6a8196cd5aa9a84fb615e2ed28b0b9d531913442807d"), looks := false }, kinds := [], alts := [], laidByText := true, laidKinds := [.data, .data, .data], laidTests := true, laidLooks := .later }
def TopHeldCardSaid : Prop := Claim7.holds Tryz.pinned (.plain (OpenSpec.ofChange topHeldSpec)) topHeldCard

/-- THE TIED CARD OF 'riddletop.TopTrusted'. -/
def topTrustedCard : Claim7 := { stood := { row := topTrustedRow, standIns := [], harness := (true, "28fa9dad725b404c375b6a8196cd5aa9a84fb615e2ed28b0b9d531913442807d"), looks := false }, kinds := [], alts := [], laidByText := true, laidKinds := [.data, .data, .data], laidTests := true, laidLooks := .later }
def TopTrustedCardSaid : Prop := Claim7.holds Tryz.pinned (.plain (OpenSpec.ofChange topTrustedSpec)) topTrustedCard

/-- THE SECOND FORM's CARD OF 'riddlelaw.HostRuns'. -/
def hostRunsUptoCard : Claim7 := { stood := { row := hostRunsUptoRow, standIns := [], harness := (true, "28fa9dad725b404c375b6a8196cd5aa9a84fb615e2ed28b0b9d531913442807d"), looks := false }, kinds := [], alts := [], laidByText := true, laidKinds := [.data, .data, .data], laidTests := true, laidLooks := .later }
def HostRunsUptoCardSaid : Prop := Claim7.holds Tryz.pinned (.plain (OpenSpec.upto hostRunsSpec)) hostRunsUptoCard

/-- THE SECOND FORM's CARD OF 'riddlekeep.RunsReckon'. -/
def runsReckonUptoCard : Claim7 := { stood := { row := runsReckonUptoRow, standIns := [], harness := (true, "28fa9dad725b404c375b6a8196cd5aa9a84fb615e2ed28b0b9d531913442807d"), looks := false }, kinds := [], alts := [], laidByText := true, laidKinds := [.data, .data, .data], laidTests := true, laidLooks := .later }
def RunsReckonUptoCardSaid : Prop := Claim7.holds Tryz.pinned (.plain (OpenSpec.upto runsReckonSpec)) runsReckonUptoCard

/-- THE SECOND FORM's CARD OF 'riddlekeep.RunsFault'. -/
def runsFaultUptoCard : Claim7 := { stood := { row := runsFaultUptoRow, standIns := [], harness := (true, "28fa9dad725b404c375b6a8196cd5aa9a84fb615e2ed28b0b9d531913442807d"), looks := false }, kinds := [], alts := [], laidByText := true, laidKinds := [.data, .data, .data], laidTests := true, laidLooks := .later }
def RunsFaultUptoCardSaid : Prop := Claim7.holds Tryz.pinned (.plain (OpenSpec.upto runsFaultSpec)) runsFaultUptoCard

/-- THE SECOND FORM's CARD OF 'riddlekeep.HostsGood'. -/
def hostsGoodUptoCard : Claim7 := { stood := { row := hostsGoodUptoRow, standIns := [], harness := (true, "28fa9dad725b404c375b6a8196cd5aa9a84fb615e2ed28b0b9d531913442807d"), looks := false }, kinds := [], alts := [], laidByText := true, laidKinds := [.data, .data, .data], laidTests := true, laidLooks := .later }
def HostsGoodUptoCardSaid : Prop := Claim7.holds Tryz.pinned (.plain (OpenSpec.upto hostsGoodSpec)) hostsGoodUptoCard

/-- THE SECOND FORM's CARD OF 'riddletop.TopBuilt'. -/
def topBuiltUptoCard : Claim7 := { stood := { row := topBuiltUptoRow, standIns := [], harness := (true, "28fa9dad725b404c375b6a8196cd5aa9a84fb615e2ed28b0b9d531913442807d"), looks := false }, kinds := [], alts := [], laidByText := true, laidKinds := [.data, .data, .data], laidTests := true, laidLooks := .later }
def TopBuiltUptoCardSaid : Prop := Claim7.holds Tryz.pinned (.plain (OpenSpec.upto topBuiltSpec)) topBuiltUptoCard

/-- THE SECOND FORM's CARD OF 'riddletop.TopMeasured'. -/
def topMeasuredUptoCard : Claim7 := { stood := { row := topMeasuredUptoRow, standIns := [], harness := (true, "28fa9dad725b404c375b6a8196cd5aa9a84fb615e2ed28b0b9d531913442807d"), looks := false }, kinds := [], alts := [], laidByText := true, laidKinds := [.data, .data, .data], laidTests := true, laidLooks := .later }
def TopMeasuredUptoCardSaid : Prop := Claim7.holds Tryz.pinned (.plain (OpenSpec.upto topMeasuredSpec)) topMeasuredUptoCard

/-- THE SECOND FORM's CARD OF 'riddletop.TopBlind'. -/
def topBlindUptoCard : Claim7 := { stood := { row := topBlindUptoRow, standIns := [], harness := (true, "28fa9dad725b404c375b6a8196cd5aa9a84fb615e2ed28b0b9d531913442807d"), looks := false }, kinds := [], alts := [], laidByText := true, laidKinds := [.data, .data, .data], laidTests := true, laidLooks := .later }
def TopBlindUptoCardSaid : Prop := Claim7.holds Tryz.pinned (.plain (OpenSpec.upto topBlindSpec)) topBlindUptoCard

/-- THE SECOND FORM's CARD OF 'riddletop.TopWalls'. -/
def topWallsUptoCard : Claim7 := { stood := { row := topWallsUptoRow, standIns := [], harness := (true, "28fa9dad725b404c375b6a8196cd5aa9a84fb615e2ed28b0b9d531913442807d"), looks := false }, kinds := [], alts := [], laidByText := true, laidKinds := [.data, .data, .data], laidTests := true, laidLooks := .later }
def TopWallsUptoCardSaid : Prop := Claim7.holds Tryz.pinned (.plain (OpenSpec.upto topWallsSpec)) topWallsUptoCard

/-- THE SECOND FORM's CARD OF 'riddletop.TopHeld'. -/
def topHeldUptoCard : Claim7 := { stood := { row := topHeldUptoRow, standIns := [], harness := (true, "28fa9dad725b404c375b6a8196cd5aa9a84fb615e2ed28b0b9d531913442807d"), looks := false }, kinds := [], alts := [], laidByText := true, laidKinds := [.data, .data, .data], laidTests := true, laidLooks := .later }
def TopHeldUptoCardSaid : Prop := Claim7.holds Tryz.pinned (.plain (OpenSpec.upto topHeldSpec)) topHeldUptoCard

/-- THE SECOND FORM's CARD OF 'riddletop.TopTrusted'. -/
def topTrustedUptoCard : Claim7 := { stood := { row := topTrustedUptoRow, standIns := [], harness := (true, "28fa9dad725b404c375b6a8196cd5aa9a84fb615e2ed28b0b9d531913442807d"), looks := false }, kinds := [], alts := [], laidByText := true, laidKinds := [.data, .data, .data], laidTests := true, laidLooks := .later }
def TopTrustedUptoCardSaid : Prop := Claim7.holds Tryz.pinned (.plain (OpenSpec.upto topTrustedSpec)) topTrustedUptoCard
end Rows
end Go.Proofs.YtdngbojbpmdegaaGreatDoor
