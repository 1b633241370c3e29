/-
  No cell of these rows narrows 'for every input' (looked for: loops, veiled, ifaces, maps, wideKeys, modest, calm, conditions, laid).
  DERIVED. THE GIVEN ROWS OF THIS SEAT. 18 by the template 'for every input the law returns true; each argument reads behind the call as it read before'; 0 by the template 'total and deterministic' (their statements: YtdbbiibnhgcndaaTotals.lean).
  GIVEN WITH THE SEED: the statements are not yours to turn. If you find one false, say at which input.
  Laid BY PROGRAM, IN A SANDBOX (cutbox-rows.mjs): the forced cells as the released guide's own fill.sh prints them over the translation 89e092b63bd6cf2a… (all of the seat's roots in one cut). By AI agents, Wed Nov 11 2026. No macro, syntax, notation, axiom, sorry.
-/
import Derived.Test.YtdbbiibnhgcndaaChecked
import GoSem.Claim
import GoSem.ClaimJoined
import GoSem.ClaimMapViews
import Derived.JoinedTies
import Derived.KernelRfl
namespace Go.Proofs.Ytdbbiibnhgcndaa
/- THE CELL 'sum', in the pinned program and in every row, IS THE sha256 OF THE DUMP (.gsa) THAT YtdbbiibnhgcndaaProg.lean LOADS. Nothing in Lean hashes anything: it is a label: what it is worth is what the hold of that sum in a sandbox is worth. -/
noncomputable def Try.pinned : Pinned := { name := "ytdbbiibnhgcndaa", sum := "89e092b63bd6cf2aeb5e9ed61638312265648fd62d93ae5cbc3e5f7176de61bb", checked := Try.checked }
namespace Rows
def none {H : Type} : Left H := { results := [], args := [] }

/-- 'riddlelaw.ImageWords': WHATEVER THE INPUT: true; the input reads as it did. -/
def imageWordsSpec : ChangeSpec := { name := "imageWords", fn := fun _ => fun
  | [d] => { results := [.lit (.bool true)], args := [d] }
  | _ => none }
def imageWordsRow : OpenClaim := { program := "ytdbbiibnhgcndaa", sum := "89e092b63bd6cf2aeb5e9ed61638312265648fd62d93ae5cbc3e5f7176de61bb", func := "riddle/riddlelaw.ImageWords", spec := "imageWords", unfollowed := true, recurses := true, apart := false }
def ImageWordsSaid : Prop := imageWordsRow.holds Try.pinned (OpenSpec.ofChange imageWordsSpec)

/-- ITS FALSE NEIGHBOUR: 'it returns false'. Refute it at one input. -/
def imageWordsWrong : ChangeSpec := { name := "imageWords", fn := fun _ => fun
  | [d] => { results := [.lit (.bool false)], args := [d] }
  | _ => none }
def ImageWordsWrongFalsely : Prop := imageWordsRow.holds Try.pinned (OpenSpec.ofChange imageWordsWrong)

/-- 'riddlelaw.ImagePages': WHATEVER THE INPUT: true; the input reads as it did. -/
def imagePagesSpec : ChangeSpec := { name := "imagePages", fn := fun _ => fun
  | [d] => { results := [.lit (.bool true)], args := [d] }
  | _ => none }
def imagePagesRow : OpenClaim := { program := "ytdbbiibnhgcndaa", sum := "89e092b63bd6cf2aeb5e9ed61638312265648fd62d93ae5cbc3e5f7176de61bb", func := "riddle/riddlelaw.ImagePages", spec := "imagePages", unfollowed := true, recurses := true, apart := false }
def ImagePagesSaid : Prop := imagePagesRow.holds Try.pinned (OpenSpec.ofChange imagePagesSpec)

/-- ITS FALSE NEIGHBOUR: 'it returns false'. Refute it at one input. -/
def imagePagesWrong : ChangeSpec := { name := "imagePages", fn := fun _ => fun
  | [d] => { results := [.lit (.bool false)], args := [d] }
  | _ => none }
def ImagePagesWrongFalsely : Prop := imagePagesRow.holds Try.pinned (OpenSpec.ofChange imagePagesWrong)

/-- 'riddlelaw.ImageChecks': WHATEVER THE INPUT: true; the input reads as it did. -/
def imageChecksSpec : ChangeSpec := { name := "imageChecks", fn := fun _ => fun
  | [d] => { results := [.lit (.bool true)], args := [d] }
  | _ => none }
def imageChecksRow : OpenClaim := { program := "ytdbbiibnhgcndaa", sum := "89e092b63bd6cf2aeb5e9ed61638312265648fd62d93ae5cbc3e5f7176de61bb", func := "riddle/riddlelaw.ImageChecks", spec := "imageChecks", unfollowed := true, recurses := true, apart := false }
def ImageChecksSaid : Prop := imageChecksRow.holds Try.pinned (OpenSpec.ofChange imageChecksSpec)

/-- ITS FALSE NEIGHBOUR: 'it returns false'. Refute it at one input. -/
def imageChecksWrong : ChangeSpec := { name := "imageChecks", fn := fun _ => fun
  | [d] => { results := [.lit (.bool false)], args := [d] }
  | _ => none }
def ImageChecksWrongFalsely : Prop := imageChecksRow.holds Try.pinned (OpenSpec.ofChange imageChecksWrong)

/-- 'riddlelaw.ImageCopies': WHATEVER THE INPUT: true; the input reads as it did. -/
def imageCopiesSpec : ChangeSpec := { name := "imageCopies", fn := fun _ => fun
  | [d] => { results := [.lit (.bool true)], args := [d] }
  | _ => none }
def imageCopiesRow : OpenClaim := { program := "ytdbbiibnhgcndaa", sum := "89e092b63bd6cf2aeb5e9ed61638312265648fd62d93ae5cbc3e5f7176de61bb", func := "riddle/riddlelaw.ImageCopies", spec := "imageCopies", apart := false }
def ImageCopiesSaid : Prop := imageCopiesRow.holds Try.pinned (OpenSpec.ofChange imageCopiesSpec)

/-- ITS FALSE NEIGHBOUR: 'it returns false'. Refute it at one input. -/
def imageCopiesWrong : ChangeSpec := { name := "imageCopies", fn := fun _ => fun
  | [d] => { results := [.lit (.bool false)], args := [d] }
  | _ => none }
def ImageCopiesWrongFalsely : Prop := imageCopiesRow.holds Try.pinned (OpenSpec.ofChange imageCopiesWrong)

/-- 'riddlelaw.ImagePlans': WHATEVER THE INPUT: true; the input reads as it did. -/
def imagePlansSpec : ChangeSpec := { name := "imagePlans", fn := fun _ => fun
  | [d1, d2, d3] => { results := [.lit (.bool true)], args := [d1, d2, d3] }
  | _ => none }
def imagePlansRow : OpenClaim := { program := "ytdbbiibnhgcndaa", sum := "89e092b63bd6cf2aeb5e9ed61638312265648fd62d93ae5cbc3e5f7176de61bb", func := "riddle/riddlelaw.ImagePlans", spec := "imagePlans", unfollowed := true, recurses := true, apart := false }
def ImagePlansSaid : Prop := imagePlansRow.holds Try.pinned (OpenSpec.ofChange imagePlansSpec)

/-- ITS FALSE NEIGHBOUR: 'it returns false'. Refute it at one input. -/
def imagePlansWrong : ChangeSpec := { name := "imagePlans", fn := fun _ => fun
  | [d1, d2, d3] => { results := [.lit (.bool false)], args := [d1, d2, d3] }
  | _ => none }
def ImagePlansWrongFalsely : Prop := imagePlansRow.holds Try.pinned (OpenSpec.ofChange imagePlansWrong)

/-- 'riddlelaw.EpcNew': WHATEVER THE INPUT: true; the input reads as it did. -/
def epcNewSpec : ChangeSpec := { name := "epcNew", fn := fun _ => fun
  | [] => { results := [.lit (.bool true)], args := [] }
  | _ => none }
def epcNewRow : OpenClaim := { program := "ytdbbiibnhgcndaa", sum := "89e092b63bd6cf2aeb5e9ed61638312265648fd62d93ae5cbc3e5f7176de61bb", func := "riddle/riddlelaw.EpcNew", spec := "epcNew", apart := false }
def EpcNewSaid : Prop := epcNewRow.holds Try.pinned (OpenSpec.ofChange epcNewSpec)

/-- ITS FALSE NEIGHBOUR: 'it returns false'. Refute it at one input. -/
def epcNewWrong : ChangeSpec := { name := "epcNew", fn := fun _ => fun
  | [] => { results := [.lit (.bool false)], args := [] }
  | _ => none }
def EpcNewWrongFalsely : Prop := epcNewRow.holds Try.pinned (OpenSpec.ofChange epcNewWrong)

/-- 'riddlelaw.EpcChecks': WHATEVER THE INPUT: true; the input reads as it did. -/
def epcChecksSpec : ChangeSpec := { name := "epcChecks", fn := fun _ => fun
  | [d] => { results := [.lit (.bool true)], args := [d] }
  | _ => none }
def epcChecksRow : OpenClaim := { program := "ytdbbiibnhgcndaa", sum := "89e092b63bd6cf2aeb5e9ed61638312265648fd62d93ae5cbc3e5f7176de61bb", func := "riddle/riddlelaw.EpcChecks", spec := "epcChecks", unfollowed := true, recurses := true, apart := false }
def EpcChecksSaid : Prop := epcChecksRow.holds Try.pinned (OpenSpec.ofChange epcChecksSpec)

/-- ITS FALSE NEIGHBOUR: 'it returns false'. Refute it at one input. -/
def epcChecksWrong : ChangeSpec := { name := "epcChecks", fn := fun _ => fun
  | [d] => { results := [.lit (.bool false)], args := [d] }
  | _ => none }
def EpcChecksWrongFalsely : Prop := epcChecksRow.holds Try.pinned (OpenSpec.ofChange epcChecksWrong)

/-- 'riddlelaw.EpcCopies': WHATEVER THE INPUT: true; the input reads as it did. -/
def epcCopiesSpec : ChangeSpec := { name := "epcCopies", fn := fun _ => fun
  | [d] => { results := [.lit (.bool true)], args := [d] }
  | _ => none }
def epcCopiesRow : OpenClaim := { program := "ytdbbiibnhgcndaa", sum := "89e092b63bd6cf2aeb5e9ed61638312265648fd62d93ae5cbc3e5f7176de61bb", func := "riddle/riddlelaw.EpcCopies", spec := "epcCopies", apart := false }
def EpcCopiesSaid : Prop := epcCopiesRow.holds Try.pinned (OpenSpec.ofChange epcCopiesSpec)

/-- ITS FALSE NEIGHBOUR: 'it returns false'. Refute it at one input. -/
def epcCopiesWrong : ChangeSpec := { name := "epcCopies", fn := fun _ => fun
  | [d] => { results := [.lit (.bool false)], args := [d] }
  | _ => none }
def EpcCopiesWrongFalsely : Prop := epcCopiesRow.holds Try.pinned (OpenSpec.ofChange epcCopiesWrong)

/-- 'riddlelaw.EpcPlaces': WHATEVER THE INPUT: true; the input reads as it did. -/
def epcPlacesSpec : ChangeSpec := { name := "epcPlaces", fn := fun _ => fun
  | [d1, d2, d3] => { results := [.lit (.bool true)], args := [d1, d2, d3] }
  | _ => none }
def epcPlacesRow : OpenClaim := { program := "ytdbbiibnhgcndaa", sum := "89e092b63bd6cf2aeb5e9ed61638312265648fd62d93ae5cbc3e5f7176de61bb", func := "riddle/riddlelaw.EpcPlaces", spec := "epcPlaces", unfollowed := true, recurses := true, apart := false }
def EpcPlacesSaid : Prop := epcPlacesRow.holds Try.pinned (OpenSpec.ofChange epcPlacesSpec)

/-- ITS FALSE NEIGHBOUR: 'it returns false'. Refute it at one input. -/
def epcPlacesWrong : ChangeSpec := { name := "epcPlaces", fn := fun _ => fun
  | [d1, d2, d3] => { results := [.lit (.bool false)], args := [d1, d2, d3] }
  | _ => none }
def EpcPlacesWrongFalsely : Prop := epcPlacesRow.holds Try.pinned (OpenSpec.ofChange epcPlacesWrong)

/-- 'riddlelaw.EpcStarts': WHATEVER THE INPUT: true; the input reads as it did. -/
def epcStartsSpec : ChangeSpec := { name := "epcStarts", fn := fun _ => fun
  | [d1, d2] => { results := [.lit (.bool true)], args := [d1, d2] }
  | _ => none }
def epcStartsRow : OpenClaim := { program := "ytdbbiibnhgcndaa", sum := "89e092b63bd6cf2aeb5e9ed61638312265648fd62d93ae5cbc3e5f7176de61bb", func := "riddle/riddlelaw.EpcStarts", spec := "epcStarts", unfollowed := true, recurses := true, apart := false }
def EpcStartsSaid : Prop := epcStartsRow.holds Try.pinned (OpenSpec.ofChange epcStartsSpec)

/-- ITS FALSE NEIGHBOUR: 'it returns false'. Refute it at one input. -/
def epcStartsWrong : ChangeSpec := { name := "epcStarts", fn := fun _ => fun
  | [d1, d2] => { results := [.lit (.bool false)], args := [d1, d2] }
  | _ => none }
def EpcStartsWrongFalsely : Prop := epcStartsRow.holds Try.pinned (OpenSpec.ofChange epcStartsWrong)

/-- 'riddlelaw.EpcRemoves': WHATEVER THE INPUT: true; the input reads as it did. -/
def epcRemovesSpec : ChangeSpec := { name := "epcRemoves", fn := fun _ => fun
  | [d1, d2] => { results := [.lit (.bool true)], args := [d1, d2] }
  | _ => none }
def epcRemovesRow : OpenClaim := { program := "ytdbbiibnhgcndaa", sum := "89e092b63bd6cf2aeb5e9ed61638312265648fd62d93ae5cbc3e5f7176de61bb", func := "riddle/riddlelaw.EpcRemoves", spec := "epcRemoves", unfollowed := true, recurses := true, apart := false }
def EpcRemovesSaid : Prop := epcRemovesRow.holds Try.pinned (OpenSpec.ofChange epcRemovesSpec)

/-- ITS FALSE NEIGHBOUR: 'it returns false'. Refute it at one input. -/
def epcRemovesWrong : ChangeSpec := { name := "epcRemoves", fn := fun _ => fun
  | [d1, d2] => { results := [.lit (.bool false)], args := [d1, d2] }
  | _ => none }
def EpcRemovesWrongFalsely : Prop := epcRemovesRow.holds Try.pinned (OpenSpec.ofChange epcRemovesWrong)

/-- 'riddlelaw.EpcPeeks': WHATEVER THE INPUT: true; the input reads as it did. -/
def epcPeeksSpec : ChangeSpec := { name := "epcPeeks", fn := fun _ => fun
  | [d1, d2, d3] => { results := [.lit (.bool true)], args := [d1, d2, d3] }
  | _ => none }
def epcPeeksRow : OpenClaim := { program := "ytdbbiibnhgcndaa", sum := "89e092b63bd6cf2aeb5e9ed61638312265648fd62d93ae5cbc3e5f7176de61bb", func := "riddle/riddlelaw.EpcPeeks", spec := "epcPeeks", unfollowed := true, recurses := true, apart := false }
def EpcPeeksSaid : Prop := epcPeeksRow.holds Try.pinned (OpenSpec.ofChange epcPeeksSpec)

/-- ITS FALSE NEIGHBOUR: 'it returns false'. Refute it at one input. -/
def epcPeeksWrong : ChangeSpec := { name := "epcPeeks", fn := fun _ => fun
  | [d1, d2, d3] => { results := [.lit (.bool false)], args := [d1, d2, d3] }
  | _ => none }
def EpcPeeksWrongFalsely : Prop := epcPeeksRow.holds Try.pinned (OpenSpec.ofChange epcPeeksWrong)

/-- 'riddlelaw.EpcPokes': WHATEVER THE INPUT: true; the input reads as it did. -/
def epcPokesSpec : ChangeSpec := { name := "epcPokes", fn := fun _ => fun
  | [d1, d2, d3, d4] => { results := [.lit (.bool true)], args := [d1, d2, d3, d4] }
  | _ => none }
def epcPokesRow : OpenClaim := { program := "ytdbbiibnhgcndaa", sum := "89e092b63bd6cf2aeb5e9ed61638312265648fd62d93ae5cbc3e5f7176de61bb", func := "riddle/riddlelaw.EpcPokes", spec := "epcPokes", unfollowed := true, recurses := true, apart := false }
def EpcPokesSaid : Prop := epcPokesRow.holds Try.pinned (OpenSpec.ofChange epcPokesSpec)

/-- ITS FALSE NEIGHBOUR: 'it returns false'. Refute it at one input. -/
def epcPokesWrong : ChangeSpec := { name := "epcPokes", fn := fun _ => fun
  | [d1, d2, d3, d4] => { results := [.lit (.bool false)], args := [d1, d2, d3, d4] }
  | _ => none }
def EpcPokesWrongFalsely : Prop := epcPokesRow.holds Try.pinned (OpenSpec.ofChange epcPokesWrong)

/-- 'riddlelaw.TrustChecks': WHATEVER THE INPUT: true; the input reads as it did. -/
def trustChecksSpec : ChangeSpec := { name := "trustChecks", fn := fun _ => fun
  | [d] => { results := [.lit (.bool true)], args := [d] }
  | _ => none }
def trustChecksRow : OpenClaim := { program := "ytdbbiibnhgcndaa", sum := "89e092b63bd6cf2aeb5e9ed61638312265648fd62d93ae5cbc3e5f7176de61bb", func := "riddle/riddlelaw.TrustChecks", spec := "trustChecks", unfollowed := true, recurses := true, apart := false }
def TrustChecksSaid : Prop := trustChecksRow.holds Try.pinned (OpenSpec.ofChange trustChecksSpec)

/-- ITS FALSE NEIGHBOUR: 'it returns false'. Refute it at one input. -/
def trustChecksWrong : ChangeSpec := { name := "trustChecks", fn := fun _ => fun
  | [d] => { results := [.lit (.bool false)], args := [d] }
  | _ => none }
def TrustChecksWrongFalsely : Prop := trustChecksRow.holds Try.pinned (OpenSpec.ofChange trustChecksWrong)

/-- 'riddlelaw.TrustCopies': WHATEVER THE INPUT: true; the input reads as it did. -/
def trustCopiesSpec : ChangeSpec := { name := "trustCopies", fn := fun _ => fun
  | [d] => { results := [.lit (.bool true)], args := [d] }
  | _ => none }
def trustCopiesRow : OpenClaim := { program := "ytdbbiibnhgcndaa", sum := "89e092b63bd6cf2aeb5e9ed61638312265648fd62d93ae5cbc3e5f7176de61bb", func := "riddle/riddlelaw.TrustCopies", spec := "trustCopies", apart := false }
def TrustCopiesSaid : Prop := trustCopiesRow.holds Try.pinned (OpenSpec.ofChange trustCopiesSpec)

/-- ITS FALSE NEIGHBOUR: 'it returns false'. Refute it at one input. -/
def trustCopiesWrong : ChangeSpec := { name := "trustCopies", fn := fun _ => fun
  | [d] => { results := [.lit (.bool false)], args := [d] }
  | _ => none }
def TrustCopiesWrongFalsely : Prop := trustCopiesRow.holds Try.pinned (OpenSpec.ofChange trustCopiesWrong)

/-- 'riddlelaw.TrustAsks': WHATEVER THE INPUT: true; the input reads as it did. -/
def trustAsksSpec : ChangeSpec := { name := "trustAsks", fn := fun _ => fun
  | [d] => { results := [.lit (.bool true)], args := [d] }
  | _ => none }
def trustAsksRow : OpenClaim := { program := "ytdbbiibnhgcndaa", sum := "89e092b63bd6cf2aeb5e9ed61638312265648fd62d93ae5cbc3e5f7176de61bb", func := "riddle/riddlelaw.TrustAsks", spec := "trustAsks", unfollowed := true, recurses := true, apart := false }
def TrustAsksSaid : Prop := trustAsksRow.holds Try.pinned (OpenSpec.ofChange trustAsksSpec)

/-- ITS FALSE NEIGHBOUR: 'it returns false'. Refute it at one input. -/
def trustAsksWrong : ChangeSpec := { name := "trustAsks", fn := fun _ => fun
  | [d] => { results := [.lit (.bool false)], args := [d] }
  | _ => none }
def TrustAsksWrongFalsely : Prop := trustAsksRow.holds Try.pinned (OpenSpec.ofChange trustAsksWrong)

/-- 'riddlelaw.TrustLooks': WHATEVER THE INPUT: true; the input reads as it did. -/
def trustLooksSpec : ChangeSpec := { name := "trustLooks", fn := fun _ => fun
  | [d1, d2, d3] => { results := [.lit (.bool true)], args := [d1, d2, d3] }
  | _ => none }
def trustLooksRow : OpenClaim := { program := "ytdbbiibnhgcndaa", sum := "89e092b63bd6cf2aeb5e9ed61638312265648fd62d93ae5cbc3e5f7176de61bb", func := "riddle/riddlelaw.TrustLooks", spec := "trustLooks", unfollowed := true, recurses := true, apart := false }
def TrustLooksSaid : Prop := trustLooksRow.holds Try.pinned (OpenSpec.ofChange trustLooksSpec)

/-- ITS FALSE NEIGHBOUR: 'it returns false'. Refute it at one input. -/
def trustLooksWrong : ChangeSpec := { name := "trustLooks", fn := fun _ => fun
  | [d1, d2, d3] => { results := [.lit (.bool false)], args := [d1, d2, d3] }
  | _ => none }
def TrustLooksWrongFalsely : Prop := trustLooksRow.holds Try.pinned (OpenSpec.ofChange trustLooksWrong)

/-- 'riddlekeep.NoncesOnce': WHATEVER THE INPUT: true; the input reads as it did. -/
def noncesOnceSpec : ChangeSpec := { name := "noncesOnce", fn := fun _ => fun
  | [d1, d2] => { results := [.lit (.bool true)], args := [d1, d2] }
  | _ => none }
def noncesOnceRow : OpenClaim := { program := "ytdbbiibnhgcndaa", sum := "89e092b63bd6cf2aeb5e9ed61638312265648fd62d93ae5cbc3e5f7176de61bb", func := "riddle/riddlekeep.NoncesOnce", spec := "noncesOnce", unfollowed := true, recurses := true, apart := false }
def NoncesOnceSaid : Prop := noncesOnceRow.holds Try.pinned (OpenSpec.ofChange noncesOnceSpec)

/-- ITS FALSE NEIGHBOUR: 'it returns false'. Refute it at one input. -/
def noncesOnceWrong : ChangeSpec := { name := "noncesOnce", fn := fun _ => fun
  | [d1, d2] => { results := [.lit (.bool false)], args := [d1, d2] }
  | _ => none }
def NoncesOnceWrongFalsely : Prop := noncesOnceRow.holds Try.pinned (OpenSpec.ofChange noncesOnceWrong)

/- THE SECOND FORM. 'bulk': how many values and letters a reading holds, each counted each time it is reached (what is shared counts as often as it is met; a slice's spare places count too). A statement '..UptoSaid' is the law's where the arguments, and the package variables that the reading takes, are together of bulk at most 1048576: NARROWER than '..Said'. Prove '..Said' where nothing that the law and all that it calls make is longer than what came in: it says more and counts as full. Else prove '..UptoSaid'. A law counts once. -/
mutual
def uptoBulk {H : Type} : DataW H → Nat
  | .lit (.string bytes) => bytes.length + 1
  | .lit _ => 1
  | .nil => 1
  | .ptr d => uptoBulk d + 1
  | .slice elems spare => uptoBulkAll elems + uptoBulkAll spare + 1
  | .agg parts => uptoBulkAll parts + 1
  | .iface _ d => uptoBulk d + 1
  | .map entries => uptoBulkEntries entries + 1
  | .held _ => 1
def uptoBulkAll {H : Type} : List (DataW H) → Nat
  | [] => 0
  | d :: r => uptoBulk d + uptoBulkAll r
def uptoBulkEntries {H : Type} : List (Lit × DataW H) → Nat
  | [] => 0
  | x :: r => uptoBulkEntry x + uptoBulkEntries r
def uptoBulkEntry {H : Type} : Lit × DataW H → Nat
  | (.string bytes, d) => bytes.length + uptoBulk d + 1
  | (_, d) => uptoBulk d + 1
 end
def uptoSmall : (H : Type) → List (DataW H) → Bool := fun _ ds => decide (uptoBulkAll ds ≤ 1048576)
def OpenSpec.upto (s : _root_.Go.ChangeSpec) : _root_.Go.OpenSpec := { _root_.Go.OpenSpec.ofChange s with cond := some uptoSmall }

/-- 'riddlelaw.ImageWords', WHERE WHAT IT READS IS OF BULK AT MOST 1048576: true; the input reads as it did. -/
def imageWordsUptoRow : OpenClaim := { program := "ytdbbiibnhgcndaa", sum := "89e092b63bd6cf2aeb5e9ed61638312265648fd62d93ae5cbc3e5f7176de61bb", func := "riddle/riddlelaw.ImageWords", spec := "imageWords", unfollowed := true, recurses := true, apart := false, narrowed := true }
def ImageWordsUptoSaid : Prop := imageWordsUptoRow.holds Try.pinned (OpenSpec.upto imageWordsSpec)

/-- 'riddlelaw.ImagePages', WHERE WHAT IT READS IS OF BULK AT MOST 1048576: true; the input reads as it did. -/
def imagePagesUptoRow : OpenClaim := { program := "ytdbbiibnhgcndaa", sum := "89e092b63bd6cf2aeb5e9ed61638312265648fd62d93ae5cbc3e5f7176de61bb", func := "riddle/riddlelaw.ImagePages", spec := "imagePages", unfollowed := true, recurses := true, apart := false, narrowed := true }
def ImagePagesUptoSaid : Prop := imagePagesUptoRow.holds Try.pinned (OpenSpec.upto imagePagesSpec)

/-- 'riddlelaw.ImageChecks', WHERE WHAT IT READS IS OF BULK AT MOST 1048576: true; the input reads as it did. -/
def imageChecksUptoRow : OpenClaim := { program := "ytdbbiibnhgcndaa", sum := "89e092b63bd6cf2aeb5e9ed61638312265648fd62d93ae5cbc3e5f7176de61bb", func := "riddle/riddlelaw.ImageChecks", spec := "imageChecks", unfollowed := true, recurses := true, apart := false, narrowed := true }
def ImageChecksUptoSaid : Prop := imageChecksUptoRow.holds Try.pinned (OpenSpec.upto imageChecksSpec)

/-- 'riddlelaw.ImageCopies', WHERE WHAT IT READS IS OF BULK AT MOST 1048576: true; the input reads as it did. -/
def imageCopiesUptoRow : OpenClaim := { program := "ytdbbiibnhgcndaa", sum := "89e092b63bd6cf2aeb5e9ed61638312265648fd62d93ae5cbc3e5f7176de61bb", func := "riddle/riddlelaw.ImageCopies", spec := "imageCopies", apart := false, narrowed := true }
def ImageCopiesUptoSaid : Prop := imageCopiesUptoRow.holds Try.pinned (OpenSpec.upto imageCopiesSpec)

/-- 'riddlelaw.ImagePlans', WHERE WHAT IT READS IS OF BULK AT MOST 1048576: true; the input reads as it did. -/
def imagePlansUptoRow : OpenClaim := { program := "ytdbbiibnhgcndaa", sum := "89e092b63bd6cf2aeb5e9ed61638312265648fd62d93ae5cbc3e5f7176de61bb", func := "riddle/riddlelaw.ImagePlans", spec := "imagePlans", unfollowed := true, recurses := true, apart := false, narrowed := true }
def ImagePlansUptoSaid : Prop := imagePlansUptoRow.holds Try.pinned (OpenSpec.upto imagePlansSpec)

/-- 'riddlelaw.EpcNew', WHERE WHAT IT READS IS OF BULK AT MOST 1048576: true; the input reads as it did. -/
def epcNewUptoRow : OpenClaim := { program := "ytdbbiibnhgcndaa", sum := "89e092b63bd6cf2aeb5e9ed61638312265648fd62d93ae5cbc3e5f7176de61bb", func := "riddle/riddlelaw.EpcNew", spec := "epcNew", apart := false, narrowed := true }
def EpcNewUptoSaid : Prop := epcNewUptoRow.holds Try.pinned (OpenSpec.upto epcNewSpec)

/-- 'riddlelaw.EpcChecks', WHERE WHAT IT READS IS OF BULK AT MOST 1048576: true; the input reads as it did. -/
def epcChecksUptoRow : OpenClaim := { program := "ytdbbiibnhgcndaa", sum := "89e092b63bd6cf2aeb5e9ed61638312265648fd62d93ae5cbc3e5f7176de61bb", func := "riddle/riddlelaw.EpcChecks", spec := "epcChecks", unfollowed := true, recurses := true, apart := false, narrowed := true }
def EpcChecksUptoSaid : Prop := epcChecksUptoRow.holds Try.pinned (OpenSpec.upto epcChecksSpec)

/-- 'riddlelaw.EpcCopies', WHERE WHAT IT READS IS OF BULK AT MOST 1048576: true; the input reads as it did. -/
def epcCopiesUptoRow : OpenClaim := { program := "ytdbbiibnhgcndaa", sum := "89e092b63bd6cf2aeb5e9ed61638312265648fd62d93ae5cbc3e5f7176de61bb", func := "riddle/riddlelaw.EpcCopies", spec := "epcCopies", apart := false, narrowed := true }
def EpcCopiesUptoSaid : Prop := epcCopiesUptoRow.holds Try.pinned (OpenSpec.upto epcCopiesSpec)

/-- 'riddlelaw.EpcPlaces', WHERE WHAT IT READS IS OF BULK AT MOST 1048576: true; the input reads as it did. -/
def epcPlacesUptoRow : OpenClaim := { program := "ytdbbiibnhgcndaa", sum := "89e092b63bd6cf2aeb5e9ed61638312265648fd62d93ae5cbc3e5f7176de61bb", func := "riddle/riddlelaw.EpcPlaces", spec := "epcPlaces", unfollowed := true, recurses := true, apart := false, narrowed := true }
def EpcPlacesUptoSaid : Prop := epcPlacesUptoRow.holds Try.pinned (OpenSpec.upto epcPlacesSpec)

/-- 'riddlelaw.EpcStarts', WHERE WHAT IT READS IS OF BULK AT MOST 1048576: true; the input reads as it did. -/
def epcStartsUptoRow : OpenClaim := { program := "ytdbbiibnhgcndaa", sum := "89e092b63bd6cf2aeb5e9ed61638312265648fd62d93ae5cbc3e5f7176de61bb", func := "riddle/riddlelaw.EpcStarts", spec := "epcStarts", unfollowed := true, recurses := true, apart := false, narrowed := true }
def EpcStartsUptoSaid : Prop := epcStartsUptoRow.holds Try.pinned (OpenSpec.upto epcStartsSpec)

/-- 'riddlelaw.EpcRemoves', WHERE WHAT IT READS IS OF BULK AT MOST 1048576: true; the input reads as it did. -/
def epcRemovesUptoRow : OpenClaim := { program := "ytdbbiibnhgcndaa", sum := "89e092b63bd6cf2aeb5e9ed61638312265648fd62d93ae5cbc3e5f7176de61bb", func := "riddle/riddlelaw.EpcRemoves", spec := "epcRemoves", unfollowed := true, recurses := true, apart := false, narrowed := true }
def EpcRemovesUptoSaid : Prop := epcRemovesUptoRow.holds Try.pinned (OpenSpec.upto epcRemovesSpec)

/-- 'riddlelaw.EpcPeeks', WHERE WHAT IT READS IS OF BULK AT MOST 1048576: true; the input reads as it did. -/
def epcPeeksUptoRow : OpenClaim := { program := "ytdbbiibnhgcndaa", sum := "89e092b63bd6cf2aeb5e9ed61638312265648fd62d93ae5cbc3e5f7176de61bb", func := "riddle/riddlelaw.EpcPeeks", spec := "epcPeeks", unfollowed := true, recurses := true, apart := false, narrowed := true }
def EpcPeeksUptoSaid : Prop := epcPeeksUptoRow.holds Try.pinned (OpenSpec.upto epcPeeksSpec)

/-- 'riddlelaw.EpcPokes', WHERE WHAT IT READS IS OF BULK AT MOST 1048576: true; the input reads as it did. -/
def epcPokesUptoRow : OpenClaim := { program := "ytdbbiibnhgcndaa", sum := "89e092b63bd6cf2aeb5e9ed61638312265648fd62d93ae5cbc3e5f7176de61bb", func := "riddle/riddlelaw.EpcPokes", spec := "epcPokes", unfollowed := true, recurses := true, apart := false, narrowed := true }
def EpcPokesUptoSaid : Prop := epcPokesUptoRow.holds Try.pinned (OpenSpec.upto epcPokesSpec)

/-- 'riddlelaw.TrustChecks', WHERE WHAT IT READS IS OF BULK AT MOST 1048576: true; the input reads as it did. -/
def trustChecksUptoRow : OpenClaim := { program := "ytdbbiibnhgcndaa", sum := "89e092b63bd6cf2aeb5e9ed61638312265648fd62d93ae5cbc3e5f7176de61bb", func := "riddle/riddlelaw.TrustChecks", spec := "trustChecks", unfollowed := true, recurses := true, apart := false, narrowed := true }
def TrustChecksUptoSaid : Prop := trustChecksUptoRow.holds Try.pinned (OpenSpec.upto trustChecksSpec)

/-- 'riddlelaw.TrustCopies', WHERE WHAT IT READS IS OF BULK AT MOST 1048576: true; the input reads as it did. -/
def trustCopiesUptoRow : OpenClaim := { program := "ytdbbiibnhgcndaa", sum := "89e092b63bd6cf2aeb5e9ed61638312265648fd62d93ae5cbc3e5f7176de61bb", func := "riddle/riddlelaw.TrustCopies", spec := "trustCopies", apart := false, narrowed := true }
def TrustCopiesUptoSaid : Prop := trustCopiesUptoRow.holds Try.pinned (OpenSpec.upto trustCopiesSpec)

/-- 'riddlelaw.TrustAsks', WHERE WHAT IT READS IS OF BULK AT MOST 1048576: true; the input reads as it did. -/
def trustAsksUptoRow : OpenClaim := { program := "ytdbbiibnhgcndaa", sum := "89e092b63bd6cf2aeb5e9ed61638312265648fd62d93ae5cbc3e5f7176de61bb", func := "riddle/riddlelaw.TrustAsks", spec := "trustAsks", unfollowed := true, recurses := true, apart := false, narrowed := true }
def TrustAsksUptoSaid : Prop := trustAsksUptoRow.holds Try.pinned (OpenSpec.upto trustAsksSpec)

/-- 'riddlelaw.TrustLooks', WHERE WHAT IT READS IS OF BULK AT MOST 1048576: true; the input reads as it did. -/
def trustLooksUptoRow : OpenClaim := { program := "ytdbbiibnhgcndaa", sum := "89e092b63bd6cf2aeb5e9ed61638312265648fd62d93ae5cbc3e5f7176de61bb", func := "riddle/riddlelaw.TrustLooks", spec := "trustLooks", unfollowed := true, recurses := true, apart := false, narrowed := true }
def TrustLooksUptoSaid : Prop := trustLooksUptoRow.holds Try.pinned (OpenSpec.upto trustLooksSpec)

/-- 'riddlekeep.NoncesOnce', WHERE WHAT IT READS IS OF BULK AT MOST 1048576: true; the input reads as it did. -/
def noncesOnceUptoRow : OpenClaim := { program := "ytdbbiibnhgcndaa", sum := "89e092b63bd6cf2aeb5e9ed61638312265648fd62d93ae5cbc3e5f7176de61bb", func := "riddle/riddlekeep.NoncesOnce", spec := "noncesOnce", unfollowed := true, recurses := true, apart := false, narrowed := true }
def NoncesOnceUptoSaid : Prop := noncesOnceUptoRow.holds Try.pinned (OpenSpec.upto noncesOnceSpec)

end Rows
end Go.Proofs.Ytdbbiibnhgcndaa
