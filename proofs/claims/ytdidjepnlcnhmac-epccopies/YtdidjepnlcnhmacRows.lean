/-
  No cell of these rows narrows 'for every input' (looked for: loops, veiled, ifaces, maps, wideKeys, modest, calm, conditions, laid).
  DERIVED. THE GIVEN ROWS OF THIS SEAT. 3 by the template 'for every input the law returns true; each argument reads behind the call as it read before'; 0 by the template 'total and deterministic' (their statements: YtdidjepnlcnhmacTotals.lean).
  GIVEN WITH THE SEED: the statements are not yours to turn. If you find one false, say at which input.
  Laid BY PROGRAM, IN A SANDBOX (cutbox-rows.mjs): the forced cells as the released guide's own fill.sh prints them over the translation def0b0727753ee2b… (all of the seat's roots in one cut). By AI agents, Wed Nov 11 2026. No macro, syntax, notation, axiom, sorry.
-/
import Derived.Test.YtdidjepnlcnhmacChecked
import GoSem.Claim
import GoSem.ClaimJoined
import GoSem.ClaimMapViews
import Derived.JoinedTies
import Derived.KernelRfl
namespace Go.Proofs.Ytdidjepnlcnhmac
/- THE CELL 'sum', in the pinned program and in every row, IS THE sha256 OF THE DUMP (.gsa) THAT YtdidjepnlcnhmacProg.lean LOADS. Nothing in Lean hashes anything: it is a label: what it is worth is what the hold of that sum in a sandbox is worth. -/
noncomputable def Try.pinned : Pinned := { name := "ytdidjepnlcnhmac", sum := "def0b0727753ee2b1aaeaa2abb6cfd01da7561664e03bd949994bb2450ed084c", checked := Try.checked }
namespace Rows
def none {H : Type} : Left H := { results := [], args := [] }

/-- 'riddlelaw.EpcChecks': WHATEVER THE INPUT: true; the input reads as it did. -/
def epcChecksSpec : ChangeSpec := { name := "epcChecks", fn := fun _ => fun
  | [d] => { results := [.lit (.bool true)], args := [d] }
  | _ => none }
def epcChecksRow : OpenClaim := { program := "ytdidjepnlcnhmac", sum := "def0b0727753ee2b1aaeaa2abb6cfd01da7561664e03bd949994bb2450ed084c", func := "riddle/riddlelaw.EpcChecks", spec := "epcChecks", unfollowed := true, recurses := true, apart := false }
def EpcChecksSaid : Prop := epcChecksRow.holds Try.pinned (OpenSpec.ofChange epcChecksSpec)

/-- ITS FALSE NEIGHBOUR: 'it returns false'. Refute it at one input. -/
def epcChecksWrong : ChangeSpec := { name := "epcChecks", fn := fun _ => fun
  | [d] => { results := [.lit (.bool false)], args := [d] }
  | _ => none }
def EpcChecksWrongFalsely : Prop := epcChecksRow.holds Try.pinned (OpenSpec.ofChange epcChecksWrong)

/-- 'riddlelaw.EpcCopies': WHATEVER THE INPUT: true; the input reads as it did. -/
def epcCopiesSpec : ChangeSpec := { name := "epcCopies", fn := fun _ => fun
  | [d] => { results := [.lit (.bool true)], args := [d] }
  | _ => none }
def epcCopiesRow : OpenClaim := { program := "ytdidjepnlcnhmac", sum := "def0b0727753ee2b1aaeaa2abb6cfd01da7561664e03bd949994bb2450ed084c", func := "riddle/riddlelaw.EpcCopies", spec := "epcCopies", apart := false }
def EpcCopiesSaid : Prop := epcCopiesRow.holds Try.pinned (OpenSpec.ofChange epcCopiesSpec)

/-- ITS FALSE NEIGHBOUR: 'it returns false'. Refute it at one input. -/
def epcCopiesWrong : ChangeSpec := { name := "epcCopies", fn := fun _ => fun
  | [d] => { results := [.lit (.bool false)], args := [d] }
  | _ => none }
def EpcCopiesWrongFalsely : Prop := epcCopiesRow.holds Try.pinned (OpenSpec.ofChange epcCopiesWrong)

/-- 'riddlelaw.EpcPlaces': WHATEVER THE INPUT: true; the input reads as it did. -/
def epcPlacesSpec : ChangeSpec := { name := "epcPlaces", fn := fun _ => fun
  | [d1, d2, d3] => { results := [.lit (.bool true)], args := [d1, d2, d3] }
  | _ => none }
def epcPlacesRow : OpenClaim := { program := "ytdidjepnlcnhmac", sum := "def0b0727753ee2b1aaeaa2abb6cfd01da7561664e03bd949994bb2450ed084c", func := "riddle/riddlelaw.EpcPlaces", spec := "epcPlaces", unfollowed := true, recurses := true, apart := false }
def EpcPlacesSaid : Prop := epcPlacesRow.holds Try.pinned (OpenSpec.ofChange epcPlacesSpec)

/-- ITS FALSE NEIGHBOUR: 'it returns false'. Refute it at one input. -/
def epcPlacesWrong : ChangeSpec := { name := "epcPlaces", fn := fun _ => fun
  | [d1, d2, d3] => { results := [.lit (.bool false)], args := [d1, d2, d3] }
  | _ => none }
def EpcPlacesWrongFalsely : Prop := epcPlacesRow.holds Try.pinned (OpenSpec.ofChange epcPlacesWrong)

/- THE SECOND FORM. 'bulk': how many values and letters a reading holds, each counted each time it is reached (what is shared counts as often as it is met; a slice's spare places count too). A statement '..UptoSaid' is the law's where the arguments, and the package variables that the reading takes, are together of bulk at most 1048576: NARROWER than '..Said'. Prove '..Said' where nothing that the law and all that it calls make is longer than what came in: it says more and counts as full. Else prove '..UptoSaid'. A law counts once. -/
mutual
def uptoBulk {H : Type} : DataW H → Nat
  | .lit (.string bytes) => bytes.length + 1
  | .lit _ => 1
  | .nil => 1
  | .ptr d => uptoBulk d + 1
  | .slice elems spare => uptoBulkAll elems + uptoBulkAll spare + 1
  | .agg parts => uptoBulkAll parts + 1
  | .iface _ d => uptoBulk d + 1
  | .map entries => uptoBulkEntries entries + 1
  | .held _ => 1
def uptoBulkAll {H : Type} : List (DataW H) → Nat
  | [] => 0
  | d :: r => uptoBulk d + uptoBulkAll r
def uptoBulkEntries {H : Type} : List (Lit × DataW H) → Nat
  | [] => 0
  | x :: r => uptoBulkEntry x + uptoBulkEntries r
def uptoBulkEntry {H : Type} : Lit × DataW H → Nat
  | (.string bytes, d) => bytes.length + uptoBulk d + 1
  | (_, d) => uptoBulk d + 1
 end
def uptoSmall : (H : Type) → List (DataW H) → Bool := fun _ ds => decide (uptoBulkAll ds ≤ 1048576)
def OpenSpec.upto (s : _root_.Go.ChangeSpec) : _root_.Go.OpenSpec := { _root_.Go.OpenSpec.ofChange s with cond := some uptoSmall }

/-- 'riddlelaw.EpcChecks', WHERE WHAT IT READS IS OF BULK AT MOST 1048576: true; the input reads as it did. -/
def epcChecksUptoRow : OpenClaim := { program := "ytdidjepnlcnhmac", sum := "def0b0727753ee2b1aaeaa2abb6cfd01da7561664e03bd949994bb2450ed084c", func := "riddle/riddlelaw.EpcChecks", spec := "epcChecks", unfollowed := true, recurses := true, apart := false, narrowed := true }
def EpcChecksUptoSaid : Prop := epcChecksUptoRow.holds Try.pinned (OpenSpec.upto epcChecksSpec)

/-- 'riddlelaw.EpcCopies', WHERE WHAT IT READS IS OF BULK AT MOST 1048576: true; the input reads as it did. -/
def epcCopiesUptoRow : OpenClaim := { program := "ytdidjepnlcnhmac", sum := "def0b0727753ee2b1aaeaa2abb6cfd01da7561664e03bd949994bb2450ed084c", func := "riddle/riddlelaw.EpcCopies", spec := "epcCopies", apart := false, narrowed := true }
def EpcCopiesUptoSaid : Prop := epcCopiesUptoRow.holds Try.pinned (OpenSpec.upto epcCopiesSpec)

/-- 'riddlelaw.EpcPlaces', WHERE WHAT IT READS IS OF BULK AT MOST 1048576: true; the input reads as it did. -/
def epcPlacesUptoRow : OpenClaim := { program := "ytdidjepnlcnhmac", sum := "def0b0727753ee2b1aaeaa2abb6cfd01da7561664e03bd949994bb2450ed084c", func := "riddle/riddlelaw.EpcPlaces", spec := "epcPlaces", unfollowed := true, recurses := true, apart := false, narrowed := true }
def EpcPlacesUptoSaid : Prop := epcPlacesUptoRow.holds Try.pinned (OpenSpec.upto epcPlacesSpec)

end Rows
end Go.Proofs.Ytdidjepnlcnhmac
