/-
  No cell of these rows narrows 'for every input' (looked for: loops, veiled, ifaces, maps, wideKeys, modest, calm, conditions, laid).
  DERIVED. THE GIVEN ROWS OF THIS SEAT. 4 by the template 'for every input the law returns true; each argument reads behind the call as it read before'; 0 by the template 'total and deterministic' (their statements: YtdidjepnlcnhmadTotals.lean).
  GIVEN WITH THE SEED: the statements are not yours to turn. If you find one false, say at which input.
  Laid BY PROGRAM, IN A SANDBOX (cutbox-rows.mjs): the forced cells as the released guide's own fill.sh prints them over the translation edb4febed118120c… (all of the seat's roots in one cut). By AI agents, Wed Nov 11 2026. No macro, syntax, notation, axiom, sorry.
-/
import Derived.Test.YtdidjepnlcnhmadChecked
import GoSem.Claim
import GoSem.ClaimJoined
import GoSem.ClaimMapViews
import Derived.JoinedTies
import Derived.KernelRfl
namespace Go.Proofs.Ytdidjepnlcnhmad
/- THE CELL 'sum', in the pinned program and in every row, IS THE sha256 OF THE DUMP (.gsa) THAT YtdidjepnlcnhmadProg.lean LOADS. Nothing in Lean hashes anything: it is a label: what it is worth is what the hold of that sum in a sandbox is worth. -/
noncomputable def Try.pinned : Pinned := { name := "ytdidjepnlcnhmad", sum := "edb4febed118120c9ad3795c3b4275120c0c8e3e5e10d84d3611ca4e1415695b", checked := Try.checked }
namespace Rows
def none {H : Type} : Left H := { results := [], args := [] }

/-- 'riddlelaw.EpcStarts': WHATEVER THE INPUT: true; the input reads as it did. -/
def epcStartsSpec : ChangeSpec := { name := "epcStarts", fn := fun _ => fun
  | [d1, d2] => { results := [.lit (.bool true)], args := [d1, d2] }
  | _ => none }
def epcStartsRow : OpenClaim := { program := "ytdidjepnlcnhmad", sum := "edb4febed118120c9ad3795c3b4275120c0c8e3e5e10d84d3611ca4e1415695b", func := "riddle/riddlelaw.EpcStarts", spec := "epcStarts", unfollowed := true, recurses := true, apart := false }
def EpcStartsSaid : Prop := epcStartsRow.holds Try.pinned (OpenSpec.ofChange epcStartsSpec)

/-- ITS FALSE NEIGHBOUR: 'it returns false'. Refute it at one input. -/
def epcStartsWrong : ChangeSpec := { name := "epcStarts", fn := fun _ => fun
  | [d1, d2] => { results := [.lit (.bool false)], args := [d1, d2] }
  | _ => none }
def EpcStartsWrongFalsely : Prop := epcStartsRow.holds Try.pinned (OpenSpec.ofChange epcStartsWrong)

/-- 'riddlelaw.EpcRemoves': WHATEVER THE INPUT: true; the input reads as it did. -/
def epcRemovesSpec : ChangeSpec := { name := "epcRemoves", fn := fun _ => fun
  | [d1, d2] => { results := [.lit (.bool true)], args := [d1, d2] }
  | _ => none }
def epcRemovesRow : OpenClaim := { program := "ytdidjepnlcnhmad", sum := "edb4febed118120c9ad3795c3b4275120c0c8e3e5e10d84d3611ca4e1415695b", func := "riddle/riddlelaw.EpcRemoves", spec := "epcRemoves", unfollowed := true, recurses := true, apart := false }
def EpcRemovesSaid : Prop := epcRemovesRow.holds Try.pinned (OpenSpec.ofChange epcRemovesSpec)

/-- ITS FALSE NEIGHBOUR: 'it returns false'. Refute it at one input. -/
def epcRemovesWrong : ChangeSpec := { name := "epcRemoves", fn := fun _ => fun
  | [d1, d2] => { results := [.lit (.bool false)], args := [d1, d2] }
  | _ => none }
def EpcRemovesWrongFalsely : Prop := epcRemovesRow.holds Try.pinned (OpenSpec.ofChange epcRemovesWrong)

/-- 'riddlelaw.EpcPeeks': WHATEVER THE INPUT: true; the input reads as it did. -/
def epcPeeksSpec : ChangeSpec := { name := "epcPeeks", fn := fun _ => fun
  | [d1, d2, d3] => { results := [.lit (.bool true)], args := [d1, d2, d3] }
  | _ => none }
def epcPeeksRow : OpenClaim := { program := "ytdidjepnlcnhmad", sum := "edb4febed118120c9ad3795c3b4275120c0c8e3e5e10d84d3611ca4e1415695b", func := "riddle/riddlelaw.EpcPeeks", spec := "epcPeeks", unfollowed := true, recurses := true, apart := false }
def EpcPeeksSaid : Prop := epcPeeksRow.holds Try.pinned (OpenSpec.ofChange epcPeeksSpec)

/-- ITS FALSE NEIGHBOUR: 'it returns false'. Refute it at one input. -/
def epcPeeksWrong : ChangeSpec := { name := "epcPeeks", fn := fun _ => fun
  | [d1, d2, d3] => { results := [.lit (.bool false)], args := [d1, d2, d3] }
  | _ => none }
def EpcPeeksWrongFalsely : Prop := epcPeeksRow.holds Try.pinned (OpenSpec.ofChange epcPeeksWrong)

/-- 'riddlelaw.EpcPokes': WHATEVER THE INPUT: true; the input reads as it did. -/
def epcPokesSpec : ChangeSpec := { name := "epcPokes", fn := fun _ => fun
  | [d1, d2, d3, d4] => { results := [.lit (.bool true)], args := [d1, d2, d3, d4] }
  | _ => none }
def epcPokesRow : OpenClaim := { program := "ytdidjepnlcnhmad", sum := "edb4febed118120c9ad3795c3b4275120c0c8e3e5e10d84d3611ca4e1415695b", func := "riddle/riddlelaw.EpcPokes", spec := "epcPokes", unfollowed := true, recurses := true, apart := false }
def EpcPokesSaid : Prop := epcPokesRow.holds Try.pinned (OpenSpec.ofChange epcPokesSpec)

/-- ITS FALSE NEIGHBOUR: 'it returns false'. Refute it at one input. -/
def epcPokesWrong : ChangeSpec := { name := "epcPokes", fn := fun _ => fun
  | [d1, d2, d3, d4] => { results := [.lit (.bool false)], args := [d1, d2, d3, d4] }
  | _ => none }
def EpcPokesWrongFalsely : Prop := epcPokesRow.holds Try.pinned (OpenSpec.ofChange epcPokesWrong)

/- THE SECOND FORM. 'bulk': how many values and letters a reading holds, each counted each time it is reached (what is shared counts as often as it is met; a slice's spare places count too). A statement '..UptoSaid' is the law's where the arguments, and the package variables that the reading takes, are together of bulk at most 1048576: NARROWER than '..Said'. Prove '..Said' where nothing that the law and all that it calls make is longer than what came in: it says more and counts as full. Else prove '..UptoSaid'. A law counts once. -/
mutual
def uptoBulk {H : Type} : DataW H → Nat
  | .lit (.string bytes) => bytes.length + 1
  | .lit _ => 1
  | .nil => 1
  | .ptr d => uptoBulk d + 1
  | .slice elems spare => uptoBulkAll elems + uptoBulkAll spare + 1
  | .agg parts => uptoBulkAll parts + 1
  | .iface _ d => uptoBulk d + 1
  | .map entries => uptoBulkEntries entries + 1
  | .held _ => 1
def uptoBulkAll {H : Type} : List (DataW H) → Nat
  | [] => 0
  | d :: r => uptoBulk d + uptoBulkAll r
def uptoBulkEntries {H : Type} : List (Lit × DataW H) → Nat
  | [] => 0
  | x :: r => uptoBulkEntry x + uptoBulkEntries r
def uptoBulkEntry {H : Type} : Lit × DataW H → Nat
  | (.string bytes, d) => bytes.length + uptoBulk d + 1
  | (_, d) => uptoBulk d + 1
 end
def uptoSmall : (H : Type) → List (DataW H) → Bool := fun _ ds => decide (uptoBulkAll ds ≤ 1048576)
def OpenSpec.upto (s : _root_.Go.ChangeSpec) : _root_.Go.OpenSpec := { _root_.Go.OpenSpec.ofChange s with cond := some uptoSmall }

/-- 'riddlelaw.EpcStarts', WHERE WHAT IT READS IS OF BULK AT MOST 1048576: true; the input reads as it did. -/
def epcStartsUptoRow : OpenClaim := { program := "ytdidjepnlcnhmad", sum := "edb4febed118120c9ad3795c3b4275120c0c8e3e5e10d84d3611ca4e1415695b", func := "riddle/riddlelaw.EpcStarts", spec := "epcStarts", unfollowed := true, recurses := true, apart := false, narrowed := true }
def EpcStartsUptoSaid : Prop := epcStartsUptoRow.holds Try.pinned (OpenSpec.upto epcStartsSpec)

/-- 'riddlelaw.EpcRemoves', WHERE WHAT IT READS IS OF BULK AT MOST 1048576: true; the input reads as it did. -/
def epcRemovesUptoRow : OpenClaim := { program := "ytdidjepnlcnhmad", sum := "edb4febed118120c9ad3795c3b4275120c0c8e3e5e10d84d3611ca4e1415695b", func := "riddle/riddlelaw.EpcRemoves", spec := "epcRemoves", unfollowed := true, recurses := true, apart := false, narrowed := true }
def EpcRemovesUptoSaid : Prop := epcRemovesUptoRow.holds Try.pinned (OpenSpec.upto epcRemovesSpec)

/-- 'riddlelaw.EpcPeeks', WHERE WHAT IT READS IS OF BULK AT MOST 1048576: true; the input reads as it did. -/
def epcPeeksUptoRow : OpenClaim := { program := "ytdidjepnlcnhmad", sum := "edb4febed118120c9ad3795c3b4275120c0c8e3e5e10d84d3611ca4e1415695b", func := "riddle/riddlelaw.EpcPeeks", spec := "epcPeeks", unfollowed := true, recurses := true, apart := false, narrowed := true }
def EpcPeeksUptoSaid : Prop := epcPeeksUptoRow.holds Try.pinned (OpenSpec.upto epcPeeksSpec)

/-- 'riddlelaw.EpcPokes', WHERE WHAT IT READS IS OF BULK AT MOST 1048576: true; the input reads as it did. -/
def epcPokesUptoRow : OpenClaim := { program := "ytdidjepnlcnhmad", sum := "edb4febed118120c9ad3795c3b4275120c0c8e3e5e10d84d3611ca4e1415695b", func := "riddle/riddlelaw.EpcPokes", spec := "epcPokes", unfollowed := true, recurses := true, apart := false, narrowed := true }
def EpcPokesUptoSaid : Prop := epcPokesUptoRow.holds Try.pinned (OpenSpec.upto epcPokesSpec)

end Rows
end Go.Proofs.Ytdidjepnlcnhmad
