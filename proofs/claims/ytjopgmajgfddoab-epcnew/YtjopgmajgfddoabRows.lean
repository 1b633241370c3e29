/-
  No cell of these rows narrows 'for every input' (looked for: loops, veiled, ifaces, maps, wideKeys, modest, calm, conditions, laid).
  DERIVED. THE GIVEN ROWS OF THIS SEAT. 2 by the template 'for every input the law returns true; each argument reads behind the call as it read before'; 0 by the template 'total and deterministic' (their statements: YtjopgmajgfddoabTotals.lean).
  GIVEN WITH THE SEED: the statements are not yours to turn. If you find one false, say at which input.
  Laid BY PROGRAM, IN A SANDBOX (cutbox-rows.mjs): the forced cells as the released guide's own fill.sh prints them over the translation d3ba52b6ccbc10ef… (all of the seat's roots in one cut). By AI agents, Wed Nov 11 2026. No macro, syntax, notation, axiom, sorry.
-/
import Derived.Test.YtjopgmajgfddoabChecked
import GoSem.Claim
import GoSem.ClaimJoined
import GoSem.ClaimMapViews
import Derived.JoinedTies
import Derived.KernelRfl
namespace Go.Proofs.Ytjopgmajgfddoab
/- THE CELL 'sum', in the pinned program and in every row, IS THE sha256 OF THE DUMP (.gsa) THAT YtjopgmajgfddoabProg.lean LOADS. Nothing in Lean hashes anything: it is a label: what it is worth is what the hold of that sum in a sandbox is worth. -/
noncomputable def Try.pinned : Pinned := { name := "ytjopgmajgfddoab", sum := "d3ba52b6ccbc10efbcf51ef8b8178f0d171d53feb36e47ec4f4c01a1c79f149e", checked := Try.checked }
namespace Rows
def none {H : Type} : Left H := { results := [], args := [] }

/-- 'riddlelaw.ImagePlans': WHATEVER THE INPUT: true; the input reads as it did. -/
def imagePlansSpec : ChangeSpec := { name := "imagePlans", fn := fun _ => fun
  | [d1, d2, d3] => { results := [.lit (.bool true)], args := [d1, d2, d3] }
  | _ => none }
def imagePlansRow : OpenClaim := { program := "ytjopgmajgfddoab", sum := "d3ba52b6ccbc10efbcf51ef8b8178f0d171d53feb36e47ec4f4c01a1c79f149e", func := "riddle/riddlelaw.ImagePlans", spec := "imagePlans", unfollowed := true, recurses := true, apart := false }
def ImagePlansSaid : Prop := imagePlansRow.holds Try.pinned (OpenSpec.ofChange imagePlansSpec)

/-- ITS FALSE NEIGHBOUR: 'it returns false'. Refute it at one input. -/
def imagePlansWrong : ChangeSpec := { name := "imagePlans", fn := fun _ => fun
  | [d1, d2, d3] => { results := [.lit (.bool false)], args := [d1, d2, d3] }
  | _ => none }
def ImagePlansWrongFalsely : Prop := imagePlansRow.holds Try.pinned (OpenSpec.ofChange imagePlansWrong)

/-- 'riddlelaw.EpcNew': WHATEVER THE INPUT: true; the input reads as it did. -/
def epcNewSpec : ChangeSpec := { name := "epcNew", fn := fun _ => fun
  | [] => { results := [.lit (.bool true)], args := [] }
  | _ => none }
def epcNewRow : OpenClaim := { program := "ytjopgmajgfddoab", sum := "d3ba52b6ccbc10efbcf51ef8b8178f0d171d53feb36e47ec4f4c01a1c79f149e", func := "riddle/riddlelaw.EpcNew", spec := "epcNew", apart := false }
def EpcNewSaid : Prop := epcNewRow.holds Try.pinned (OpenSpec.ofChange epcNewSpec)

/-- ITS FALSE NEIGHBOUR: 'it returns false'. Refute it at one input. -/
def epcNewWrong : ChangeSpec := { name := "epcNew", fn := fun _ => fun
  | [] => { results := [.lit (.bool false)], args := [] }
  | _ => none }
def EpcNewWrongFalsely : Prop := epcNewRow.holds Try.pinned (OpenSpec.ofChange epcNewWrong)

/- THE SECOND FORM. 'bulk': how many values and letters a reading holds, each counted each time it is reached (what is shared counts as often as it is met; a slice's spare places count too). A statement '..UptoSaid' is the law's where the arguments, and the package variables that the reading takes, are together of bulk at most 1048576: NARROWER than '..Said'. Prove '..Said' where nothing that the law and all that it calls make is longer than what came in: it says more and counts as full. Else prove '..UptoSaid'. A law counts once. -/
mutual
def uptoBulk {H : Type} : DataW H → Nat
  | .lit (.string bytes) => bytes.length + 1
  | .lit _ => 1
  | .nil => 1
  | .ptr d => uptoBulk d + 1
  | .slice elems spare => uptoBulkAll elems + uptoBulkAll spare + 1
  | .agg parts => uptoBulkAll parts + 1
  | .iface _ d => uptoBulk d + 1
  | .map entries => uptoBulkEntries entries + 1
  | .held _ => 1
def uptoBulkAll {H : Type} : List (DataW H) → Nat
  | [] => 0
  | d :: r => uptoBulk d + uptoBulkAll r
def uptoBulkEntries {H : Type} : List (Lit × DataW H) → Nat
  | [] => 0
  | x :: r => uptoBulkEntry x + uptoBulkEntries r
def uptoBulkEntry {H : Type} : Lit × DataW H → Nat
  | (.string bytes, d) => bytes.length + uptoBulk d + 1
  | (_, d) => uptoBulk d + 1
 end
def uptoSmall : (H : Type) → List (DataW H) → Bool := fun _ ds => decide (uptoBulkAll ds ≤ 1048576)
def OpenSpec.upto (s : _root_.Go.ChangeSpec) : _root_.Go.OpenSpec := { _root_.Go.OpenSpec.ofChange s with cond := some uptoSmall }

/-- 'riddlelaw.ImagePlans', WHERE WHAT IT READS IS OF BULK AT MOST 1048576: true; the input reads as it did. -/
def imagePlansUptoRow : OpenClaim := { program := "ytjopgmajgfddoab", sum := "d3ba52b6ccbc10efbcf51ef8b8178f0d171d53feb36e47ec4f4c01a1c79f149e", func := "riddle/riddlelaw.ImagePlans", spec := "imagePlans", unfollowed := true, recurses := true, apart := false, narrowed := true }
def ImagePlansUptoSaid : Prop := imagePlansUptoRow.holds Try.pinned (OpenSpec.upto imagePlansSpec)

/-- 'riddlelaw.EpcNew', WHERE WHAT IT READS IS OF BULK AT MOST 1048576: true; the input reads as it did. -/
def epcNewUptoRow : OpenClaim := { program := "ytjopgmajgfddoab", sum := "d3ba52b6ccbc10efbcf51ef8b8178f0d171d53feb36e47ec4f4c01a1c79f149e", func := "riddle/riddlelaw.EpcNew", spec := "epcNew", apart := false, narrowed := true }
def EpcNewUptoSaid : Prop := epcNewUptoRow.holds Try.pinned (OpenSpec.upto epcNewSpec)

end Rows
end Go.Proofs.Ytjopgmajgfddoab
