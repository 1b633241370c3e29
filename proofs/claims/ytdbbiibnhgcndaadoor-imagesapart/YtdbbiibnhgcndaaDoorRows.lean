/-
  NARROWER THAN 'FOR EVERY INPUT', by the rows' own cells (each row's printed sentence says how): ImageOpens: laid · ImageAdds: laid · ImageHolds: laid · ImageExpects: laid · ImagesApart: laid · ImagesTouched: laid · EpcCreates: laid · EpcPuts: laid · EpcMeasures: laid.
  DERIVED. THE GIVEN ROWS OF THIS SEAT. 9 by the template 'for every input the law returns true; each argument reads behind the call as it read before'; 0 by the template 'total and deterministic' (their statements: YtdbbiibnhgcndaaDoorTotals.lean).
  GIVEN WITH THE SEED: the statements are not yours to turn. If you find one false, say at which input.
  Laid BY PROGRAM, IN A SANDBOX (cutbox-rows.mjs): the forced cells as the released guide's own fill.sh prints them over the translation d82bca0b12f4a4f6… (all of the seat's roots in one cut). By AI agents, Wed Nov 11 2026. No macro, syntax, notation, axiom, sorry.
-/
import Derived.Test.YtdbbiibnhgcndaaDoorChecked
import GoSem.Claim
import GoSem.ClaimJoined
import GoSem.ClaimMapViews
import Derived.JoinedTies
import Derived.KernelRfl
namespace Go.Proofs.YtdbbiibnhgcndaaDoor
/- THE CELL 'sum', in the pinned program and in every row, IS THE sha256 OF THE DUMP (.gsa) THAT YtdbbiibnhgcndaaDoorProg.lean LOADS. Nothing in Lean hashes anything: it is a label: what it is worth is what the hold of that sum in a sandbox is worth. -/
noncomputable def Tryd.pinned : Pinned := { name := "ytdbbiibnhgcndaadoor", sum := "d82bca0b12f4a4f60fe3af60aa1b1c0ea68cb62c4487303e37fb42359957438e", checked := Tryd.checked }
namespace Rows
def none {H : Type} : Left H := { results := [], args := [] }

/- WHAT THE LISTED PACKAGE-LEVEL VARIABLES READ AS WHEN THE CALL BEGINS. Each datum BY PROGRAM (the guide's laid-datum.mjs) off the statement by which the dump's own 'gosem.cut.vars' lays the variable. In a bare row this is a premise. The card (YtdbbiibnhgcndaaDoorCards.lean) ties it to the program's text. -/
def laid_math_bits_deBruijn32tab {H : Type} : DataW H := .agg [.lit (.int .u8 0), .lit (.int .u8 1), .lit (.int .u8 28), .lit (.int .u8 2), .lit (.int .u8 29), .lit (.int .u8 14), .lit (.int .u8 24), .lit (.int .u8 3), .lit (.int .u8 30), .lit (.int .u8 22), .lit (.int .u8 20), .lit (.int .u8 15), .lit (.int .u8 25), .lit (.int .u8 17), .lit (.int .u8 4), .lit (.int .u8 8), .lit (.int .u8 31), .lit (.int .u8 27), .lit (.int .u8 13), .lit (.int .u8 23), .lit (.int .u8 21), .lit (.int .u8 19), .lit (.int .u8 16), .lit (.int .u8 7), .lit (.int .u8 26), .lit (.int .u8 12), .lit (.int .u8 18), .lit (.int .u8 6), .lit (.int .u8 11), .lit (.int .u8 5), .lit (.int .u8 10), .lit (.int .u8 9)]
def laid_math_bits_deBruijn64tab {H : Type} : DataW H := .agg [.lit (.int .u8 0), .lit (.int .u8 1), .lit (.int .u8 56), .lit (.int .u8 2), .lit (.int .u8 57), .lit (.int .u8 49), .lit (.int .u8 28), .lit (.int .u8 3), .lit (.int .u8 61), .lit (.int .u8 58), .lit (.int .u8 42), .lit (.int .u8 50), .lit (.int .u8 38), .lit (.int .u8 29), .lit (.int .u8 17), .lit (.int .u8 4), .lit (.int .u8 62), .lit (.int .u8 47), .lit (.int .u8 59), .lit (.int .u8 36), .lit (.int .u8 45), .lit (.int .u8 43), .lit (.int .u8 51), .lit (.int .u8 22), .lit (.int .u8 53), .lit (.int .u8 39), .lit (.int .u8 33), .lit (.int .u8 30), .lit (.int .u8 24), .lit (.int .u8 18), .lit (.int .u8 12), .lit (.int .u8 5), .lit (.int .u8 63), .lit (.int .u8 55), .lit (.int .u8 48), .lit (.int .u8 27), .lit (.int .u8 60), .lit (.int .u8 41), .lit (.int .u8 37), .lit (.int .u8 16), .lit (.int .u8 46), .lit (.int .u8 35), .lit (.int .u8 44), .lit (.int .u8 21), .lit (.int .u8 52), .lit (.int .u8 32), .lit (.int .u8 23), .lit (.int .u8 11), .lit (.int .u8 54), .lit (.int .u8 26), .lit (.int .u8 40), .lit (.int .u8 15), .lit (.int .u8 34), .lit (.int .u8 20), .lit (.int .u8 31), .lit (.int .u8 10), .lit (.int .u8 25), .lit (.int .u8 14), .lit (.int .u8 19), .lit (.int .u8 9), .lit (.int .u8 13), .lit (.int .u8 8), .lit (.int .u8 7), .lit (.int .u8 6)]
def laid_internal_strconv_uint64pow10 {H : Type} : DataW H := .agg [.lit (.int .u64 1), .lit (.int .u64 10), .lit (.int .u64 100), .lit (.int .u64 1000), .lit (.int .u64 10000), .lit (.int .u64 100000), .lit (.int .u64 1000000), .lit (.int .u64 10000000), .lit (.int .u64 100000000), .lit (.int .u64 1000000000), .lit (.int .u64 10000000000), .lit (.int .u64 100000000000), .lit (.int .u64 1000000000000), .lit (.int .u64 10000000000000), .lit (.int .u64 100000000000000), .lit (.int .u64 1000000000000000), .lit (.int .u64 10000000000000000), .lit (.int .u64 100000000000000000), .lit (.int .u64 1000000000000000000), .lit (.int .u64 10000000000000000000)]

/-- 'riddlelaw.ImageOpens': WHATEVER THE INPUT: true; the input reads as it did. -/
def imageOpensSpec : ChangeSpec := { name := "imageOpens", fn := fun _ => fun
  | [] => { results := [.lit (.bool true)], args := [] }
  | _ => none }
def imageOpensRow : OpenClaim := { program := "ytdbbiibnhgcndaadoor", sum := "d82bca0b12f4a4f60fe3af60aa1b1c0ea68cb62c4487303e37fb42359957438e", func := "riddle/riddlelaw.ImageOpens", spec := "imageOpens", inPlace := ["internal/abi.NoEscape"], named := ["internal/strconv.uint64pow10", "math/bits.deBruijn32tab", "math/bits.deBruijn64tab"], apart := false, laid := [("math/bits.deBruijn32tab", laid_math_bits_deBruijn32tab), ("math/bits.deBruijn64tab", laid_math_bits_deBruijn64tab), ("internal/strconv.uint64pow10", laid_internal_strconv_uint64pow10)] }
def ImageOpensSaid : Prop := imageOpensRow.holds Tryd.pinned (OpenSpec.ofChange imageOpensSpec)

/-- ITS FALSE NEIGHBOUR: 'it returns false'. Refute it at one input. -/
def imageOpensWrong : ChangeSpec := { name := "imageOpens", fn := fun _ => fun
  | [] => { results := [.lit (.bool false)], args := [] }
  | _ => none }
def ImageOpensWrongFalsely : Prop := imageOpensRow.holds Tryd.pinned (OpenSpec.ofChange imageOpensWrong)

/-- 'riddlelaw.ImageAdds': WHATEVER THE INPUT: true; the input reads as it did. -/
def imageAddsSpec : ChangeSpec := { name := "imageAdds", fn := fun _ => fun
  | [d1, d2] => { results := [.lit (.bool true)], args := [d1, d2] }
  | _ => none }
def imageAddsRow : OpenClaim := { program := "ytdbbiibnhgcndaadoor", sum := "d82bca0b12f4a4f60fe3af60aa1b1c0ea68cb62c4487303e37fb42359957438e", func := "riddle/riddlelaw.ImageAdds", spec := "imageAdds", inPlace := ["internal/abi.NoEscape"], recurses := true, named := ["internal/strconv.uint64pow10", "math/bits.deBruijn32tab", "math/bits.deBruijn64tab"], apart := false, laid := [("math/bits.deBruijn32tab", laid_math_bits_deBruijn32tab), ("math/bits.deBruijn64tab", laid_math_bits_deBruijn64tab), ("internal/strconv.uint64pow10", laid_internal_strconv_uint64pow10)] }
def ImageAddsSaid : Prop := imageAddsRow.holds Tryd.pinned (OpenSpec.ofChange imageAddsSpec)

/-- ITS FALSE NEIGHBOUR: 'it returns false'. Refute it at one input. -/
def imageAddsWrong : ChangeSpec := { name := "imageAdds", fn := fun _ => fun
  | [d1, d2] => { results := [.lit (.bool false)], args := [d1, d2] }
  | _ => none }
def ImageAddsWrongFalsely : Prop := imageAddsRow.holds Tryd.pinned (OpenSpec.ofChange imageAddsWrong)

/-- 'riddlelaw.ImageHolds': WHATEVER THE INPUT: true; the input reads as it did. -/
def imageHoldsSpec : ChangeSpec := { name := "imageHolds", fn := fun _ => fun
  | [d1, d2] => { results := [.lit (.bool true)], args := [d1, d2] }
  | _ => none }
def imageHoldsRow : OpenClaim := { program := "ytdbbiibnhgcndaadoor", sum := "d82bca0b12f4a4f60fe3af60aa1b1c0ea68cb62c4487303e37fb42359957438e", func := "riddle/riddlelaw.ImageHolds", spec := "imageHolds", inPlace := ["internal/abi.NoEscape"], unfollowed := true, recurses := true, named := ["internal/strconv.uint64pow10", "math/bits.deBruijn32tab", "math/bits.deBruijn64tab"], apart := false, laid := [("math/bits.deBruijn32tab", laid_math_bits_deBruijn32tab), ("math/bits.deBruijn64tab", laid_math_bits_deBruijn64tab), ("internal/strconv.uint64pow10", laid_internal_strconv_uint64pow10)] }
def ImageHoldsSaid : Prop := imageHoldsRow.holds Tryd.pinned (OpenSpec.ofChange imageHoldsSpec)

/-- ITS FALSE NEIGHBOUR: 'it returns false'. Refute it at one input. -/
def imageHoldsWrong : ChangeSpec := { name := "imageHolds", fn := fun _ => fun
  | [d1, d2] => { results := [.lit (.bool false)], args := [d1, d2] }
  | _ => none }
def ImageHoldsWrongFalsely : Prop := imageHoldsRow.holds Tryd.pinned (OpenSpec.ofChange imageHoldsWrong)

/-- 'riddlelaw.ImageExpects': WHATEVER THE INPUT: true; the input reads as it did. -/
def imageExpectsSpec : ChangeSpec := { name := "imageExpects", fn := fun _ => fun
  | [d] => { results := [.lit (.bool true)], args := [d] }
  | _ => none }
def imageExpectsRow : OpenClaim := { program := "ytdbbiibnhgcndaadoor", sum := "d82bca0b12f4a4f60fe3af60aa1b1c0ea68cb62c4487303e37fb42359957438e", func := "riddle/riddlelaw.ImageExpects", spec := "imageExpects", inPlace := ["internal/abi.NoEscape"], unfollowed := true, recurses := true, named := ["internal/strconv.uint64pow10", "math/bits.deBruijn32tab", "math/bits.deBruijn64tab"], apart := false, laid := [("math/bits.deBruijn32tab", laid_math_bits_deBruijn32tab), ("math/bits.deBruijn64tab", laid_math_bits_deBruijn64tab), ("internal/strconv.uint64pow10", laid_internal_strconv_uint64pow10)] }
def ImageExpectsSaid : Prop := imageExpectsRow.holds Tryd.pinned (OpenSpec.ofChange imageExpectsSpec)

/-- ITS FALSE NEIGHBOUR: 'it returns false'. Refute it at one input. -/
def imageExpectsWrong : ChangeSpec := { name := "imageExpects", fn := fun _ => fun
  | [d] => { results := [.lit (.bool false)], args := [d] }
  | _ => none }
def ImageExpectsWrongFalsely : Prop := imageExpectsRow.holds Tryd.pinned (OpenSpec.ofChange imageExpectsWrong)

/-- 'riddlekeep.ImagesApart': WHATEVER THE INPUT: true; the input reads as it did. -/
def imagesApartSpec : ChangeSpec := { name := "imagesApart", fn := fun _ => fun
  | [d1, d2, d3, d4] => { results := [.lit (.bool true)], args := [d1, d2, d3, d4] }
  | _ => none }
def imagesApartRow : OpenClaim := { program := "ytdbbiibnhgcndaadoor", sum := "d82bca0b12f4a4f60fe3af60aa1b1c0ea68cb62c4487303e37fb42359957438e", func := "riddle/riddlekeep.ImagesApart", spec := "imagesApart", inPlace := ["internal/abi.NoEscape"], unfollowed := true, recurses := true, named := ["internal/strconv.uint64pow10", "math/bits.deBruijn32tab", "math/bits.deBruijn64tab"], apart := false, laid := [("math/bits.deBruijn32tab", laid_math_bits_deBruijn32tab), ("math/bits.deBruijn64tab", laid_math_bits_deBruijn64tab), ("internal/strconv.uint64pow10", laid_internal_strconv_uint64pow10)] }
def ImagesApartSaid : Prop := imagesApartRow.holds Tryd.pinned (OpenSpec.ofChange imagesApartSpec)

/-- ITS FALSE NEIGHBOUR: 'it returns false'. Refute it at one input. -/
def imagesApartWrong : ChangeSpec := { name := "imagesApart", fn := fun _ => fun
  | [d1, d2, d3, d4] => { results := [.lit (.bool false)], args := [d1, d2, d3, d4] }
  | _ => none }
def ImagesApartWrongFalsely : Prop := imagesApartRow.holds Tryd.pinned (OpenSpec.ofChange imagesApartWrong)

/-- 'riddlekeep.ImagesTouched': WHATEVER THE INPUT: true; the input reads as it did. -/
def imagesTouchedSpec : ChangeSpec := { name := "imagesTouched", fn := fun _ => fun
  | [d1, d2, d3, d4] => { results := [.lit (.bool true)], args := [d1, d2, d3, d4] }
  | _ => none }
def imagesTouchedRow : OpenClaim := { program := "ytdbbiibnhgcndaadoor", sum := "d82bca0b12f4a4f60fe3af60aa1b1c0ea68cb62c4487303e37fb42359957438e", func := "riddle/riddlekeep.ImagesTouched", spec := "imagesTouched", inPlace := ["internal/abi.NoEscape"], unfollowed := true, recurses := true, named := ["internal/strconv.uint64pow10", "math/bits.deBruijn32tab", "math/bits.deBruijn64tab"], apart := false, laid := [("math/bits.deBruijn32tab", laid_math_bits_deBruijn32tab), ("math/bits.deBruijn64tab", laid_math_bits_deBruijn64tab), ("internal/strconv.uint64pow10", laid_internal_strconv_uint64pow10)] }
def ImagesTouchedSaid : Prop := imagesTouchedRow.holds Tryd.pinned (OpenSpec.ofChange imagesTouchedSpec)

/-- ITS FALSE NEIGHBOUR: 'it returns false'. Refute it at one input. -/
def imagesTouchedWrong : ChangeSpec := { name := "imagesTouched", fn := fun _ => fun
  | [d1, d2, d3, d4] => { results := [.lit (.bool false)], args := [d1, d2, d3, d4] }
  | _ => none }
def ImagesTouchedWrongFalsely : Prop := imagesTouchedRow.holds Tryd.pinned (OpenSpec.ofChange imagesTouchedWrong)

/-- 'riddlelaw.EpcCreates': WHATEVER THE INPUT: true; the input reads as it did. -/
def epcCreatesSpec : ChangeSpec := { name := "epcCreates", fn := fun _ => fun
  | [d] => { results := [.lit (.bool true)], args := [d] }
  | _ => none }
def epcCreatesRow : OpenClaim := { program := "ytdbbiibnhgcndaadoor", sum := "d82bca0b12f4a4f60fe3af60aa1b1c0ea68cb62c4487303e37fb42359957438e", func := "riddle/riddlelaw.EpcCreates", spec := "epcCreates", inPlace := ["internal/abi.NoEscape"], unfollowed := true, recurses := true, named := ["internal/strconv.uint64pow10", "math/bits.deBruijn32tab", "math/bits.deBruijn64tab"], apart := false, laid := [("math/bits.deBruijn32tab", laid_math_bits_deBruijn32tab), ("math/bits.deBruijn64tab", laid_math_bits_deBruijn64tab), ("internal/strconv.uint64pow10", laid_internal_strconv_uint64pow10)] }
def EpcCreatesSaid : Prop := epcCreatesRow.holds Tryd.pinned (OpenSpec.ofChange epcCreatesSpec)

/-- ITS FALSE NEIGHBOUR: 'it returns false'. Refute it at one input. -/
def epcCreatesWrong : ChangeSpec := { name := "epcCreates", fn := fun _ => fun
  | [d] => { results := [.lit (.bool false)], args := [d] }
  | _ => none }
def EpcCreatesWrongFalsely : Prop := epcCreatesRow.holds Tryd.pinned (OpenSpec.ofChange epcCreatesWrong)

/-- 'riddlelaw.EpcPuts': WHATEVER THE INPUT: true; the input reads as it did. -/
def epcPutsSpec : ChangeSpec := { name := "epcPuts", fn := fun _ => fun
  | [d1, d2, d3, d4, d5] => { results := [.lit (.bool true)], args := [d1, d2, d3, d4, d5] }
  | _ => none }
def epcPutsRow : OpenClaim := { program := "ytdbbiibnhgcndaadoor", sum := "d82bca0b12f4a4f60fe3af60aa1b1c0ea68cb62c4487303e37fb42359957438e", func := "riddle/riddlelaw.EpcPuts", spec := "epcPuts", inPlace := ["internal/abi.NoEscape"], unfollowed := true, recurses := true, named := ["internal/strconv.uint64pow10", "math/bits.deBruijn32tab", "math/bits.deBruijn64tab"], apart := false, laid := [("math/bits.deBruijn32tab", laid_math_bits_deBruijn32tab), ("math/bits.deBruijn64tab", laid_math_bits_deBruijn64tab), ("internal/strconv.uint64pow10", laid_internal_strconv_uint64pow10)] }
def EpcPutsSaid : Prop := epcPutsRow.holds Tryd.pinned (OpenSpec.ofChange epcPutsSpec)

/-- ITS FALSE NEIGHBOUR: 'it returns false'. Refute it at one input. -/
def epcPutsWrong : ChangeSpec := { name := "epcPuts", fn := fun _ => fun
  | [d1, d2, d3, d4, d5] => { results := [.lit (.bool false)], args := [d1, d2, d3, d4, d5] }
  | _ => none }
def EpcPutsWrongFalsely : Prop := epcPutsRow.holds Tryd.pinned (OpenSpec.ofChange epcPutsWrong)

/-- 'riddlelaw.EpcMeasures': WHATEVER THE INPUT: true; the input reads as it did. -/
def epcMeasuresSpec : ChangeSpec := { name := "epcMeasures", fn := fun _ => fun
  | [d1, d2, d3] => { results := [.lit (.bool true)], args := [d1, d2, d3] }
  | _ => none }
def epcMeasuresRow : OpenClaim := { program := "ytdbbiibnhgcndaadoor", sum := "d82bca0b12f4a4f60fe3af60aa1b1c0ea68cb62c4487303e37fb42359957438e", func := "riddle/riddlelaw.EpcMeasures", spec := "epcMeasures", inPlace := ["internal/abi.NoEscape"], unfollowed := true, recurses := true, named := ["internal/strconv.uint64pow10", "math/bits.deBruijn32tab", "math/bits.deBruijn64tab"], apart := false, laid := [("math/bits.deBruijn32tab", laid_math_bits_deBruijn32tab), ("math/bits.deBruijn64tab", laid_math_bits_deBruijn64tab), ("internal/strconv.uint64pow10", laid_internal_strconv_uint64pow10)] }
def EpcMeasuresSaid : Prop := epcMeasuresRow.holds Tryd.pinned (OpenSpec.ofChange epcMeasuresSpec)

/-- ITS FALSE NEIGHBOUR: 'it returns false'. Refute it at one input. -/
def epcMeasuresWrong : ChangeSpec := { name := "epcMeasures", fn := fun _ => fun
  | [d1, d2, d3] => { results := [.lit (.bool false)], args := [d1, d2, d3] }
  | _ => none }
def EpcMeasuresWrongFalsely : Prop := epcMeasuresRow.holds Tryd.pinned (OpenSpec.ofChange epcMeasuresWrong)

/- THE SECOND FORM. 'bulk': how many values and letters a reading holds, each counted each time it is reached (what is shared counts as often as it is met; a slice's spare places count too). A statement '..UptoSaid' is the law's where the arguments, and the package variables that the reading takes, are together of bulk at most 1048576: NARROWER than '..Said'. Prove '..Said' where nothing that the law and all that it calls make is longer than what came in: it says more and counts as full. Else prove '..UptoSaid'. A law counts once. -/
mutual
def uptoBulk {H : Type} : DataW H → Nat
  | .lit (.string bytes) => bytes.length + 1
  | .lit _ => 1
  | .nil => 1
  | .ptr d => uptoBulk d + 1
  | .slice elems spare => uptoBulkAll elems + uptoBulkAll spare + 1
  | .agg parts => uptoBulkAll parts + 1
  | .iface _ d => uptoBulk d + 1
  | .map entries => uptoBulkEntries entries + 1
  | .held _ => 1
def uptoBulkAll {H : Type} : List (DataW H) → Nat
  | [] => 0
  | d :: r => uptoBulk d + uptoBulkAll r
def uptoBulkEntries {H : Type} : List (Lit × DataW H) → Nat
  | [] => 0
  | x :: r => uptoBulkEntry x + uptoBulkEntries r
def uptoBulkEntry {H : Type} : Lit × DataW H → Nat
  | (.string bytes, d) => bytes.length + uptoBulk d + 1
  | (_, d) => uptoBulk d + 1
 end
def uptoSmall : (H : Type) → List (DataW H) → Bool := fun _ ds => decide (uptoBulkAll ds ≤ 1048576)
def OpenSpec.upto (s : _root_.Go.ChangeSpec) : _root_.Go.OpenSpec := { _root_.Go.OpenSpec.ofChange s with cond := some uptoSmall }

/-- 'riddlelaw.ImageOpens', WHERE WHAT IT READS IS OF BULK AT MOST 1048576: true; the input reads as it did. -/
def imageOpensUptoRow : OpenClaim := { program := "ytdbbiibnhgcndaadoor", sum := "d82bca0b12f4a4f60fe3af60aa1b1c0ea68cb62c4487303e37fb42359957438e", func := "riddle/riddlelaw.ImageOpens", spec := "imageOpens", inPlace := ["internal/abi.NoEscape"], named := ["internal/strconv.uint64pow10", "math/bits.deBruijn32tab", "math/bits.deBruijn64tab"], apart := false, laid := [("math/bits.deBruijn32tab", laid_math_bits_deBruijn32tab), ("math/bits.deBruijn64tab", laid_math_bits_deBruijn64tab), ("internal/strconv.uint64pow10", laid_internal_strconv_uint64pow10)], narrowed := true }
def ImageOpensUptoSaid : Prop := imageOpensUptoRow.holds Tryd.pinned (OpenSpec.upto imageOpensSpec)

/-- 'riddlelaw.ImageAdds', WHERE WHAT IT READS IS OF BULK AT MOST 1048576: true; the input reads as it did. -/
def imageAddsUptoRow : OpenClaim := { program := "ytdbbiibnhgcndaadoor", sum := "d82bca0b12f4a4f60fe3af60aa1b1c0ea68cb62c4487303e37fb42359957438e", func := "riddle/riddlelaw.ImageAdds", spec := "imageAdds", inPlace := ["internal/abi.NoEscape"], recurses := true, named := ["internal/strconv.uint64pow10", "math/bits.deBruijn32tab", "math/bits.deBruijn64tab"], apart := false, laid := [("math/bits.deBruijn32tab", laid_math_bits_deBruijn32tab), ("math/bits.deBruijn64tab", laid_math_bits_deBruijn64tab), ("internal/strconv.uint64pow10", laid_internal_strconv_uint64pow10)], narrowed := true }
def ImageAddsUptoSaid : Prop := imageAddsUptoRow.holds Tryd.pinned (OpenSpec.upto imageAddsSpec)

/-- 'riddlelaw.ImageHolds', WHERE WHAT IT READS IS OF BULK AT MOST 1048576: true; the input reads as it did. -/
def imageHoldsUptoRow : OpenClaim := { program := "ytdbbiibnhgcndaadoor", sum := "d82bca0b12f4a4f60fe3af60aa1b1c0ea68cb62c4487303e37fb42359957438e", func := "riddle/riddlelaw.ImageHolds", spec := "imageHolds", inPlace := ["internal/abi.NoEscape"], unfollowed := true, recurses := true, named := ["internal/strconv.uint64pow10", "math/bits.deBruijn32tab", "math/bits.deBruijn64tab"], apart := false, laid := [("math/bits.deBruijn32tab", laid_math_bits_deBruijn32tab), ("math/bits.deBruijn64tab", laid_math_bits_deBruijn64tab), ("internal/strconv.uint64pow10", laid_internal_strconv_uint64pow10)], narrowed := true }
def ImageHoldsUptoSaid : Prop := imageHoldsUptoRow.holds Tryd.pinned (OpenSpec.upto imageHoldsSpec)

/-- 'riddlelaw.ImageExpects', WHERE WHAT IT READS IS OF BULK AT MOST 1048576: true; the input reads as it did. -/
def imageExpectsUptoRow : OpenClaim := { program := "ytdbbiibnhgcndaadoor", sum := "d82bca0b12f4a4f60fe3af60aa1b1c0ea68cb62c4487303e37fb42359957438e", func := "riddle/riddlelaw.ImageExpects", spec := "imageExpects", inPlace := ["internal/abi.NoEscape"], unfollowed := true, recurses := true, named := ["internal/strconv.uint64pow10", "math/bits.deBruijn32tab", "math/bits.deBruijn64tab"], apart := false, laid := [("math/bits.deBruijn32tab", laid_math_bits_deBruijn32tab), ("math/bits.deBruijn64tab", laid_math_bits_deBruijn64tab), ("internal/strconv.uint64pow10", laid_internal_strconv_uint64pow10)], narrowed := true }
def ImageExpectsUptoSaid : Prop := imageExpectsUptoRow.holds Tryd.pinned (OpenSpec.upto imageExpectsSpec)

/-- 'riddlekeep.ImagesApart', WHERE WHAT IT READS IS OF BULK AT MOST 1048576: true; the input reads as it did. -/
def imagesApartUptoRow : OpenClaim := { program := "ytdbbiibnhgcndaadoor", sum := "d82bca0b12f4a4f60fe3af60aa1b1c0ea68cb62c4487303e37fb42359957438e", func := "riddle/riddlekeep.ImagesApart", spec := "imagesApart", inPlace := ["internal/abi.NoEscape"], unfollowed := true, recurses := true, named := ["internal/strconv.uint64pow10", "math/bits.deBruijn32tab", "math/bits.deBruijn64tab"], apart := false, laid := [("math/bits.deBruijn32tab", laid_math_bits_deBruijn32tab), ("math/bits.deBruijn64tab", laid_math_bits_deBruijn64tab), ("internal/strconv.uint64pow10", laid_internal_strconv_uint64pow10)], narrowed := true }
def ImagesApartUptoSaid : Prop := imagesApartUptoRow.holds Tryd.pinned (OpenSpec.upto imagesApartSpec)

/-- 'riddlekeep.ImagesTouched', WHERE WHAT IT READS IS OF BULK AT MOST 1048576: true; the input reads as it did. -/
def imagesTouchedUptoRow : OpenClaim := { program := "ytdbbiibnhgcndaadoor", sum := "d82bca0b12f4a4f60fe3af60aa1b1c0ea68cb62c4487303e37fb42359957438e", func := "riddle/riddlekeep.ImagesTouched", spec := "imagesTouched", inPlace := ["internal/abi.NoEscape"], unfollowed := true, recurses := true, named := ["internal/strconv.uint64pow10", "math/bits.deBruijn32tab", "math/bits.deBruijn64tab"], apart := false, laid := [("math/bits.deBruijn32tab", laid_math_bits_deBruijn32tab), ("math/bits.deBruijn64tab", laid_math_bits_deBruijn64tab), ("internal/strconv.uint64pow10", laid_internal_strconv_uint64pow10)], narrowed := true }
def ImagesTouchedUptoSaid : Prop := imagesTouchedUptoRow.holds Tryd.pinned (OpenSpec.upto imagesTouchedSpec)

/-- 'riddlelaw.EpcCreates', WHERE WHAT IT READS IS OF BULK AT MOST 1048576: true; the input reads as it did. -/
def epcCreatesUptoRow : OpenClaim := { program := "ytdbbiibnhgcndaadoor", sum := "d82bca0b12f4a4f60fe3af60aa1b1c0ea68cb62c4487303e37fb42359957438e", func := "riddle/riddlelaw.EpcCreates", spec := "epcCreates", inPlace := ["internal/abi.NoEscape"], unfollowed := true, recurses := true, named := ["internal/strconv.uint64pow10", "math/bits.deBruijn32tab", "math/bits.deBruijn64tab"], apart := false, laid := [("math/bits.deBruijn32tab", laid_math_bits_deBruijn32tab), ("math/bits.deBruijn64tab", laid_math_bits_deBruijn64tab), ("internal/strconv.uint64pow10", laid_internal_strconv_uint64pow10)], narrowed := true }
def EpcCreatesUptoSaid : Prop := epcCreatesUptoRow.holds Tryd.pinned (OpenSpec.upto epcCreatesSpec)

/-- 'riddlelaw.EpcPuts', WHERE WHAT IT READS IS OF BULK AT MOST 1048576: true; the input reads as it did. -/
def epcPutsUptoRow : OpenClaim := { program := "ytdbbiibnhgcndaadoor", sum := "d82bca0b12f4a4f60fe3af60aa1b1c0ea68cb62c4487303e37fb42359957438e", func := "riddle/riddlelaw.EpcPuts", spec := "epcPuts", inPlace := ["internal/abi.NoEscape"], unfollowed := true, recurses := true, named := ["internal/strconv.uint64pow10", "math/bits.deBruijn32tab", "math/bits.deBruijn64tab"], apart := false, laid := [("math/bits.deBruijn32tab", laid_math_bits_deBruijn32tab), ("math/bits.deBruijn64tab", laid_math_bits_deBruijn64tab), ("internal/strconv.uint64pow10", laid_internal_strconv_uint64pow10)], narrowed := true }
def EpcPutsUptoSaid : Prop := epcPutsUptoRow.holds Tryd.pinned (OpenSpec.upto epcPutsSpec)

/-- 'riddlelaw.EpcMeasures', WHERE WHAT IT READS IS OF BULK AT MOST 1048576: true; the input reads as it did. -/
def epcMeasuresUptoRow : OpenClaim := { program := "ytdbbiibnhgcndaadoor", sum := "d82bca0b12f4a4f60fe3af60aa1b1c0ea68cb62c4487303e37fb42359957438e", func := "riddle/riddlelaw.EpcMeasures", spec := "epcMeasures", inPlace := ["internal/abi.NoEscape"], unfollowed := true, recurses := true, named := ["internal/strconv.uint64pow10", "math/bits.deBruijn32tab", "math/bits.deBruijn64tab"], apart := false, laid := [("math/bits.deBruijn32tab", laid_math_bits_deBruijn32tab), ("math/bits.deBruijn64tab", laid_math_bits_deBruijn64tab), ("internal/strconv.uint64pow10", laid_internal_strconv_uint64pow10)], narrowed := true }
def EpcMeasuresUptoSaid : Prop := epcMeasuresUptoRow.holds Tryd.pinned (OpenSpec.upto epcMeasuresSpec)

end Rows
end Go.Proofs.YtdbbiibnhgcndaaDoor
