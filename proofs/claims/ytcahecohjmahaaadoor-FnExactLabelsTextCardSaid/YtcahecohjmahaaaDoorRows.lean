/-
  NARROWER THAN 'FOR EVERY INPUT', by the rows' own cells (each row's printed sentence says how): FnExactOppositeEdges: laid · FnExactHexNear: laid · FnExactNeedOf: laid · FnExactHexWalk: laid · FnExactWinnerByWalk: laid · FnExactHasWon: laid · FnExactWinnerOf: laid · FnExactLabelsText: laid · FnOppositeEdgesFound: laid.
  DERIVED. THE GIVEN ROWS OF THIS SEAT. 9 by the template 'for every input the law returns true; each argument reads behind the call as it read before'; 0 by the template 'total and deterministic' (their statements: YtcahecohjmahaaaDoorTotals.lean).
  GIVEN WITH THE SEED: the statements are not yours to turn. If you find one false, say at which input.
  Laid BY PROGRAM, IN A SANDBOX (cutbox-rows.mjs): the forced cells as the released guide's own fill.sh prints them over the translation 4dcabaec3ea40276… (all of the seat's roots in one cut). By AI agents, Wed Nov 11 2026. No macro, syntax, notation, axiom, sorry.
-/
import Derived.Test.YtcahecohjmahaaaDoorChecked
import GoSem.Claim
import GoSem.ClaimJoined
import GoSem.ClaimMapViews
import Derived.JoinedTies
import Derived.KernelRfl
namespace Go.Proofs.YtcahecohjmahaaaDoor
/- THE CELL 'sum', in the pinned program and in every row, IS THE sha256 OF THE DUMP (.gsa) THAT YtcahecohjmahaaaDoorProg.lean LOADS. Nothing in Lean hashes anything: it is a label: what it is worth is what the hold of that sum in a sandbox is worth. -/
noncomputable def Tryd.pinned : Pinned := { name := "ytcahecohjmahaaadoor", sum := "4dcabaec3ea4027681ba0483eae0d647849fbf574d24ee1ffe9d1780d3ba6b1b", checked := Tryd.checked }
namespace Rows
def none {H : Type} : Left H := { results := [], args := [] }

/- WHAT THE LISTED PACKAGE-LEVEL VARIABLES READ AS WHEN THE CALL BEGINS. Each datum BY PROGRAM (the guide's laid-datum.mjs) off the statement by which the dump's own 'gosem.cut.vars' lays the variable. In a bare row this is a premise. The card (YtcahecohjmahaaaDoorCards.lean) ties it to the program's text. -/
def laid_loop_example_g01160_impl_squareSteps {H : Type} : DataW H := .agg [.agg [.lit (.int .i64 1), .lit (.int .i64 0)], .agg [.lit (.int .i64 0), .lit (.int .i64 1)], .agg [.lit (.int .i64 1), .lit (.int .i64 1)]]
def laid_loop_example_g01160_impl_hexSteps {H : Type} : DataW H := .agg [.agg [.lit (.int .i64 (-1)), .lit (.int .i64 0)], .agg [.lit (.int .i64 (-1)), .lit (.int .i64 1)], .agg [.lit (.int .i64 0), .lit (.int .i64 (-1))], .agg [.lit (.int .i64 0), .lit (.int .i64 1)], .agg [.lit (.int .i64 1), .lit (.int .i64 (-1))], .agg [.lit (.int .i64 1), .lit (.int .i64 0)]]
def laid_math_bits_deBruijn32tab {H : Type} : DataW H := .agg [.lit (.int .u8 0), .lit (.int .u8 1), .lit (.int .u8 28), .lit (.int .u8 2), .lit (.int .u8 29), .lit (.int .u8 14), .lit (.int .u8 24), .lit (.int .u8 3), .lit (.int .u8 30), .lit (.int .u8 22), .lit (.int .u8 20), .lit (.int .u8 15), .lit (.int .u8 25), .lit (.int .u8 17), .lit (.int .u8 4), .lit (.int .u8 8), .lit (.int .u8 31), .lit (.int .u8 27), .lit (.int .u8 13), .lit (.int .u8 23), .lit (.int .u8 21), .lit (.int .u8 19), .lit (.int .u8 16), .lit (.int .u8 7), .lit (.int .u8 26), .lit (.int .u8 12), .lit (.int .u8 18), .lit (.int .u8 6), .lit (.int .u8 11), .lit (.int .u8 5), .lit (.int .u8 10), .lit (.int .u8 9)]
def laid_math_bits_deBruijn64tab {H : Type} : DataW H := .agg [.lit (.int .u8 0), .lit (.int .u8 1), .lit (.int .u8 56), .lit (.int .u8 2), .lit (.int .u8 57), .lit (.int .u8 49), .lit (.int .u8 28), .lit (.int .u8 3), .lit (.int .u8 61), .lit (.int .u8 58), .lit (.int .u8 42), .lit (.int .u8 50), .lit (.int .u8 38), .lit (.int .u8 29), .lit (.int .u8 17), .lit (.int .u8 4), .lit (.int .u8 62), .lit (.int .u8 47), .lit (.int .u8 59), .lit (.int .u8 36), .lit (.int .u8 45), .lit (.int .u8 43), .lit (.int .u8 51), .lit (.int .u8 22), .lit (.int .u8 53), .lit (.int .u8 39), .lit (.int .u8 33), .lit (.int .u8 30), .lit (.int .u8 24), .lit (.int .u8 18), .lit (.int .u8 12), .lit (.int .u8 5), .lit (.int .u8 63), .lit (.int .u8 55), .lit (.int .u8 48), .lit (.int .u8 27), .lit (.int .u8 60), .lit (.int .u8 41), .lit (.int .u8 37), .lit (.int .u8 16), .lit (.int .u8 46), .lit (.int .u8 35), .lit (.int .u8 44), .lit (.int .u8 21), .lit (.int .u8 52), .lit (.int .u8 32), .lit (.int .u8 23), .lit (.int .u8 11), .lit (.int .u8 54), .lit (.int .u8 26), .lit (.int .u8 40), .lit (.int .u8 15), .lit (.int .u8 34), .lit (.int .u8 20), .lit (.int .u8 31), .lit (.int .u8 10), .lit (.int .u8 25), .lit (.int .u8 14), .lit (.int .u8 19), .lit (.int .u8 9), .lit (.int .u8 13), .lit (.int .u8 8), .lit (.int .u8 7), .lit (.int .u8 6)]
def laid_internal_strconv_uint64pow10 {H : Type} : DataW H := .agg [.lit (.int .u64 1), .lit (.int .u64 10), .lit (.int .u64 100), .lit (.int .u64 1000), .lit (.int .u64 10000), .lit (.int .u64 100000), .lit (.int .u64 1000000), .lit (.int .u64 10000000), .lit (.int .u64 100000000), .lit (.int .u64 1000000000), .lit (.int .u64 10000000000), .lit (.int .u64 100000000000), .lit (.int .u64 1000000000000), .lit (.int .u64 10000000000000), .lit (.int .u64 100000000000000), .lit (.int .u64 1000000000000000), .lit (.int .u64 10000000000000000), .lit (.int .u64 100000000000000000), .lit (.int .u64 1000000000000000000), .lit (.int .u64 10000000000000000000)]

/-- 'laws.FnExactOppositeEdges': WHATEVER THE INPUT: true; the input reads as it did. -/
def fnExactOppositeEdgesSpec : ChangeSpec := { name := "fnExactOppositeEdges", vars := ["loop.example/g01160/impl.squareSteps"], fn := fun _ => fun
  | [d1, d2, g1] => { results := [.lit (.bool true)], args := [d1, d2], vars := [g1] }
  | _ => none }
def fnExactOppositeEdgesRow : OpenClaim := { program := "ytcahecohjmahaaadoor", sum := "4dcabaec3ea4027681ba0483eae0d647849fbf574d24ee1ffe9d1780d3ba6b1b", func := "loop.example/g01160/laws.FnExactOppositeEdges", spec := "fnExactOppositeEdges", unfollowed := true, recurses := true, named := ["loop.example/g01160/impl.squareSteps"], apart := false, laid := [("loop.example/g01160/impl.squareSteps", laid_loop_example_g01160_impl_squareSteps)] }
def FnExactOppositeEdgesSaid : Prop := fnExactOppositeEdgesRow.holds Tryd.pinned (OpenSpec.ofChange fnExactOppositeEdgesSpec)

/-- ITS FALSE NEIGHBOUR: 'it returns false'. Refute it at one input. -/
def fnExactOppositeEdgesWrong : ChangeSpec := { name := "fnExactOppositeEdges", vars := ["loop.example/g01160/impl.squareSteps"], fn := fun _ => fun
  | [d1, d2, g1] => { results := [.lit (.bool false)], args := [d1, d2], vars := [g1] }
  | _ => none }
def FnExactOppositeEdgesWrongFalsely : Prop := fnExactOppositeEdgesRow.holds Tryd.pinned (OpenSpec.ofChange fnExactOppositeEdgesWrong)

/-- 'laws.FnExactHexNear': WHATEVER THE INPUT: true; the input reads as it did. -/
def fnExactHexNearSpec : ChangeSpec := { name := "fnExactHexNear", vars := ["loop.example/g01160/impl.hexSteps"], fn := fun _ => fun
  | [d1, d2, d3, g1] => { results := [.lit (.bool true)], args := [d1, d2, d3], vars := [g1] }
  | _ => none }
def fnExactHexNearRow : OpenClaim := { program := "ytcahecohjmahaaadoor", sum := "4dcabaec3ea4027681ba0483eae0d647849fbf574d24ee1ffe9d1780d3ba6b1b", func := "loop.example/g01160/laws.FnExactHexNear", spec := "fnExactHexNear", named := ["loop.example/g01160/impl.hexSteps"], apart := false, laid := [("loop.example/g01160/impl.hexSteps", laid_loop_example_g01160_impl_hexSteps)] }
def FnExactHexNearSaid : Prop := fnExactHexNearRow.holds Tryd.pinned (OpenSpec.ofChange fnExactHexNearSpec)

/-- ITS FALSE NEIGHBOUR: 'it returns false'. Refute it at one input. -/
def fnExactHexNearWrong : ChangeSpec := { name := "fnExactHexNear", vars := ["loop.example/g01160/impl.hexSteps"], fn := fun _ => fun
  | [d1, d2, d3, g1] => { results := [.lit (.bool false)], args := [d1, d2, d3], vars := [g1] }
  | _ => none }
def FnExactHexNearWrongFalsely : Prop := fnExactHexNearRow.holds Tryd.pinned (OpenSpec.ofChange fnExactHexNearWrong)

/-- 'laws.FnExactNeedOf': WHATEVER THE INPUT: true; the input reads as it did. -/
def fnExactNeedOfSpec : ChangeSpec := { name := "fnExactNeedOf", vars := ["loop.example/g01160/impl.hexSteps"], fn := fun _ => fun
  | [d1, d2, d3, d4, g1] => { results := [.lit (.bool true)], args := [d1, d2, d3, d4], vars := [g1] }
  | _ => none }
def fnExactNeedOfRow : OpenClaim := { program := "ytcahecohjmahaaadoor", sum := "4dcabaec3ea4027681ba0483eae0d647849fbf574d24ee1ffe9d1780d3ba6b1b", func := "loop.example/g01160/laws.FnExactNeedOf", spec := "fnExactNeedOf", unfollowed := true, recurses := true, named := ["loop.example/g01160/impl.hexSteps"], apart := false, laid := [("loop.example/g01160/impl.hexSteps", laid_loop_example_g01160_impl_hexSteps)] }
def FnExactNeedOfSaid : Prop := fnExactNeedOfRow.holds Tryd.pinned (OpenSpec.ofChange fnExactNeedOfSpec)

/-- ITS FALSE NEIGHBOUR: 'it returns false'. Refute it at one input. -/
def fnExactNeedOfWrong : ChangeSpec := { name := "fnExactNeedOf", vars := ["loop.example/g01160/impl.hexSteps"], fn := fun _ => fun
  | [d1, d2, d3, d4, g1] => { results := [.lit (.bool false)], args := [d1, d2, d3, d4], vars := [g1] }
  | _ => none }
def FnExactNeedOfWrongFalsely : Prop := fnExactNeedOfRow.holds Tryd.pinned (OpenSpec.ofChange fnExactNeedOfWrong)

/-- 'laws.FnExactHexWalk': WHATEVER THE INPUT: true; the input reads as it did. -/
def fnExactHexWalkSpec : ChangeSpec := { name := "fnExactHexWalk", vars := ["loop.example/g01160/impl.hexSteps"], fn := fun _ => fun
  | [d1, d2, d3, g1] => { results := [.lit (.bool true)], args := [d1, d2, d3], vars := [g1] }
  | _ => none }
def fnExactHexWalkRow : OpenClaim := { program := "ytcahecohjmahaaadoor", sum := "4dcabaec3ea4027681ba0483eae0d647849fbf574d24ee1ffe9d1780d3ba6b1b", func := "loop.example/g01160/laws.FnExactHexWalk", spec := "fnExactHexWalk", unfollowed := true, recurses := true, named := ["loop.example/g01160/impl.hexSteps"], apart := false, laid := [("loop.example/g01160/impl.hexSteps", laid_loop_example_g01160_impl_hexSteps)] }
def FnExactHexWalkSaid : Prop := fnExactHexWalkRow.holds Tryd.pinned (OpenSpec.ofChange fnExactHexWalkSpec)

/-- ITS FALSE NEIGHBOUR: 'it returns false'. Refute it at one input. -/
def fnExactHexWalkWrong : ChangeSpec := { name := "fnExactHexWalk", vars := ["loop.example/g01160/impl.hexSteps"], fn := fun _ => fun
  | [d1, d2, d3, g1] => { results := [.lit (.bool false)], args := [d1, d2, d3], vars := [g1] }
  | _ => none }
def FnExactHexWalkWrongFalsely : Prop := fnExactHexWalkRow.holds Tryd.pinned (OpenSpec.ofChange fnExactHexWalkWrong)

/-- 'laws.FnExactWinnerByWalk': WHATEVER THE INPUT: true; the input reads as it did. -/
def fnExactWinnerByWalkSpec : ChangeSpec := { name := "fnExactWinnerByWalk", vars := ["loop.example/g01160/impl.hexSteps"], fn := fun _ => fun
  | [d1, d2, d3, g1] => { results := [.lit (.bool true)], args := [d1, d2, d3], vars := [g1] }
  | _ => none }
def fnExactWinnerByWalkRow : OpenClaim := { program := "ytcahecohjmahaaadoor", sum := "4dcabaec3ea4027681ba0483eae0d647849fbf574d24ee1ffe9d1780d3ba6b1b", func := "loop.example/g01160/laws.FnExactWinnerByWalk", spec := "fnExactWinnerByWalk", unfollowed := true, recurses := true, named := ["loop.example/g01160/impl.hexSteps"], apart := false, laid := [("loop.example/g01160/impl.hexSteps", laid_loop_example_g01160_impl_hexSteps)] }
def FnExactWinnerByWalkSaid : Prop := fnExactWinnerByWalkRow.holds Tryd.pinned (OpenSpec.ofChange fnExactWinnerByWalkSpec)

/-- ITS FALSE NEIGHBOUR: 'it returns false'. Refute it at one input. -/
def fnExactWinnerByWalkWrong : ChangeSpec := { name := "fnExactWinnerByWalk", vars := ["loop.example/g01160/impl.hexSteps"], fn := fun _ => fun
  | [d1, d2, d3, g1] => { results := [.lit (.bool false)], args := [d1, d2, d3], vars := [g1] }
  | _ => none }
def FnExactWinnerByWalkWrongFalsely : Prop := fnExactWinnerByWalkRow.holds Tryd.pinned (OpenSpec.ofChange fnExactWinnerByWalkWrong)

/-- 'laws.FnExactHasWon': WHATEVER THE INPUT: true; the input reads as it did. -/
def fnExactHasWonSpec : ChangeSpec := { name := "fnExactHasWon", vars := ["loop.example/g01160/impl.hexSteps"], fn := fun _ => fun
  | [d1, d2, d3, d4, g1] => { results := [.lit (.bool true)], args := [d1, d2, d3, d4], vars := [g1] }
  | _ => none }
def fnExactHasWonRow : OpenClaim := { program := "ytcahecohjmahaaadoor", sum := "4dcabaec3ea4027681ba0483eae0d647849fbf574d24ee1ffe9d1780d3ba6b1b", func := "loop.example/g01160/laws.FnExactHasWon", spec := "fnExactHasWon", unfollowed := true, recurses := true, named := ["loop.example/g01160/impl.hexSteps"], apart := false, laid := [("loop.example/g01160/impl.hexSteps", laid_loop_example_g01160_impl_hexSteps)] }
def FnExactHasWonSaid : Prop := fnExactHasWonRow.holds Tryd.pinned (OpenSpec.ofChange fnExactHasWonSpec)

/-- ITS FALSE NEIGHBOUR: 'it returns false'. Refute it at one input. -/
def fnExactHasWonWrong : ChangeSpec := { name := "fnExactHasWon", vars := ["loop.example/g01160/impl.hexSteps"], fn := fun _ => fun
  | [d1, d2, d3, d4, g1] => { results := [.lit (.bool false)], args := [d1, d2, d3, d4], vars := [g1] }
  | _ => none }
def FnExactHasWonWrongFalsely : Prop := fnExactHasWonRow.holds Tryd.pinned (OpenSpec.ofChange fnExactHasWonWrong)

/-- 'laws.FnExactWinnerOf': WHATEVER THE INPUT: true; the input reads as it did. -/
def fnExactWinnerOfSpec : ChangeSpec := { name := "fnExactWinnerOf", vars := ["loop.example/g01160/impl.hexSteps"], fn := fun _ => fun
  | [d1, d2, d3, g1] => { results := [.lit (.bool true)], args := [d1, d2, d3], vars := [g1] }
  | _ => none }
def fnExactWinnerOfRow : OpenClaim := { program := "ytcahecohjmahaaadoor", sum := "4dcabaec3ea4027681ba0483eae0d647849fbf574d24ee1ffe9d1780d3ba6b1b", func := "loop.example/g01160/laws.FnExactWinnerOf", spec := "fnExactWinnerOf", unfollowed := true, recurses := true, named := ["loop.example/g01160/impl.hexSteps"], apart := false, laid := [("loop.example/g01160/impl.hexSteps", laid_loop_example_g01160_impl_hexSteps)] }
def FnExactWinnerOfSaid : Prop := fnExactWinnerOfRow.holds Tryd.pinned (OpenSpec.ofChange fnExactWinnerOfSpec)

/-- ITS FALSE NEIGHBOUR: 'it returns false'. Refute it at one input. -/
def fnExactWinnerOfWrong : ChangeSpec := { name := "fnExactWinnerOf", vars := ["loop.example/g01160/impl.hexSteps"], fn := fun _ => fun
  | [d1, d2, d3, g1] => { results := [.lit (.bool false)], args := [d1, d2, d3], vars := [g1] }
  | _ => none }
def FnExactWinnerOfWrongFalsely : Prop := fnExactWinnerOfRow.holds Tryd.pinned (OpenSpec.ofChange fnExactWinnerOfWrong)

/-- 'laws.FnExactLabelsText': WHATEVER THE INPUT: true; the input reads as it did. -/
def fnExactLabelsTextSpec : ChangeSpec := { name := "fnExactLabelsText", fn := fun _ => fun
  | [d1, d2] => { results := [.lit (.bool true)], args := [d1, d2] }
  | _ => none }
def fnExactLabelsTextRow : OpenClaim := { program := "ytcahecohjmahaaadoor", sum := "4dcabaec3ea4027681ba0483eae0d647849fbf574d24ee1ffe9d1780d3ba6b1b", func := "loop.example/g01160/laws.FnExactLabelsText", spec := "fnExactLabelsText", inPlace := ["internal/abi.NoEscape"], recurses := true, named := ["internal/strconv.uint64pow10", "math/bits.deBruijn32tab", "math/bits.deBruijn64tab"], apart := false, laid := [("math/bits.deBruijn32tab", laid_math_bits_deBruijn32tab), ("math/bits.deBruijn64tab", laid_math_bits_deBruijn64tab), ("internal/strconv.uint64pow10", laid_internal_strconv_uint64pow10)] }
def FnExactLabelsTextSaid : Prop := fnExactLabelsTextRow.holds Tryd.pinned (OpenSpec.ofChange fnExactLabelsTextSpec)

/-- ITS FALSE NEIGHBOUR: 'it returns false'. Refute it at one input. -/
def fnExactLabelsTextWrong : ChangeSpec := { name := "fnExactLabelsText", fn := fun _ => fun
  | [d1, d2] => { results := [.lit (.bool false)], args := [d1, d2] }
  | _ => none }
def FnExactLabelsTextWrongFalsely : Prop := fnExactLabelsTextRow.holds Tryd.pinned (OpenSpec.ofChange fnExactLabelsTextWrong)

/-- 'laws.FnOppositeEdgesFound': WHATEVER THE INPUT: true; the input reads as it did. -/
def fnOppositeEdgesFoundSpec : ChangeSpec := { name := "fnOppositeEdgesFound", vars := ["loop.example/g01160/impl.squareSteps"], fn := fun _ => fun
  | [d1, d2, g1] => { results := [.lit (.bool true)], args := [d1, d2], vars := [g1] }
  | _ => none }
def fnOppositeEdgesFoundRow : OpenClaim := { program := "ytcahecohjmahaaadoor", sum := "4dcabaec3ea4027681ba0483eae0d647849fbf574d24ee1ffe9d1780d3ba6b1b", func := "loop.example/g01160/laws.FnOppositeEdgesFound", spec := "fnOppositeEdgesFound", unfollowed := true, recurses := true, named := ["loop.example/g01160/impl.squareSteps"], apart := false, laid := [("loop.example/g01160/impl.squareSteps", laid_loop_example_g01160_impl_squareSteps)] }
def FnOppositeEdgesFoundSaid : Prop := fnOppositeEdgesFoundRow.holds Tryd.pinned (OpenSpec.ofChange fnOppositeEdgesFoundSpec)

/-- ITS FALSE NEIGHBOUR: 'it returns false'. Refute it at one input. -/
def fnOppositeEdgesFoundWrong : ChangeSpec := { name := "fnOppositeEdgesFound", vars := ["loop.example/g01160/impl.squareSteps"], fn := fun _ => fun
  | [d1, d2, g1] => { results := [.lit (.bool false)], args := [d1, d2], vars := [g1] }
  | _ => none }
def FnOppositeEdgesFoundWrongFalsely : Prop := fnOppositeEdgesFoundRow.holds Tryd.pinned (OpenSpec.ofChange fnOppositeEdgesFoundWrong)

/- THE SECOND FORM. 'bulk': how many values and letters a reading holds, each counted each time it is reached (what is shared counts as often as it is met; a slice's spare places count too). A statement '..UptoSaid' is the law's where the arguments, and the package variables that the reading takes, are together of bulk at most 1048576: NARROWER than '..Said'. Prove '..Said' where nothing that the law and all that it calls make is longer than what came in: it says more and counts as full. Else prove '..UptoSaid'. A law counts once. -/
mutual
def uptoBulk {H : Type} : DataW H → Nat
  | .lit (.string bytes) => bytes.length + 1
  | .lit _ => 1
  | .nil => 1
  | .ptr d => uptoBulk d + 1
  | .slice elems spare => uptoBulkAll elems + uptoBulkAll spare + 1
  | .agg parts => uptoBulkAll parts + 1
  | .iface _ d => uptoBulk d + 1
  | .map entries => uptoBulkEntries entries + 1
  | .held _ => 1
def uptoBulkAll {H : Type} : List (DataW H) → Nat
  | [] => 0
  | d :: r => uptoBulk d + uptoBulkAll r
def uptoBulkEntries {H : Type} : List (Lit × DataW H) → Nat
  | [] => 0
  | x :: r => uptoBulkEntry x + uptoBulkEntries r
def uptoBulkEntry {H : Type} : Lit × DataW H → Nat
  | (.string bytes, d) => bytes.length + uptoBulk d + 1
  | (_, d) => uptoBulk d + 1
 end
def uptoSmall : (H : Type) → List (DataW H) → Bool := fun _ ds => decide (uptoBulkAll ds ≤ 1048576)
def OpenSpec.upto (s : _root_.Go.ChangeSpec) : _root_.Go.OpenSpec := { _root_.Go.OpenSpec.ofChange s with cond := some uptoSmall }

/-- 'laws.FnExactOppositeEdges', WHERE WHAT IT READS IS OF BULK AT MOST 1048576: true; the input reads as it did. -/
def fnExactOppositeEdgesUptoRow : OpenClaim := { program := "ytcahecohjmahaaadoor", sum := "4dcabaec3ea4027681ba0483eae0d647849fbf574d24ee1ffe9d1780d3ba6b1b", func := "loop.example/g01160/laws.FnExactOppositeEdges", spec := "fnExactOppositeEdges", unfollowed := true, recurses := true, named := ["loop.example/g01160/impl.squareSteps"], apart := false, laid := [("loop.example/g01160/impl.squareSteps", laid_loop_example_g01160_impl_squareSteps)], narrowed := true }
def FnExactOppositeEdgesUptoSaid : Prop := fnExactOppositeEdgesUptoRow.holds Tryd.pinned (OpenSpec.upto fnExactOppositeEdgesSpec)

/-- 'laws.FnExactHexNear', WHERE WHAT IT READS IS OF BULK AT MOST 1048576: true; the input reads as it did. -/
def fnExactHexNearUptoRow : OpenClaim := { program := "ytcahecohjmahaaadoor", sum := "4dcabaec3ea4027681ba0483eae0d647849fbf574d24ee1ffe9d1780d3ba6b1b", func := "loop.example/g01160/laws.FnExactHexNear", spec := "fnExactHexNear", named := ["loop.example/g01160/impl.hexSteps"], apart := false, laid := [("loop.example/g01160/impl.hexSteps", laid_loop_example_g01160_impl_hexSteps)], narrowed := true }
def FnExactHexNearUptoSaid : Prop := fnExactHexNearUptoRow.holds Tryd.pinned (OpenSpec.upto fnExactHexNearSpec)

/-- 'laws.FnExactNeedOf', WHERE WHAT IT READS IS OF BULK AT MOST 1048576: true; the input reads as it did. -/
def fnExactNeedOfUptoRow : OpenClaim := { program := "ytcahecohjmahaaadoor", sum := "4dcabaec3ea4027681ba0483eae0d647849fbf574d24ee1ffe9d1780d3ba6b1b", func := "loop.example/g01160/laws.FnExactNeedOf", spec := "fnExactNeedOf", unfollowed := true, recurses := true, named := ["loop.example/g01160/impl.hexSteps"], apart := false, laid := [("loop.example/g01160/impl.hexSteps", laid_loop_example_g01160_impl_hexSteps)], narrowed := true }
def FnExactNeedOfUptoSaid : Prop := fnExactNeedOfUptoRow.holds Tryd.pinned (OpenSpec.upto fnExactNeedOfSpec)

/-- 'laws.FnExactHexWalk', WHERE WHAT IT READS IS OF BULK AT MOST 1048576: true; the input reads as it did. -/
def fnExactHexWalkUptoRow : OpenClaim := { program := "ytcahecohjmahaaadoor", sum := "4dcabaec3ea4027681ba0483eae0d647849fbf574d24ee1ffe9d1780d3ba6b1b", func := "loop.example/g01160/laws.FnExactHexWalk", spec := "fnExactHexWalk", unfollowed := true, recurses := true, named := ["loop.example/g01160/impl.hexSteps"], apart := false, laid := [("loop.example/g01160/impl.hexSteps", laid_loop_example_g01160_impl_hexSteps)], narrowed := true }
def FnExactHexWalkUptoSaid : Prop := fnExactHexWalkUptoRow.holds Tryd.pinned (OpenSpec.upto fnExactHexWalkSpec)

/-- 'laws.FnExactWinnerByWalk', WHERE WHAT IT READS IS OF BULK AT MOST 1048576: true; the input reads as it did. -/
def fnExactWinnerByWalkUptoRow : OpenClaim := { program := "ytcahecohjmahaaadoor", sum := "4dcabaec3ea4027681ba0483eae0d647849fbf574d24ee1ffe9d1780d3ba6b1b", func := "loop.example/g01160/laws.FnExactWinnerByWalk", spec := "fnExactWinnerByWalk", unfollowed := true, recurses := true, named := ["loop.example/g01160/impl.hexSteps"], apart := false, laid := [("loop.example/g01160/impl.hexSteps", laid_loop_example_g01160_impl_hexSteps)], narrowed := true }
def FnExactWinnerByWalkUptoSaid : Prop := fnExactWinnerByWalkUptoRow.holds Tryd.pinned (OpenSpec.upto fnExactWinnerByWalkSpec)

/-- 'laws.FnExactHasWon', WHERE WHAT IT READS IS OF BULK AT MOST 1048576: true; the input reads as it did. -/
def fnExactHasWonUptoRow : OpenClaim := { program := "ytcahecohjmahaaadoor", sum := "4dcabaec3ea4027681ba0483eae0d647849fbf574d24ee1ffe9d1780d3ba6b1b", func := "loop.example/g01160/laws.FnExactHasWon", spec := "fnExactHasWon", unfollowed := true, recurses := true, named := ["loop.example/g01160/impl.hexSteps"], apart := false, laid := [("loop.example/g01160/impl.hexSteps", laid_loop_example_g01160_impl_hexSteps)], narrowed := true }
def FnExactHasWonUptoSaid : Prop := fnExactHasWonUptoRow.holds Tryd.pinned (OpenSpec.upto fnExactHasWonSpec)

/-- 'laws.FnExactWinnerOf', WHERE WHAT IT READS IS OF BULK AT MOST 1048576: true; the input reads as it did. -/
def fnExactWinnerOfUptoRow : OpenClaim := { program := "ytcahecohjmahaaadoor", sum := "4dcabaec3ea4027681ba0483eae0d647849fbf574d24ee1ffe9d1780d3ba6b1b", func := "loop.example/g01160/laws.FnExactWinnerOf", spec := "fnExactWinnerOf", unfollowed := true, recurses := true, named := ["loop.example/g01160/impl.hexSteps"], apart := false, laid := [("loop.example/g01160/impl.hexSteps", laid_loop_example_g01160_impl_hexSteps)], narrowed := true }
def FnExactWinnerOfUptoSaid : Prop := fnExactWinnerOfUptoRow.holds Tryd.pinned (OpenSpec.upto fnExactWinnerOfSpec)

/-- 'laws.FnExactLabelsText', WHERE WHAT IT READS IS OF BULK AT MOST 1048576: true; the input reads as it did. -/
def fnExactLabelsTextUptoRow : OpenClaim := { program := "ytcahecohjmahaaadoor", sum := "4dcabaec3ea4027681ba0483eae0d647849fbf574d24ee1ffe9d1780d3ba6b1b", func := "loop.example/g01160/laws.FnExactLabelsText", spec := "fnExactLabelsText", inPlace := ["internal/abi.NoEscape"], recurses := true, named := ["internal/strconv.uint64pow10", "math/bits.deBruijn32tab", "math/bits.deBruijn64tab"], apart := false, laid := [("math/bits.deBruijn32tab", laid_math_bits_deBruijn32tab), ("math/bits.deBruijn64tab", laid_math_bits_deBruijn64tab), ("internal/strconv.uint64pow10", laid_internal_strconv_uint64pow10)], narrowed := true }
def FnExactLabelsTextUptoSaid : Prop := fnExactLabelsTextUptoRow.holds Tryd.pinned (OpenSpec.upto fnExactLabelsTextSpec)

/-- 'laws.FnOppositeEdgesFound', WHERE WHAT IT READS IS OF BULK AT MOST 1048576: true; the input reads as it did. -/
def fnOppositeEdgesFoundUptoRow : OpenClaim := { program := "ytcahecohjmahaaadoor", sum := "4dcabaec3ea4027681ba0483eae0d647849fbf574d24ee1ffe9d1780d3ba6b1b", func := "loop.example/g01160/laws.FnOppositeEdgesFound", spec := "fnOppositeEdgesFound", unfollowed := true, recurses := true, named := ["loop.example/g01160/impl.squareSteps"], apart := false, laid := [("loop.example/g01160/impl.squareSteps", laid_loop_example_g01160_impl_squareSteps)], narrowed := true }
def FnOppositeEdgesFoundUptoSaid : Prop := fnOppositeEdgesFoundUptoRow.holds Tryd.pinned (OpenSpec.upto fnOppositeEdgesFoundSpec)

end Rows
end Go.Proofs.YtcahecohjmahaaaDoor
