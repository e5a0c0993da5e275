/-
  No cell of these rows narrows 'for every input' (looked for: loops, veiled, ifaces, maps, wideKeys, modest, calm, conditions, laid).
  DERIVED. THE GIVEN ROWS OF THIS SEAT. 11 by the template 'for every input the law returns true; each argument reads behind the call as it read before'; 0 by the template 'total and deterministic' (their statements: YtngadmjpjpmeoaaTotals.lean).
  GIVEN WITH THE SEED: the statements are not yours to turn. If you find one false, say at which input.
  Laid BY PROGRAM, IN A SANDBOX (cutbox-rows.mjs): the forced cells as the released guide's own fill.sh prints them over the translation e234a5b179fb6cbf… (all of the seat's roots in one cut). By AI agents, Wed Nov 11 2026. No macro, syntax, notation, axiom, sorry.
-/
import Derived.Test.YtngadmjpjpmeoaaChecked
import GoSem.Claim
import GoSem.ClaimJoined
import GoSem.ClaimMapViews
import Derived.JoinedTies
import Derived.KernelRfl
namespace Go.Proofs.Ytngadmjpjpmeoaa
/- THE CELL 'sum', in the pinned program and in every row, IS THE sha256 OF THE DUMP (.gsa) THAT YtngadmjpjpmeoaaProg.lean LOADS. Nothing in Lean hashes anything: it is a label: what it is worth is what the hold of that sum in a sandbox is worth. -/
noncomputable def Try.pinned : Pinned := { name := "ytngadmjpjpmeoaa", sum := "e234a5b179fb6cbfaaffff02bfe4f60df560a8635a2a3bbcbf7e74af60b04baf", checked := Try.checked }
namespace Rows
def none {H : Type} : Left H := { results := [], args := [] }

/-- 'laws.FnTrianglesAreCut': WHATEVER THE INPUT: true; the input reads as it did. -/
def fnTrianglesAreCutSpec : ChangeSpec := { name := "fnTrianglesAreCut", fn := fun _ => fun
  | [d1, d2] => { results := [.lit (.bool true)], args := [d1, d2] }
  | _ => none }
def fnTrianglesAreCutRow : OpenClaim := { program := "ytngadmjpjpmeoaa", sum := "e234a5b179fb6cbfaaffff02bfe4f60df560a8635a2a3bbcbf7e74af60b04baf", func := "loop.example/g01160/laws.FnTrianglesAreCut", spec := "fnTrianglesAreCut", apart := false }
def FnTrianglesAreCutSaid : Prop := fnTrianglesAreCutRow.holds Try.pinned (OpenSpec.ofChange fnTrianglesAreCutSpec)

/-- ITS FALSE NEIGHBOUR: 'it returns false'. Refute it at one input. -/
def fnTrianglesAreCutWrong : ChangeSpec := { name := "fnTrianglesAreCut", fn := fun _ => fun
  | [d1, d2] => { results := [.lit (.bool false)], args := [d1, d2] }
  | _ => none }
def FnTrianglesAreCutWrongFalsely : Prop := fnTrianglesAreCutRow.holds Try.pinned (OpenSpec.ofChange fnTrianglesAreCutWrong)

/-- 'laws.FnExactCountPoints': WHATEVER THE INPUT: true; the input reads as it did. -/
def fnExactCountPointsSpec : ChangeSpec := { name := "fnExactCountPoints", fn := fun _ => fun
  | [d] => { results := [.lit (.bool true)], args := [d] }
  | _ => none }
def fnExactCountPointsRow : OpenClaim := { program := "ytngadmjpjpmeoaa", sum := "e234a5b179fb6cbfaaffff02bfe4f60df560a8635a2a3bbcbf7e74af60b04baf", func := "loop.example/g01160/laws.FnExactCountPoints", spec := "fnExactCountPoints", apart := false }
def FnExactCountPointsSaid : Prop := fnExactCountPointsRow.holds Try.pinned (OpenSpec.ofChange fnExactCountPointsSpec)

/-- ITS FALSE NEIGHBOUR: 'it returns false'. Refute it at one input. -/
def fnExactCountPointsWrong : ChangeSpec := { name := "fnExactCountPoints", fn := fun _ => fun
  | [d] => { results := [.lit (.bool false)], args := [d] }
  | _ => none }
def FnExactCountPointsWrongFalsely : Prop := fnExactCountPointsRow.holds Try.pinned (OpenSpec.ofChange fnExactCountPointsWrong)

/-- 'laws.FnExactPointAt': WHATEVER THE INPUT: true; the input reads as it did. -/
def fnExactPointAtSpec : ChangeSpec := { name := "fnExactPointAt", fn := fun _ => fun
  | [d1, d2] => { results := [.lit (.bool true)], args := [d1, d2] }
  | _ => none }
def fnExactPointAtRow : OpenClaim := { program := "ytngadmjpjpmeoaa", sum := "e234a5b179fb6cbfaaffff02bfe4f60df560a8635a2a3bbcbf7e74af60b04baf", func := "loop.example/g01160/laws.FnExactPointAt", spec := "fnExactPointAt", apart := false }
def FnExactPointAtSaid : Prop := fnExactPointAtRow.holds Try.pinned (OpenSpec.ofChange fnExactPointAtSpec)

/-- ITS FALSE NEIGHBOUR: 'it returns false'. Refute it at one input. -/
def fnExactPointAtWrong : ChangeSpec := { name := "fnExactPointAt", fn := fun _ => fun
  | [d1, d2] => { results := [.lit (.bool false)], args := [d1, d2] }
  | _ => none }
def FnExactPointAtWrongFalsely : Prop := fnExactPointAtRow.holds Try.pinned (OpenSpec.ofChange fnExactPointAtWrong)

/-- 'laws.FnExactIndexOfPoint': WHATEVER THE INPUT: true; the input reads as it did. -/
def fnExactIndexOfPointSpec : ChangeSpec := { name := "fnExactIndexOfPoint", fn := fun _ => fun
  | [d1, d2] => { results := [.lit (.bool true)], args := [d1, d2] }
  | _ => none }
def fnExactIndexOfPointRow : OpenClaim := { program := "ytngadmjpjpmeoaa", sum := "e234a5b179fb6cbfaaffff02bfe4f60df560a8635a2a3bbcbf7e74af60b04baf", func := "loop.example/g01160/laws.FnExactIndexOfPoint", spec := "fnExactIndexOfPoint", apart := false }
def FnExactIndexOfPointSaid : Prop := fnExactIndexOfPointRow.holds Try.pinned (OpenSpec.ofChange fnExactIndexOfPointSpec)

/-- ITS FALSE NEIGHBOUR: 'it returns false'. Refute it at one input. -/
def fnExactIndexOfPointWrong : ChangeSpec := { name := "fnExactIndexOfPoint", fn := fun _ => fun
  | [d1, d2] => { results := [.lit (.bool false)], args := [d1, d2] }
  | _ => none }
def FnExactIndexOfPointWrongFalsely : Prop := fnExactIndexOfPointRow.holds Try.pinned (OpenSpec.ofChange fnExactIndexOfPointWrong)

/-- 'laws.FnExactNeighboursOf': WHATEVER THE INPUT: true; the input reads as it did. -/
def fnExactNeighboursOfSpec : ChangeSpec := { name := "fnExactNeighboursOf", fn := fun _ => fun
  | [d1, d2] => { results := [.lit (.bool true)], args := [d1, d2] }
  | _ => none }
def fnExactNeighboursOfRow : OpenClaim := { program := "ytngadmjpjpmeoaa", sum := "e234a5b179fb6cbfaaffff02bfe4f60df560a8635a2a3bbcbf7e74af60b04baf", func := "loop.example/g01160/laws.FnExactNeighboursOf", spec := "fnExactNeighboursOf", apart := false }
def FnExactNeighboursOfSaid : Prop := fnExactNeighboursOfRow.holds Try.pinned (OpenSpec.ofChange fnExactNeighboursOfSpec)

/-- ITS FALSE NEIGHBOUR: 'it returns false'. Refute it at one input. -/
def fnExactNeighboursOfWrong : ChangeSpec := { name := "fnExactNeighboursOf", fn := fun _ => fun
  | [d1, d2] => { results := [.lit (.bool false)], args := [d1, d2] }
  | _ => none }
def FnExactNeighboursOfWrongFalsely : Prop := fnExactNeighboursOfRow.holds Try.pinned (OpenSpec.ofChange fnExactNeighboursOfWrong)

/-- 'laws.FnExactCellsOf': WHATEVER THE INPUT: true; the input reads as it did. -/
def fnExactCellsOfSpec : ChangeSpec := { name := "fnExactCellsOf", fn := fun _ => fun
  | [d] => { results := [.lit (.bool true)], args := [d] }
  | _ => none }
def fnExactCellsOfRow : OpenClaim := { program := "ytngadmjpjpmeoaa", sum := "e234a5b179fb6cbfaaffff02bfe4f60df560a8635a2a3bbcbf7e74af60b04baf", func := "loop.example/g01160/laws.FnExactCellsOf", spec := "fnExactCellsOf", apart := false }
def FnExactCellsOfSaid : Prop := fnExactCellsOfRow.holds Try.pinned (OpenSpec.ofChange fnExactCellsOfSpec)

/-- ITS FALSE NEIGHBOUR: 'it returns false'. Refute it at one input. -/
def fnExactCellsOfWrong : ChangeSpec := { name := "fnExactCellsOf", fn := fun _ => fun
  | [d] => { results := [.lit (.bool false)], args := [d] }
  | _ => none }
def FnExactCellsOfWrongFalsely : Prop := fnExactCellsOfRow.holds Try.pinned (OpenSpec.ofChange fnExactCellsOfWrong)

/-- 'laws.FnExactCellsWith': WHATEVER THE INPUT: true; the input reads as it did. -/
def fnExactCellsWithSpec : ChangeSpec := { name := "fnExactCellsWith", fn := fun _ => fun
  | [d1, d2, d3] => { results := [.lit (.bool true)], args := [d1, d2, d3] }
  | _ => none }
def fnExactCellsWithRow : OpenClaim := { program := "ytngadmjpjpmeoaa", sum := "e234a5b179fb6cbfaaffff02bfe4f60df560a8635a2a3bbcbf7e74af60b04baf", func := "loop.example/g01160/laws.FnExactCellsWith", spec := "fnExactCellsWith", apart := false }
def FnExactCellsWithSaid : Prop := fnExactCellsWithRow.holds Try.pinned (OpenSpec.ofChange fnExactCellsWithSpec)

/-- ITS FALSE NEIGHBOUR: 'it returns false'. Refute it at one input. -/
def fnExactCellsWithWrong : ChangeSpec := { name := "fnExactCellsWith", fn := fun _ => fun
  | [d1, d2, d3] => { results := [.lit (.bool false)], args := [d1, d2, d3] }
  | _ => none }
def FnExactCellsWithWrongFalsely : Prop := fnExactCellsWithRow.holds Try.pinned (OpenSpec.ofChange fnExactCellsWithWrong)

/-- 'laws.FnExactIsUpCell': WHATEVER THE INPUT: true; the input reads as it did. -/
def fnExactIsUpCellSpec : ChangeSpec := { name := "fnExactIsUpCell", fn := fun _ => fun
  | [d1, d2] => { results := [.lit (.bool true)], args := [d1, d2] }
  | _ => none }
def fnExactIsUpCellRow : OpenClaim := { program := "ytngadmjpjpmeoaa", sum := "e234a5b179fb6cbfaaffff02bfe4f60df560a8635a2a3bbcbf7e74af60b04baf", func := "loop.example/g01160/laws.FnExactIsUpCell", spec := "fnExactIsUpCell", apart := false }
def FnExactIsUpCellSaid : Prop := fnExactIsUpCellRow.holds Try.pinned (OpenSpec.ofChange fnExactIsUpCellSpec)

/-- ITS FALSE NEIGHBOUR: 'it returns false'. Refute it at one input. -/
def fnExactIsUpCellWrong : ChangeSpec := { name := "fnExactIsUpCell", fn := fun _ => fun
  | [d1, d2] => { results := [.lit (.bool false)], args := [d1, d2] }
  | _ => none }
def FnExactIsUpCellWrongFalsely : Prop := fnExactIsUpCellRow.holds Try.pinned (OpenSpec.ofChange fnExactIsUpCellWrong)

/-- 'laws.FnExactBorderOf': WHATEVER THE INPUT: true; the input reads as it did. -/
def fnExactBorderOfSpec : ChangeSpec := { name := "fnExactBorderOf", fn := fun _ => fun
  | [d] => { results := [.lit (.bool true)], args := [d] }
  | _ => none }
def fnExactBorderOfRow : OpenClaim := { program := "ytngadmjpjpmeoaa", sum := "e234a5b179fb6cbfaaffff02bfe4f60df560a8635a2a3bbcbf7e74af60b04baf", func := "loop.example/g01160/laws.FnExactBorderOf", spec := "fnExactBorderOf", apart := false }
def FnExactBorderOfSaid : Prop := fnExactBorderOfRow.holds Try.pinned (OpenSpec.ofChange fnExactBorderOfSpec)

/-- ITS FALSE NEIGHBOUR: 'it returns false'. Refute it at one input. -/
def fnExactBorderOfWrong : ChangeSpec := { name := "fnExactBorderOf", fn := fun _ => fun
  | [d] => { results := [.lit (.bool false)], args := [d] }
  | _ => none }
def FnExactBorderOfWrongFalsely : Prop := fnExactBorderOfRow.holds Try.pinned (OpenSpec.ofChange fnExactBorderOfWrong)

/-- 'laws.FnExactSidesOf': WHATEVER THE INPUT: true; the input reads as it did. -/
def fnExactSidesOfSpec : ChangeSpec := { name := "fnExactSidesOf", fn := fun _ => fun
  | [d1, d2] => { results := [.lit (.bool true)], args := [d1, d2] }
  | _ => none }
def fnExactSidesOfRow : OpenClaim := { program := "ytngadmjpjpmeoaa", sum := "e234a5b179fb6cbfaaffff02bfe4f60df560a8635a2a3bbcbf7e74af60b04baf", func := "loop.example/g01160/laws.FnExactSidesOf", spec := "fnExactSidesOf", apart := false }
def FnExactSidesOfSaid : Prop := fnExactSidesOfRow.holds Try.pinned (OpenSpec.ofChange fnExactSidesOfSpec)

/-- ITS FALSE NEIGHBOUR: 'it returns false'. Refute it at one input. -/
def fnExactSidesOfWrong : ChangeSpec := { name := "fnExactSidesOf", fn := fun _ => fun
  | [d1, d2] => { results := [.lit (.bool false)], args := [d1, d2] }
  | _ => none }
def FnExactSidesOfWrongFalsely : Prop := fnExactSidesOfRow.holds Try.pinned (OpenSpec.ofChange fnExactSidesOfWrong)

/-- 'laws.FnExactAreLabels': WHATEVER THE INPUT: true; the input reads as it did. -/
def fnExactAreLabelsSpec : ChangeSpec := { name := "fnExactAreLabels", fn := fun _ => fun
  | [d1, d2] => { results := [.lit (.bool true)], args := [d1, d2] }
  | _ => none }
def fnExactAreLabelsRow : OpenClaim := { program := "ytngadmjpjpmeoaa", sum := "e234a5b179fb6cbfaaffff02bfe4f60df560a8635a2a3bbcbf7e74af60b04baf", func := "loop.example/g01160/laws.FnExactAreLabels", spec := "fnExactAreLabels", apart := false }
def FnExactAreLabelsSaid : Prop := fnExactAreLabelsRow.holds Try.pinned (OpenSpec.ofChange fnExactAreLabelsSpec)

/-- ITS FALSE NEIGHBOUR: 'it returns false'. Refute it at one input. -/
def fnExactAreLabelsWrong : ChangeSpec := { name := "fnExactAreLabels", fn := fun _ => fun
  | [d1, d2] => { results := [.lit (.bool false)], args := [d1, d2] }
  | _ => none }
def FnExactAreLabelsWrongFalsely : Prop := fnExactAreLabelsRow.holds Try.pinned (OpenSpec.ofChange fnExactAreLabelsWrong)

/- THE SECOND FORM. 'bulk': how many values and letters a reading holds, each counted each time it is reached (what is shared counts as often as it is met; a slice's spare places count too). A statement '..UptoSaid' is the law's where the arguments, and the package variables that the reading takes, are together of bulk at most 1048576: NARROWER than '..Said'. Prove '..Said' where nothing that the law and all that it calls make is longer than what came in: it says more and counts as full. Else prove '..UptoSaid'. A law counts once. -/
mutual
def uptoBulk {H : Type} : DataW H → Nat
  | .lit (.string bytes) => bytes.length + 1
  | .lit _ => 1
  | .nil => 1
  | .ptr d => uptoBulk d + 1
  | .slice elems spare => uptoBulkAll elems + uptoBulkAll spare + 1
  | .agg parts => uptoBulkAll parts + 1
  | .iface _ d => uptoBulk d + 1
  | .map entries => uptoBulkEntries entries + 1
  | .held _ => 1
def uptoBulkAll {H : Type} : List (DataW H) → Nat
  | [] => 0
  | d :: r => uptoBulk d + uptoBulkAll r
def uptoBulkEntries {H : Type} : List (Lit × DataW H) → Nat
  | [] => 0
  | x :: r => uptoBulkEntry x + uptoBulkEntries r
def uptoBulkEntry {H : Type} : Lit × DataW H → Nat
  | (.string bytes, d) => bytes.length + uptoBulk d + 1
  | (_, d) => uptoBulk d + 1
 end
def uptoSmall : (H : Type) → List (DataW H) → Bool := fun _ ds => decide (uptoBulkAll ds ≤ 1048576)
def OpenSpec.upto (s : _root_.Go.ChangeSpec) : _root_.Go.OpenSpec := { _root_.Go.OpenSpec.ofChange s with cond := some uptoSmall }

/-- 'laws.FnTrianglesAreCut', WHERE WHAT IT READS IS OF BULK AT MOST 1048576: true; the input reads as it did. -/
def fnTrianglesAreCutUptoRow : OpenClaim := { program := "ytngadmjpjpmeoaa", sum := "e234a5b179fb6cbfaaffff02bfe4f60df560a8635a2a3bbcbf7e74af60b04baf", func := "loop.example/g01160/laws.FnTrianglesAreCut", spec := "fnTrianglesAreCut", apart := false, narrowed := true }
def FnTrianglesAreCutUptoSaid : Prop := fnTrianglesAreCutUptoRow.holds Try.pinned (OpenSpec.upto fnTrianglesAreCutSpec)

/-- 'laws.FnExactCountPoints', WHERE WHAT IT READS IS OF BULK AT MOST 1048576: true; the input reads as it did. -/
def fnExactCountPointsUptoRow : OpenClaim := { program := "ytngadmjpjpmeoaa", sum := "e234a5b179fb6cbfaaffff02bfe4f60df560a8635a2a3bbcbf7e74af60b04baf", func := "loop.example/g01160/laws.FnExactCountPoints", spec := "fnExactCountPoints", apart := false, narrowed := true }
def FnExactCountPointsUptoSaid : Prop := fnExactCountPointsUptoRow.holds Try.pinned (OpenSpec.upto fnExactCountPointsSpec)

/-- 'laws.FnExactPointAt', WHERE WHAT IT READS IS OF BULK AT MOST 1048576: true; the input reads as it did. -/
def fnExactPointAtUptoRow : OpenClaim := { program := "ytngadmjpjpmeoaa", sum := "e234a5b179fb6cbfaaffff02bfe4f60df560a8635a2a3bbcbf7e74af60b04baf", func := "loop.example/g01160/laws.FnExactPointAt", spec := "fnExactPointAt", apart := false, narrowed := true }
def FnExactPointAtUptoSaid : Prop := fnExactPointAtUptoRow.holds Try.pinned (OpenSpec.upto fnExactPointAtSpec)

/-- 'laws.FnExactIndexOfPoint', WHERE WHAT IT READS IS OF BULK AT MOST 1048576: true; the input reads as it did. -/
def fnExactIndexOfPointUptoRow : OpenClaim := { program := "ytngadmjpjpmeoaa", sum := "e234a5b179fb6cbfaaffff02bfe4f60df560a8635a2a3bbcbf7e74af60b04baf", func := "loop.example/g01160/laws.FnExactIndexOfPoint", spec := "fnExactIndexOfPoint", apart := false, narrowed := true }
def FnExactIndexOfPointUptoSaid : Prop := fnExactIndexOfPointUptoRow.holds Try.pinned (OpenSpec.upto fnExactIndexOfPointSpec)

/-- 'laws.FnExactNeighboursOf', WHERE WHAT IT READS IS OF BULK AT MOST 1048576: true; the input reads as it did. -/
def fnExactNeighboursOfUptoRow : OpenClaim := { program := "ytngadmjpjpmeoaa", sum := "e234a5b179fb6cbfaaffff02bfe4f60df560a8635a2a3bbcbf7e74af60b04baf", func := "loop.example/g01160/laws.FnExactNeighboursOf", spec := "fnExactNeighboursOf", apart := false, narrowed := true }
def FnExactNeighboursOfUptoSaid : Prop := fnExactNeighboursOfUptoRow.holds Try.pinned (OpenSpec.upto fnExactNeighboursOfSpec)

/-- 'laws.FnExactCellsOf', WHERE WHAT IT READS IS OF BULK AT MOST 1048576: true; the input reads as it did. -/
def fnExactCellsOfUptoRow : OpenClaim := { program := "ytngadmjpjpmeoaa", sum := "e234a5b179fb6cbfaaffff02bfe4f60df560a8635a2a3bbcbf7e74af60b04baf", func := "loop.example/g01160/laws.FnExactCellsOf", spec := "fnExactCellsOf", apart := false, narrowed := true }
def FnExactCellsOfUptoSaid : Prop := fnExactCellsOfUptoRow.holds Try.pinned (OpenSpec.upto fnExactCellsOfSpec)

/-- 'laws.FnExactCellsWith', WHERE WHAT IT READS IS OF BULK AT MOST 1048576: true; the input reads as it did. -/
def fnExactCellsWithUptoRow : OpenClaim := { program := "ytngadmjpjpmeoaa", sum := "e234a5b179fb6cbfaaffff02bfe4f60df560a8635a2a3bbcbf7e74af60b04baf", func := "loop.example/g01160/laws.FnExactCellsWith", spec := "fnExactCellsWith", apart := false, narrowed := true }
def FnExactCellsWithUptoSaid : Prop := fnExactCellsWithUptoRow.holds Try.pinned (OpenSpec.upto fnExactCellsWithSpec)

/-- 'laws.FnExactIsUpCell', WHERE WHAT IT READS IS OF BULK AT MOST 1048576: true; the input reads as it did. -/
def fnExactIsUpCellUptoRow : OpenClaim := { program := "ytngadmjpjpmeoaa", sum := "e234a5b179fb6cbfaaffff02bfe4f60df560a8635a2a3bbcbf7e74af60b04baf", func := "loop.example/g01160/laws.FnExactIsUpCell", spec := "fnExactIsUpCell", apart := false, narrowed := true }
def FnExactIsUpCellUptoSaid : Prop := fnExactIsUpCellUptoRow.holds Try.pinned (OpenSpec.upto fnExactIsUpCellSpec)

/-- 'laws.FnExactBorderOf', WHERE WHAT IT READS IS OF BULK AT MOST 1048576: true; the input reads as it did. -/
def fnExactBorderOfUptoRow : OpenClaim := { program := "ytngadmjpjpmeoaa", sum := "e234a5b179fb6cbfaaffff02bfe4f60df560a8635a2a3bbcbf7e74af60b04baf", func := "loop.example/g01160/laws.FnExactBorderOf", spec := "fnExactBorderOf", apart := false, narrowed := true }
def FnExactBorderOfUptoSaid : Prop := fnExactBorderOfUptoRow.holds Try.pinned (OpenSpec.upto fnExactBorderOfSpec)

/-- 'laws.FnExactSidesOf', WHERE WHAT IT READS IS OF BULK AT MOST 1048576: true; the input reads as it did. -/
def fnExactSidesOfUptoRow : OpenClaim := { program := "ytngadmjpjpmeoaa", sum := "e234a5b179fb6cbfaaffff02bfe4f60df560a8635a2a3bbcbf7e74af60b04baf", func := "loop.example/g01160/laws.FnExactSidesOf", spec := "fnExactSidesOf", apart := false, narrowed := true }
def FnExactSidesOfUptoSaid : Prop := fnExactSidesOfUptoRow.holds Try.pinned (OpenSpec.upto fnExactSidesOfSpec)

/-- 'laws.FnExactAreLabels', WHERE WHAT IT READS IS OF BULK AT MOST 1048576: true; the input reads as it did. -/
def fnExactAreLabelsUptoRow : OpenClaim := { program := "ytngadmjpjpmeoaa", sum := "e234a5b179fb6cbfaaffff02bfe4f60df560a8635a2a3bbcbf7e74af60b04baf", func := "loop.example/g01160/laws.FnExactAreLabels", spec := "fnExactAreLabels", apart := false, narrowed := true }
def FnExactAreLabelsUptoSaid : Prop := fnExactAreLabelsUptoRow.holds Try.pinned (OpenSpec.upto fnExactAreLabelsSpec)

end Rows
end Go.Proofs.Ytngadmjpjpmeoaa
