/-
  No cell of these rows narrows 'for every input' (looked for: loops, veiled, ifaces, maps, wideKeys, modest, calm, conditions, laid).
  DERIVED. THE GIVEN ROWS OF THIS SEAT. 12 by the template 'for every input the law returns true; each argument reads behind the call as it read before'; 0 by the template 'total and deterministic' (their statements: YtelchpdlfedleaaTotals.lean).
  GIVEN WITH THE SEED: the statements are not yours to turn. If you find one false, say at which input.
  Laid BY PROGRAM, IN A SANDBOX (cutbox-rows.mjs): the forced cells as the released guide's own fill.sh prints them over the translation 4e7af695e47f1ec2… (all of the seat's roots in one cut). By AI agents, Wed Nov 11 2026. No macro, syntax, notation, axiom, sorry.
-/
import Derived.Test.YtelchpdlfedleaaChecked
import GoSem.Claim
import GoSem.ClaimJoined
import GoSem.ClaimMapViews
import Derived.JoinedTies
import Derived.KernelRfl
namespace Go.Proofs.Ytelchpdlfedleaa
/- THE CELL 'sum', in the pinned program and in every row, IS THE sha256 OF THE DUMP (.gsa) THAT YtelchpdlfedleaaProg.lean LOADS. Nothing in Lean hashes anything: it is a label: what it is worth is what the hold of that sum in a sandbox is worth. -/
noncomputable def Try.pinned : Pinned := { name := "ytelchpdlfedleaa", sum := "4e7af695e47f1ec2650f3ec5c34293969dda31d63529ab4bc3650960b40f4e22", checked := Try.checked }
namespace Rows
def none {H : Type} : Left H := { results := [], args := [] }

/-- 'laws.FnExactAreImages': WHATEVER THE INPUT: true; the input reads as it did. -/
def fnExactAreImagesSpec : ChangeSpec := { name := "fnExactAreImages", fn := fun _ => fun
  | [d1, d2] => { results := [.lit (.bool true)], args := [d1, d2] }
  | _ => none }
def fnExactAreImagesRow : OpenClaim := { program := "ytelchpdlfedleaa", sum := "4e7af695e47f1ec2650f3ec5c34293969dda31d63529ab4bc3650960b40f4e22", func := "loop.example/g01160/laws.FnExactAreImages", spec := "fnExactAreImages", apart := false }
def FnExactAreImagesSaid : Prop := fnExactAreImagesRow.holds Try.pinned (OpenSpec.ofChange fnExactAreImagesSpec)

/-- ITS FALSE NEIGHBOUR: 'it returns false'. Refute it at one input. -/
def fnExactAreImagesWrong : ChangeSpec := { name := "fnExactAreImages", fn := fun _ => fun
  | [d1, d2] => { results := [.lit (.bool false)], args := [d1, d2] }
  | _ => none }
def FnExactAreImagesWrongFalsely : Prop := fnExactAreImagesRow.holds Try.pinned (OpenSpec.ofChange fnExactAreImagesWrong)

/-- 'laws.FnExactMapLabels': WHATEVER THE INPUT: true; the input reads as it did. -/
def fnExactMapLabelsSpec : ChangeSpec := { name := "fnExactMapLabels", fn := fun _ => fun
  | [d1, d2] => { results := [.lit (.bool true)], args := [d1, d2] }
  | _ => none }
def fnExactMapLabelsRow : OpenClaim := { program := "ytelchpdlfedleaa", sum := "4e7af695e47f1ec2650f3ec5c34293969dda31d63529ab4bc3650960b40f4e22", func := "loop.example/g01160/laws.FnExactMapLabels", spec := "fnExactMapLabels", unfollowed := true, recurses := true, apart := false }
def FnExactMapLabelsSaid : Prop := fnExactMapLabelsRow.holds Try.pinned (OpenSpec.ofChange fnExactMapLabelsSpec)

/-- ITS FALSE NEIGHBOUR: 'it returns false'. Refute it at one input. -/
def fnExactMapLabelsWrong : ChangeSpec := { name := "fnExactMapLabels", fn := fun _ => fun
  | [d1, d2] => { results := [.lit (.bool false)], args := [d1, d2] }
  | _ => none }
def FnExactMapLabelsWrongFalsely : Prop := fnExactMapLabelsRow.holds Try.pinned (OpenSpec.ofChange fnExactMapLabelsWrong)

/-- 'laws.FnExactFullOfMap': WHATEVER THE INPUT: true; the input reads as it did. -/
def fnExactFullOfMapSpec : ChangeSpec := { name := "fnExactFullOfMap", fn := fun _ => fun
  | [d1, d2] => { results := [.lit (.bool true)], args := [d1, d2] }
  | _ => none }
def fnExactFullOfMapRow : OpenClaim := { program := "ytelchpdlfedleaa", sum := "4e7af695e47f1ec2650f3ec5c34293969dda31d63529ab4bc3650960b40f4e22", func := "loop.example/g01160/laws.FnExactFullOfMap", spec := "fnExactFullOfMap", unfollowed := true, recurses := true, apart := false }
def FnExactFullOfMapSaid : Prop := fnExactFullOfMapRow.holds Try.pinned (OpenSpec.ofChange fnExactFullOfMapSpec)

/-- ITS FALSE NEIGHBOUR: 'it returns false'. Refute it at one input. -/
def fnExactFullOfMapWrong : ChangeSpec := { name := "fnExactFullOfMap", fn := fun _ => fun
  | [d1, d2] => { results := [.lit (.bool false)], args := [d1, d2] }
  | _ => none }
def FnExactFullOfMapWrongFalsely : Prop := fnExactFullOfMapRow.holds Try.pinned (OpenSpec.ofChange fnExactFullOfMapWrong)

/-- 'laws.FnExactMovesOf': WHATEVER THE INPUT: true; the input reads as it did. -/
def fnExactMovesOfSpec : ChangeSpec := { name := "fnExactMovesOf", fn := fun _ => fun
  | [d1, d2, d3] => { results := [.lit (.bool true)], args := [d1, d2, d3] }
  | _ => none }
def fnExactMovesOfRow : OpenClaim := { program := "ytelchpdlfedleaa", sum := "4e7af695e47f1ec2650f3ec5c34293969dda31d63529ab4bc3650960b40f4e22", func := "loop.example/g01160/laws.FnExactMovesOf", spec := "fnExactMovesOf", unfollowed := true, recurses := true, apart := false }
def FnExactMovesOfSaid : Prop := fnExactMovesOfRow.holds Try.pinned (OpenSpec.ofChange fnExactMovesOfSpec)

/-- ITS FALSE NEIGHBOUR: 'it returns false'. Refute it at one input. -/
def fnExactMovesOfWrong : ChangeSpec := { name := "fnExactMovesOf", fn := fun _ => fun
  | [d1, d2, d3] => { results := [.lit (.bool false)], args := [d1, d2, d3] }
  | _ => none }
def FnExactMovesOfWrongFalsely : Prop := fnExactMovesOfRow.holds Try.pinned (OpenSpec.ofChange fnExactMovesOfWrong)

/-- 'laws.FnExactAreasOf': WHATEVER THE INPUT: true; the input reads as it did. -/
def fnExactAreasOfSpec : ChangeSpec := { name := "fnExactAreasOf", fn := fun _ => fun
  | [d1, d2, d3] => { results := [.lit (.bool true)], args := [d1, d2, d3] }
  | _ => none }
def fnExactAreasOfRow : OpenClaim := { program := "ytelchpdlfedleaa", sum := "4e7af695e47f1ec2650f3ec5c34293969dda31d63529ab4bc3650960b40f4e22", func := "loop.example/g01160/laws.FnExactAreasOf", spec := "fnExactAreasOf", unfollowed := true, recurses := true, apart := false }
def FnExactAreasOfSaid : Prop := fnExactAreasOfRow.holds Try.pinned (OpenSpec.ofChange fnExactAreasOfSpec)

/-- ITS FALSE NEIGHBOUR: 'it returns false'. Refute it at one input. -/
def fnExactAreasOfWrong : ChangeSpec := { name := "fnExactAreasOf", fn := fun _ => fun
  | [d1, d2, d3] => { results := [.lit (.bool false)], args := [d1, d2, d3] }
  | _ => none }
def FnExactAreasOfWrongFalsely : Prop := fnExactAreasOfRow.holds Try.pinned (OpenSpec.ofChange fnExactAreasOfWrong)

/-- 'laws.FnExactWeightsIn': WHATEVER THE INPUT: true; the input reads as it did. -/
def fnExactWeightsInSpec : ChangeSpec := { name := "fnExactWeightsIn", fn := fun _ => fun
  | [d1, d2, d3] => { results := [.lit (.bool true)], args := [d1, d2, d3] }
  | _ => none }
def fnExactWeightsInRow : OpenClaim := { program := "ytelchpdlfedleaa", sum := "4e7af695e47f1ec2650f3ec5c34293969dda31d63529ab4bc3650960b40f4e22", func := "loop.example/g01160/laws.FnExactWeightsIn", spec := "fnExactWeightsIn", unfollowed := true, recurses := true, apart := false }
def FnExactWeightsInSaid : Prop := fnExactWeightsInRow.holds Try.pinned (OpenSpec.ofChange fnExactWeightsInSpec)

/-- ITS FALSE NEIGHBOUR: 'it returns false'. Refute it at one input. -/
def fnExactWeightsInWrong : ChangeSpec := { name := "fnExactWeightsIn", fn := fun _ => fun
  | [d1, d2, d3] => { results := [.lit (.bool false)], args := [d1, d2, d3] }
  | _ => none }
def FnExactWeightsInWrongFalsely : Prop := fnExactWeightsInRow.holds Try.pinned (OpenSpec.ofChange fnExactWeightsInWrong)

/-- 'laws.FnExactSignIn': WHATEVER THE INPUT: true; the input reads as it did. -/
def fnExactSignInSpec : ChangeSpec := { name := "fnExactSignIn", fn := fun _ => fun
  | [d1, d2, d3] => { results := [.lit (.bool true)], args := [d1, d2, d3] }
  | _ => none }
def fnExactSignInRow : OpenClaim := { program := "ytelchpdlfedleaa", sum := "4e7af695e47f1ec2650f3ec5c34293969dda31d63529ab4bc3650960b40f4e22", func := "loop.example/g01160/laws.FnExactSignIn", spec := "fnExactSignIn", unfollowed := true, recurses := true, apart := false }
def FnExactSignInSaid : Prop := fnExactSignInRow.holds Try.pinned (OpenSpec.ofChange fnExactSignInSpec)

/-- ITS FALSE NEIGHBOUR: 'it returns false'. Refute it at one input. -/
def fnExactSignInWrong : ChangeSpec := { name := "fnExactSignIn", fn := fun _ => fun
  | [d1, d2, d3] => { results := [.lit (.bool false)], args := [d1, d2, d3] }
  | _ => none }
def FnExactSignInWrongFalsely : Prop := fnExactSignInRow.holds Try.pinned (OpenSpec.ofChange fnExactSignInWrong)

/-- 'laws.FnExactIsRegular': WHATEVER THE INPUT: true; the input reads as it did. -/
def fnExactIsRegularSpec : ChangeSpec := { name := "fnExactIsRegular", fn := fun _ => fun
  | [d1, d2] => { results := [.lit (.bool true)], args := [d1, d2] }
  | _ => none }
def fnExactIsRegularRow : OpenClaim := { program := "ytelchpdlfedleaa", sum := "4e7af695e47f1ec2650f3ec5c34293969dda31d63529ab4bc3650960b40f4e22", func := "loop.example/g01160/laws.FnExactIsRegular", spec := "fnExactIsRegular", unfollowed := true, recurses := true, apart := false }
def FnExactIsRegularSaid : Prop := fnExactIsRegularRow.holds Try.pinned (OpenSpec.ofChange fnExactIsRegularSpec)

/-- ITS FALSE NEIGHBOUR: 'it returns false'. Refute it at one input. -/
def fnExactIsRegularWrong : ChangeSpec := { name := "fnExactIsRegular", fn := fun _ => fun
  | [d1, d2] => { results := [.lit (.bool false)], args := [d1, d2] }
  | _ => none }
def FnExactIsRegularWrongFalsely : Prop := fnExactIsRegularRow.holds Try.pinned (OpenSpec.ofChange fnExactIsRegularWrong)

/-- 'laws.FnExactFixedPoints': WHATEVER THE INPUT: true; the input reads as it did. -/
def fnExactFixedPointsSpec : ChangeSpec := { name := "fnExactFixedPoints", fn := fun _ => fun
  | [d1, d2] => { results := [.lit (.bool true)], args := [d1, d2] }
  | _ => none }
def fnExactFixedPointsRow : OpenClaim := { program := "ytelchpdlfedleaa", sum := "4e7af695e47f1ec2650f3ec5c34293969dda31d63529ab4bc3650960b40f4e22", func := "loop.example/g01160/laws.FnExactFixedPoints", spec := "fnExactFixedPoints", unfollowed := true, recurses := true, apart := false }
def FnExactFixedPointsSaid : Prop := fnExactFixedPointsRow.holds Try.pinned (OpenSpec.ofChange fnExactFixedPointsSpec)

/-- ITS FALSE NEIGHBOUR: 'it returns false'. Refute it at one input. -/
def fnExactFixedPointsWrong : ChangeSpec := { name := "fnExactFixedPoints", fn := fun _ => fun
  | [d1, d2] => { results := [.lit (.bool false)], args := [d1, d2] }
  | _ => none }
def FnExactFixedPointsWrongFalsely : Prop := fnExactFixedPointsRow.holds Try.pinned (OpenSpec.ofChange fnExactFixedPointsWrong)

/-- 'laws.FnExactSignsOfFixed': WHATEVER THE INPUT: true; the input reads as it did. -/
def fnExactSignsOfFixedSpec : ChangeSpec := { name := "fnExactSignsOfFixed", fn := fun _ => fun
  | [d1, d2] => { results := [.lit (.bool true)], args := [d1, d2] }
  | _ => none }
def fnExactSignsOfFixedRow : OpenClaim := { program := "ytelchpdlfedleaa", sum := "4e7af695e47f1ec2650f3ec5c34293969dda31d63529ab4bc3650960b40f4e22", func := "loop.example/g01160/laws.FnExactSignsOfFixed", spec := "fnExactSignsOfFixed", unfollowed := true, recurses := true, apart := false }
def FnExactSignsOfFixedSaid : Prop := fnExactSignsOfFixedRow.holds Try.pinned (OpenSpec.ofChange fnExactSignsOfFixedSpec)

/-- ITS FALSE NEIGHBOUR: 'it returns false'. Refute it at one input. -/
def fnExactSignsOfFixedWrong : ChangeSpec := { name := "fnExactSignsOfFixed", fn := fun _ => fun
  | [d1, d2] => { results := [.lit (.bool false)], args := [d1, d2] }
  | _ => none }
def FnExactSignsOfFixedWrongFalsely : Prop := fnExactSignsOfFixedRow.holds Try.pinned (OpenSpec.ofChange fnExactSignsOfFixedWrong)

/-- 'laws.FnExactPointOfWeights': WHATEVER THE INPUT: true; the input reads as it did. -/
def fnExactPointOfWeightsSpec : ChangeSpec := { name := "fnExactPointOfWeights", fn := fun _ => fun
  | [d1, d2, d3] => { results := [.lit (.bool true)], args := [d1, d2, d3] }
  | _ => none }
def fnExactPointOfWeightsRow : OpenClaim := { program := "ytelchpdlfedleaa", sum := "4e7af695e47f1ec2650f3ec5c34293969dda31d63529ab4bc3650960b40f4e22", func := "loop.example/g01160/laws.FnExactPointOfWeights", spec := "fnExactPointOfWeights", unfollowed := true, recurses := true, apart := false }
def FnExactPointOfWeightsSaid : Prop := fnExactPointOfWeightsRow.holds Try.pinned (OpenSpec.ofChange fnExactPointOfWeightsSpec)

/-- ITS FALSE NEIGHBOUR: 'it returns false'. Refute it at one input. -/
def fnExactPointOfWeightsWrong : ChangeSpec := { name := "fnExactPointOfWeights", fn := fun _ => fun
  | [d1, d2, d3] => { results := [.lit (.bool false)], args := [d1, d2, d3] }
  | _ => none }
def FnExactPointOfWeightsWrongFalsely : Prop := fnExactPointOfWeightsRow.holds Try.pinned (OpenSpec.ofChange fnExactPointOfWeightsWrong)

/-- 'laws.FnExactImageOfWeights': WHATEVER THE INPUT: true; the input reads as it did. -/
def fnExactImageOfWeightsSpec : ChangeSpec := { name := "fnExactImageOfWeights", fn := fun _ => fun
  | [d1, d2, d3, d4] => { results := [.lit (.bool true)], args := [d1, d2, d3, d4] }
  | _ => none }
def fnExactImageOfWeightsRow : OpenClaim := { program := "ytelchpdlfedleaa", sum := "4e7af695e47f1ec2650f3ec5c34293969dda31d63529ab4bc3650960b40f4e22", func := "loop.example/g01160/laws.FnExactImageOfWeights", spec := "fnExactImageOfWeights", unfollowed := true, recurses := true, apart := false }
def FnExactImageOfWeightsSaid : Prop := fnExactImageOfWeightsRow.holds Try.pinned (OpenSpec.ofChange fnExactImageOfWeightsSpec)

/-- ITS FALSE NEIGHBOUR: 'it returns false'. Refute it at one input. -/
def fnExactImageOfWeightsWrong : ChangeSpec := { name := "fnExactImageOfWeights", fn := fun _ => fun
  | [d1, d2, d3, d4] => { results := [.lit (.bool false)], args := [d1, d2, d3, d4] }
  | _ => none }
def FnExactImageOfWeightsWrongFalsely : Prop := fnExactImageOfWeightsRow.holds Try.pinned (OpenSpec.ofChange fnExactImageOfWeightsWrong)

/- THE SECOND FORM. 'bulk': how many values and letters a reading holds, each counted each time it is reached (what is shared counts as often as it is met; a slice's spare places count too). A statement '..UptoSaid' is the law's where the arguments, and the package variables that the reading takes, are together of bulk at most 1048576: NARROWER than '..Said'. Prove '..Said' where nothing that the law and all that it calls make is longer than what came in: it says more and counts as full. Else prove '..UptoSaid'. A law counts once. -/
mutual
def uptoBulk {H : Type} : DataW H → Nat
  | .lit (.string bytes) => bytes.length + 1
  | .lit _ => 1
  | .nil => 1
  | .ptr d => uptoBulk d + 1
  | .slice elems spare => uptoBulkAll elems + uptoBulkAll spare + 1
  | .agg parts => uptoBulkAll parts + 1
  | .iface _ d => uptoBulk d + 1
  | .map entries => uptoBulkEntries entries + 1
  | .held _ => 1
def uptoBulkAll {H : Type} : List (DataW H) → Nat
  | [] => 0
  | d :: r => uptoBulk d + uptoBulkAll r
def uptoBulkEntries {H : Type} : List (Lit × DataW H) → Nat
  | [] => 0
  | x :: r => uptoBulkEntry x + uptoBulkEntries r
def uptoBulkEntry {H : Type} : Lit × DataW H → Nat
  | (.string bytes, d) => bytes.length + uptoBulk d + 1
  | (_, d) => uptoBulk d + 1
 end
def uptoSmall : (H : Type) → List (DataW H) → Bool := fun _ ds => decide (uptoBulkAll ds ≤ 1048576)
def OpenSpec.upto (s : _root_.Go.ChangeSpec) : _root_.Go.OpenSpec := { _root_.Go.OpenSpec.ofChange s with cond := some uptoSmall }

/-- 'laws.FnExactAreImages', WHERE WHAT IT READS IS OF BULK AT MOST 1048576: true; the input reads as it did. -/
def fnExactAreImagesUptoRow : OpenClaim := { program := "ytelchpdlfedleaa", sum := "4e7af695e47f1ec2650f3ec5c34293969dda31d63529ab4bc3650960b40f4e22", func := "loop.example/g01160/laws.FnExactAreImages", spec := "fnExactAreImages", apart := false, narrowed := true }
def FnExactAreImagesUptoSaid : Prop := fnExactAreImagesUptoRow.holds Try.pinned (OpenSpec.upto fnExactAreImagesSpec)

/-- 'laws.FnExactMapLabels', WHERE WHAT IT READS IS OF BULK AT MOST 1048576: true; the input reads as it did. -/
def fnExactMapLabelsUptoRow : OpenClaim := { program := "ytelchpdlfedleaa", sum := "4e7af695e47f1ec2650f3ec5c34293969dda31d63529ab4bc3650960b40f4e22", func := "loop.example/g01160/laws.FnExactMapLabels", spec := "fnExactMapLabels", unfollowed := true, recurses := true, apart := false, narrowed := true }
def FnExactMapLabelsUptoSaid : Prop := fnExactMapLabelsUptoRow.holds Try.pinned (OpenSpec.upto fnExactMapLabelsSpec)

/-- 'laws.FnExactFullOfMap', WHERE WHAT IT READS IS OF BULK AT MOST 1048576: true; the input reads as it did. -/
def fnExactFullOfMapUptoRow : OpenClaim := { program := "ytelchpdlfedleaa", sum := "4e7af695e47f1ec2650f3ec5c34293969dda31d63529ab4bc3650960b40f4e22", func := "loop.example/g01160/laws.FnExactFullOfMap", spec := "fnExactFullOfMap", unfollowed := true, recurses := true, apart := false, narrowed := true }
def FnExactFullOfMapUptoSaid : Prop := fnExactFullOfMapUptoRow.holds Try.pinned (OpenSpec.upto fnExactFullOfMapSpec)

/-- 'laws.FnExactMovesOf', WHERE WHAT IT READS IS OF BULK AT MOST 1048576: true; the input reads as it did. -/
def fnExactMovesOfUptoRow : OpenClaim := { program := "ytelchpdlfedleaa", sum := "4e7af695e47f1ec2650f3ec5c34293969dda31d63529ab4bc3650960b40f4e22", func := "loop.example/g01160/laws.FnExactMovesOf", spec := "fnExactMovesOf", unfollowed := true, recurses := true, apart := false, narrowed := true }
def FnExactMovesOfUptoSaid : Prop := fnExactMovesOfUptoRow.holds Try.pinned (OpenSpec.upto fnExactMovesOfSpec)

/-- 'laws.FnExactAreasOf', WHERE WHAT IT READS IS OF BULK AT MOST 1048576: true; the input reads as it did. -/
def fnExactAreasOfUptoRow : OpenClaim := { program := "ytelchpdlfedleaa", sum := "4e7af695e47f1ec2650f3ec5c34293969dda31d63529ab4bc3650960b40f4e22", func := "loop.example/g01160/laws.FnExactAreasOf", spec := "fnExactAreasOf", unfollowed := true, recurses := true, apart := false, narrowed := true }
def FnExactAreasOfUptoSaid : Prop := fnExactAreasOfUptoRow.holds Try.pinned (OpenSpec.upto fnExactAreasOfSpec)

/-- 'laws.FnExactWeightsIn', WHERE WHAT IT READS IS OF BULK AT MOST 1048576: true; the input reads as it did. -/
def fnExactWeightsInUptoRow : OpenClaim := { program := "ytelchpdlfedleaa", sum := "4e7af695e47f1ec2650f3ec5c34293969dda31d63529ab4bc3650960b40f4e22", func := "loop.example/g01160/laws.FnExactWeightsIn", spec := "fnExactWeightsIn", unfollowed := true, recurses := true, apart := false, narrowed := true }
def FnExactWeightsInUptoSaid : Prop := fnExactWeightsInUptoRow.holds Try.pinned (OpenSpec.upto fnExactWeightsInSpec)

/-- 'laws.FnExactSignIn', WHERE WHAT IT READS IS OF BULK AT MOST 1048576: true; the input reads as it did. -/
def fnExactSignInUptoRow : OpenClaim := { program := "ytelchpdlfedleaa", sum := "4e7af695e47f1ec2650f3ec5c34293969dda31d63529ab4bc3650960b40f4e22", func := "loop.example/g01160/laws.FnExactSignIn", spec := "fnExactSignIn", unfollowed := true, recurses := true, apart := false, narrowed := true }
def FnExactSignInUptoSaid : Prop := fnExactSignInUptoRow.holds Try.pinned (OpenSpec.upto fnExactSignInSpec)

/-- 'laws.FnExactIsRegular', WHERE WHAT IT READS IS OF BULK AT MOST 1048576: true; the input reads as it did. -/
def fnExactIsRegularUptoRow : OpenClaim := { program := "ytelchpdlfedleaa", sum := "4e7af695e47f1ec2650f3ec5c34293969dda31d63529ab4bc3650960b40f4e22", func := "loop.example/g01160/laws.FnExactIsRegular", spec := "fnExactIsRegular", unfollowed := true, recurses := true, apart := false, narrowed := true }
def FnExactIsRegularUptoSaid : Prop := fnExactIsRegularUptoRow.holds Try.pinned (OpenSpec.upto fnExactIsRegularSpec)

/-- 'laws.FnExactFixedPoints', WHERE WHAT IT READS IS OF BULK AT MOST 1048576: true; the input reads as it did. -/
def fnExactFixedPointsUptoRow : OpenClaim := { program := "ytelchpdlfedleaa", sum := "4e7af695e47f1ec2650f3ec5c34293969dda31d63529ab4bc3650960b40f4e22", func := "loop.example/g01160/laws.FnExactFixedPoints", spec := "fnExactFixedPoints", unfollowed := true, recurses := true, apart := false, narrowed := true }
def FnExactFixedPointsUptoSaid : Prop := fnExactFixedPointsUptoRow.holds Try.pinned (OpenSpec.upto fnExactFixedPointsSpec)

/-- 'laws.FnExactSignsOfFixed', WHERE WHAT IT READS IS OF BULK AT MOST 1048576: true; the input reads as it did. -/
def fnExactSignsOfFixedUptoRow : OpenClaim := { program := "ytelchpdlfedleaa", sum := "4e7af695e47f1ec2650f3ec5c34293969dda31d63529ab4bc3650960b40f4e22", func := "loop.example/g01160/laws.FnExactSignsOfFixed", spec := "fnExactSignsOfFixed", unfollowed := true, recurses := true, apart := false, narrowed := true }
def FnExactSignsOfFixedUptoSaid : Prop := fnExactSignsOfFixedUptoRow.holds Try.pinned (OpenSpec.upto fnExactSignsOfFixedSpec)

/-- 'laws.FnExactPointOfWeights', WHERE WHAT IT READS IS OF BULK AT MOST 1048576: true; the input reads as it did. -/
def fnExactPointOfWeightsUptoRow : OpenClaim := { program := "ytelchpdlfedleaa", sum := "4e7af695e47f1ec2650f3ec5c34293969dda31d63529ab4bc3650960b40f4e22", func := "loop.example/g01160/laws.FnExactPointOfWeights", spec := "fnExactPointOfWeights", unfollowed := true, recurses := true, apart := false, narrowed := true }
def FnExactPointOfWeightsUptoSaid : Prop := fnExactPointOfWeightsUptoRow.holds Try.pinned (OpenSpec.upto fnExactPointOfWeightsSpec)

/-- 'laws.FnExactImageOfWeights', WHERE WHAT IT READS IS OF BULK AT MOST 1048576: true; the input reads as it did. -/
def fnExactImageOfWeightsUptoRow : OpenClaim := { program := "ytelchpdlfedleaa", sum := "4e7af695e47f1ec2650f3ec5c34293969dda31d63529ab4bc3650960b40f4e22", func := "loop.example/g01160/laws.FnExactImageOfWeights", spec := "fnExactImageOfWeights", unfollowed := true, recurses := true, apart := false, narrowed := true }
def FnExactImageOfWeightsUptoSaid : Prop := fnExactImageOfWeightsUptoRow.holds Try.pinned (OpenSpec.upto fnExactImageOfWeightsSpec)

end Rows
end Go.Proofs.Ytelchpdlfedleaa
