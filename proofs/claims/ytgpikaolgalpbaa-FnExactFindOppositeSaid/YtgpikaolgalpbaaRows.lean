/-
  No cell of these rows narrows 'for every input' (looked for: loops, veiled, ifaces, maps, wideKeys, modest, calm, conditions, laid).
  DERIVED. THE GIVEN ROWS OF THIS SEAT. 12 by the template 'for every input the law returns true; each argument reads behind the call as it read before'; 0 by the template 'total and deterministic' (their statements: YtgpikaolgalpbaaTotals.lean).
  GIVEN WITH THE SEED: the statements are not yours to turn. If you find one false, say at which input.
  Laid BY PROGRAM, IN A SANDBOX (cutbox-rows.mjs): the forced cells as the released guide's own fill.sh prints them over the translation 7d54ff8a0c305e89… (all of the seat's roots in one cut). By AI agents, Wed Nov 11 2026. No macro, syntax, notation, axiom, sorry.
-/
import Derived.Test.YtgpikaolgalpbaaChecked
import GoSem.Claim
import GoSem.ClaimJoined
import GoSem.ClaimMapViews
import Derived.JoinedTies
import Derived.KernelRfl
namespace Go.Proofs.Ytgpikaolgalpbaa
/- THE CELL 'sum', in the pinned program and in every row, IS THE sha256 OF THE DUMP (.gsa) THAT YtgpikaolgalpbaaProg.lean LOADS. Nothing in Lean hashes anything: it is a label: what it is worth is what the hold of that sum in a sandbox is worth. -/
noncomputable def Try.pinned : Pinned := { name := "ytgpikaolgalpbaa", sum := "7d54ff8a0c305e89df1ebde95e57eb96442d7e3d2bbd94135774b461ee7390a9", checked := Try.checked }
namespace Rows
def none {H : Type} : Left H := { results := [], args := [] }

/-- 'laws.FnExactCountSquare': WHATEVER THE INPUT: true; the input reads as it did. -/
def fnExactCountSquareSpec : ChangeSpec := { name := "fnExactCountSquare", fn := fun _ => fun
  | [d] => { results := [.lit (.bool true)], args := [d] }
  | _ => none }
def fnExactCountSquareRow : OpenClaim := { program := "ytgpikaolgalpbaa", sum := "7d54ff8a0c305e89df1ebde95e57eb96442d7e3d2bbd94135774b461ee7390a9", func := "loop.example/g01160/laws.FnExactCountSquare", spec := "fnExactCountSquare", apart := false }
def FnExactCountSquareSaid : Prop := fnExactCountSquareRow.holds Try.pinned (OpenSpec.ofChange fnExactCountSquareSpec)

/-- ITS FALSE NEIGHBOUR: 'it returns false'. Refute it at one input. -/
def fnExactCountSquareWrong : ChangeSpec := { name := "fnExactCountSquare", fn := fun _ => fun
  | [d] => { results := [.lit (.bool false)], args := [d] }
  | _ => none }
def FnExactCountSquareWrongFalsely : Prop := fnExactCountSquareRow.holds Try.pinned (OpenSpec.ofChange fnExactCountSquareWrong)

/-- 'laws.FnExactSquareAt': WHATEVER THE INPUT: true; the input reads as it did. -/
def fnExactSquareAtSpec : ChangeSpec := { name := "fnExactSquareAt", fn := fun _ => fun
  | [d1, d2] => { results := [.lit (.bool true)], args := [d1, d2] }
  | _ => none }
def fnExactSquareAtRow : OpenClaim := { program := "ytgpikaolgalpbaa", sum := "7d54ff8a0c305e89df1ebde95e57eb96442d7e3d2bbd94135774b461ee7390a9", func := "loop.example/g01160/laws.FnExactSquareAt", spec := "fnExactSquareAt", apart := false }
def FnExactSquareAtSaid : Prop := fnExactSquareAtRow.holds Try.pinned (OpenSpec.ofChange fnExactSquareAtSpec)

/-- ITS FALSE NEIGHBOUR: 'it returns false'. Refute it at one input. -/
def fnExactSquareAtWrong : ChangeSpec := { name := "fnExactSquareAt", fn := fun _ => fun
  | [d1, d2] => { results := [.lit (.bool false)], args := [d1, d2] }
  | _ => none }
def FnExactSquareAtWrongFalsely : Prop := fnExactSquareAtRow.holds Try.pinned (OpenSpec.ofChange fnExactSquareAtWrong)

/-- 'laws.FnExactSquareIndex': WHATEVER THE INPUT: true; the input reads as it did. -/
def fnExactSquareIndexSpec : ChangeSpec := { name := "fnExactSquareIndex", fn := fun _ => fun
  | [d1, d2, d3] => { results := [.lit (.bool true)], args := [d1, d2, d3] }
  | _ => none }
def fnExactSquareIndexRow : OpenClaim := { program := "ytgpikaolgalpbaa", sum := "7d54ff8a0c305e89df1ebde95e57eb96442d7e3d2bbd94135774b461ee7390a9", func := "loop.example/g01160/laws.FnExactSquareIndex", spec := "fnExactSquareIndex", apart := false }
def FnExactSquareIndexSaid : Prop := fnExactSquareIndexRow.holds Try.pinned (OpenSpec.ofChange fnExactSquareIndexSpec)

/-- ITS FALSE NEIGHBOUR: 'it returns false'. Refute it at one input. -/
def fnExactSquareIndexWrong : ChangeSpec := { name := "fnExactSquareIndex", fn := fun _ => fun
  | [d1, d2, d3] => { results := [.lit (.bool false)], args := [d1, d2, d3] }
  | _ => none }
def FnExactSquareIndexWrongFalsely : Prop := fnExactSquareIndexRow.holds Try.pinned (OpenSpec.ofChange fnExactSquareIndexWrong)

/-- 'laws.FnExactSquareCells': WHATEVER THE INPUT: true; the input reads as it did. -/
def fnExactSquareCellsSpec : ChangeSpec := { name := "fnExactSquareCells", fn := fun _ => fun
  | [d] => { results := [.lit (.bool true)], args := [d] }
  | _ => none }
def fnExactSquareCellsRow : OpenClaim := { program := "ytgpikaolgalpbaa", sum := "7d54ff8a0c305e89df1ebde95e57eb96442d7e3d2bbd94135774b461ee7390a9", func := "loop.example/g01160/laws.FnExactSquareCells", spec := "fnExactSquareCells", apart := false }
def FnExactSquareCellsSaid : Prop := fnExactSquareCellsRow.holds Try.pinned (OpenSpec.ofChange fnExactSquareCellsSpec)

/-- ITS FALSE NEIGHBOUR: 'it returns false'. Refute it at one input. -/
def fnExactSquareCellsWrong : ChangeSpec := { name := "fnExactSquareCells", fn := fun _ => fun
  | [d] => { results := [.lit (.bool false)], args := [d] }
  | _ => none }
def FnExactSquareCellsWrongFalsely : Prop := fnExactSquareCellsRow.holds Try.pinned (OpenSpec.ofChange fnExactSquareCellsWrong)

/-- 'laws.FnExactSquareBorder': WHATEVER THE INPUT: true; the input reads as it did. -/
def fnExactSquareBorderSpec : ChangeSpec := { name := "fnExactSquareBorder", fn := fun _ => fun
  | [d] => { results := [.lit (.bool true)], args := [d] }
  | _ => none }
def fnExactSquareBorderRow : OpenClaim := { program := "ytgpikaolgalpbaa", sum := "7d54ff8a0c305e89df1ebde95e57eb96442d7e3d2bbd94135774b461ee7390a9", func := "loop.example/g01160/laws.FnExactSquareBorder", spec := "fnExactSquareBorder", apart := false }
def FnExactSquareBorderSaid : Prop := fnExactSquareBorderRow.holds Try.pinned (OpenSpec.ofChange fnExactSquareBorderSpec)

/-- ITS FALSE NEIGHBOUR: 'it returns false'. Refute it at one input. -/
def fnExactSquareBorderWrong : ChangeSpec := { name := "fnExactSquareBorder", fn := fun _ => fun
  | [d] => { results := [.lit (.bool false)], args := [d] }
  | _ => none }
def FnExactSquareBorderWrongFalsely : Prop := fnExactSquareBorderRow.holds Try.pinned (OpenSpec.ofChange fnExactSquareBorderWrong)

/-- 'laws.FnExactAreOpposite': WHATEVER THE INPUT: true; the input reads as it did. -/
def fnExactAreOppositeSpec : ChangeSpec := { name := "fnExactAreOpposite", fn := fun _ => fun
  | [d1, d2] => { results := [.lit (.bool true)], args := [d1, d2] }
  | _ => none }
def fnExactAreOppositeRow : OpenClaim := { program := "ytgpikaolgalpbaa", sum := "7d54ff8a0c305e89df1ebde95e57eb96442d7e3d2bbd94135774b461ee7390a9", func := "loop.example/g01160/laws.FnExactAreOpposite", spec := "fnExactAreOpposite", unfollowed := true, recurses := true, apart := false }
def FnExactAreOppositeSaid : Prop := fnExactAreOppositeRow.holds Try.pinned (OpenSpec.ofChange fnExactAreOppositeSpec)

/-- ITS FALSE NEIGHBOUR: 'it returns false'. Refute it at one input. -/
def fnExactAreOppositeWrong : ChangeSpec := { name := "fnExactAreOpposite", fn := fun _ => fun
  | [d1, d2] => { results := [.lit (.bool false)], args := [d1, d2] }
  | _ => none }
def FnExactAreOppositeWrongFalsely : Prop := fnExactAreOppositeRow.holds Try.pinned (OpenSpec.ofChange fnExactAreOppositeWrong)

/-- 'laws.FnExactNegateLabels': WHATEVER THE INPUT: true; the input reads as it did. -/
def fnExactNegateLabelsSpec : ChangeSpec := { name := "fnExactNegateLabels", fn := fun _ => fun
  | [d1, d2] => { results := [.lit (.bool true)], args := [d1, d2] }
  | _ => none }
def fnExactNegateLabelsRow : OpenClaim := { program := "ytgpikaolgalpbaa", sum := "7d54ff8a0c305e89df1ebde95e57eb96442d7e3d2bbd94135774b461ee7390a9", func := "loop.example/g01160/laws.FnExactNegateLabels", spec := "fnExactNegateLabels", unfollowed := true, recurses := true, apart := false }
def FnExactNegateLabelsSaid : Prop := fnExactNegateLabelsRow.holds Try.pinned (OpenSpec.ofChange fnExactNegateLabelsSpec)

/-- ITS FALSE NEIGHBOUR: 'it returns false'. Refute it at one input. -/
def fnExactNegateLabelsWrong : ChangeSpec := { name := "fnExactNegateLabels", fn := fun _ => fun
  | [d1, d2] => { results := [.lit (.bool false)], args := [d1, d2] }
  | _ => none }
def FnExactNegateLabelsWrongFalsely : Prop := fnExactNegateLabelsRow.holds Try.pinned (OpenSpec.ofChange fnExactNegateLabelsWrong)

/-- 'laws.FnExactSquareDoors': WHATEVER THE INPUT: true; the input reads as it did. -/
def fnExactSquareDoorsSpec : ChangeSpec := { name := "fnExactSquareDoors", fn := fun _ => fun
  | [d1, d2] => { results := [.lit (.bool true)], args := [d1, d2] }
  | _ => none }
def fnExactSquareDoorsRow : OpenClaim := { program := "ytgpikaolgalpbaa", sum := "7d54ff8a0c305e89df1ebde95e57eb96442d7e3d2bbd94135774b461ee7390a9", func := "loop.example/g01160/laws.FnExactSquareDoors", spec := "fnExactSquareDoors", unfollowed := true, recurses := true, apart := false }
def FnExactSquareDoorsSaid : Prop := fnExactSquareDoorsRow.holds Try.pinned (OpenSpec.ofChange fnExactSquareDoorsSpec)

/-- ITS FALSE NEIGHBOUR: 'it returns false'. Refute it at one input. -/
def fnExactSquareDoorsWrong : ChangeSpec := { name := "fnExactSquareDoors", fn := fun _ => fun
  | [d1, d2] => { results := [.lit (.bool false)], args := [d1, d2] }
  | _ => none }
def FnExactSquareDoorsWrongFalsely : Prop := fnExactSquareDoorsRow.holds Try.pinned (OpenSpec.ofChange fnExactSquareDoorsWrong)

/-- 'laws.FnExactSquareWalk': WHATEVER THE INPUT: true; the input reads as it did. -/
def fnExactSquareWalkSpec : ChangeSpec := { name := "fnExactSquareWalk", fn := fun _ => fun
  | [d1, d2, d3, d4] => { results := [.lit (.bool true)], args := [d1, d2, d3, d4] }
  | _ => none }
def fnExactSquareWalkRow : OpenClaim := { program := "ytgpikaolgalpbaa", sum := "7d54ff8a0c305e89df1ebde95e57eb96442d7e3d2bbd94135774b461ee7390a9", func := "loop.example/g01160/laws.FnExactSquareWalk", spec := "fnExactSquareWalk", unfollowed := true, recurses := true, apart := false }
def FnExactSquareWalkSaid : Prop := fnExactSquareWalkRow.holds Try.pinned (OpenSpec.ofChange fnExactSquareWalkSpec)

/-- ITS FALSE NEIGHBOUR: 'it returns false'. Refute it at one input. -/
def fnExactSquareWalkWrong : ChangeSpec := { name := "fnExactSquareWalk", fn := fun _ => fun
  | [d1, d2, d3, d4] => { results := [.lit (.bool false)], args := [d1, d2, d3, d4] }
  | _ => none }
def FnExactSquareWalkWrongFalsely : Prop := fnExactSquareWalkRow.holds Try.pinned (OpenSpec.ofChange fnExactSquareWalkWrong)

/-- 'laws.FnExactFindOpposite': WHATEVER THE INPUT: true; the input reads as it did. -/
def fnExactFindOppositeSpec : ChangeSpec := { name := "fnExactFindOpposite", fn := fun _ => fun
  | [d1, d2] => { results := [.lit (.bool true)], args := [d1, d2] }
  | _ => none }
def fnExactFindOppositeRow : OpenClaim := { program := "ytgpikaolgalpbaa", sum := "7d54ff8a0c305e89df1ebde95e57eb96442d7e3d2bbd94135774b461ee7390a9", func := "loop.example/g01160/laws.FnExactFindOpposite", spec := "fnExactFindOpposite", unfollowed := true, recurses := true, apart := false }
def FnExactFindOppositeSaid : Prop := fnExactFindOppositeRow.holds Try.pinned (OpenSpec.ofChange fnExactFindOppositeSpec)

/-- ITS FALSE NEIGHBOUR: 'it returns false'. Refute it at one input. -/
def fnExactFindOppositeWrong : ChangeSpec := { name := "fnExactFindOpposite", fn := fun _ => fun
  | [d1, d2] => { results := [.lit (.bool false)], args := [d1, d2] }
  | _ => none }
def FnExactFindOppositeWrongFalsely : Prop := fnExactFindOppositeRow.holds Try.pinned (OpenSpec.ofChange fnExactFindOppositeWrong)

/-- 'laws.FnExactSquareTurns': WHATEVER THE INPUT: true; the input reads as it did. -/
def fnExactSquareTurnsSpec : ChangeSpec := { name := "fnExactSquareTurns", fn := fun _ => fun
  | [d1, d2] => { results := [.lit (.bool true)], args := [d1, d2] }
  | _ => none }
def fnExactSquareTurnsRow : OpenClaim := { program := "ytgpikaolgalpbaa", sum := "7d54ff8a0c305e89df1ebde95e57eb96442d7e3d2bbd94135774b461ee7390a9", func := "loop.example/g01160/laws.FnExactSquareTurns", spec := "fnExactSquareTurns", unfollowed := true, recurses := true, apart := false }
def FnExactSquareTurnsSaid : Prop := fnExactSquareTurnsRow.holds Try.pinned (OpenSpec.ofChange fnExactSquareTurnsSpec)

/-- ITS FALSE NEIGHBOUR: 'it returns false'. Refute it at one input. -/
def fnExactSquareTurnsWrong : ChangeSpec := { name := "fnExactSquareTurns", fn := fun _ => fun
  | [d1, d2] => { results := [.lit (.bool false)], args := [d1, d2] }
  | _ => none }
def FnExactSquareTurnsWrongFalsely : Prop := fnExactSquareTurnsRow.holds Try.pinned (OpenSpec.ofChange fnExactSquareTurnsWrong)

/-- 'laws.FnExactAddTurn': WHATEVER THE INPUT: true; the input reads as it did. -/
def fnExactAddTurnSpec : ChangeSpec := { name := "fnExactAddTurn", fn := fun _ => fun
  | [d1, d2] => { results := [.lit (.bool true)], args := [d1, d2] }
  | _ => none }
def fnExactAddTurnRow : OpenClaim := { program := "ytgpikaolgalpbaa", sum := "7d54ff8a0c305e89df1ebde95e57eb96442d7e3d2bbd94135774b461ee7390a9", func := "loop.example/g01160/laws.FnExactAddTurn", spec := "fnExactAddTurn", unfollowed := true, recurses := true, apart := false }
def FnExactAddTurnSaid : Prop := fnExactAddTurnRow.holds Try.pinned (OpenSpec.ofChange fnExactAddTurnSpec)

/-- ITS FALSE NEIGHBOUR: 'it returns false'. Refute it at one input. -/
def fnExactAddTurnWrong : ChangeSpec := { name := "fnExactAddTurn", fn := fun _ => fun
  | [d1, d2] => { results := [.lit (.bool false)], args := [d1, d2] }
  | _ => none }
def FnExactAddTurnWrongFalsely : Prop := fnExactAddTurnRow.holds Try.pinned (OpenSpec.ofChange fnExactAddTurnWrong)

/- THE SECOND FORM. 'bulk': how many values and letters a reading holds, each counted each time it is reached (what is shared counts as often as it is met; a slice's spare places count too). A statement '..UptoSaid' is the law's where the arguments, and the package variables that the reading takes, are together of bulk at most 1048576: NARROWER than '..Said'. Prove '..Said' where nothing that the law and all that it calls make is longer than what came in: it says more and counts as full. Else prove '..UptoSaid'. A law counts once. -/
mutual
def uptoBulk {H : Type} : DataW H → Nat
  | .lit (.string bytes) => bytes.length + 1
  | .lit _ => 1
  | .nil => 1
  | .ptr d => uptoBulk d + 1
  | .slice elems spare => uptoBulkAll elems + uptoBulkAll spare + 1
  | .agg parts => uptoBulkAll parts + 1
  | .iface _ d => uptoBulk d + 1
  | .map entries => uptoBulkEntries entries + 1
  | .held _ => 1
def uptoBulkAll {H : Type} : List (DataW H) → Nat
  | [] => 0
  | d :: r => uptoBulk d + uptoBulkAll r
def uptoBulkEntries {H : Type} : List (Lit × DataW H) → Nat
  | [] => 0
  | x :: r => uptoBulkEntry x + uptoBulkEntries r
def uptoBulkEntry {H : Type} : Lit × DataW H → Nat
  | (.string bytes, d) => bytes.length + uptoBulk d + 1
  | (_, d) => uptoBulk d + 1
 end
def uptoSmall : (H : Type) → List (DataW H) → Bool := fun _ ds => decide (uptoBulkAll ds ≤ 1048576)
def OpenSpec.upto (s : _root_.Go.ChangeSpec) : _root_.Go.OpenSpec := { _root_.Go.OpenSpec.ofChange s with cond := some uptoSmall }

/-- 'laws.FnExactCountSquare', WHERE WHAT IT READS IS OF BULK AT MOST 1048576: true; the input reads as it did. -/
def fnExactCountSquareUptoRow : OpenClaim := { program := "ytgpikaolgalpbaa", sum := "7d54ff8a0c305e89df1ebde95e57eb96442d7e3d2bbd94135774b461ee7390a9", func := "loop.example/g01160/laws.FnExactCountSquare", spec := "fnExactCountSquare", apart := false, narrowed := true }
def FnExactCountSquareUptoSaid : Prop := fnExactCountSquareUptoRow.holds Try.pinned (OpenSpec.upto fnExactCountSquareSpec)

/-- 'laws.FnExactSquareAt', WHERE WHAT IT READS IS OF BULK AT MOST 1048576: true; the input reads as it did. -/
def fnExactSquareAtUptoRow : OpenClaim := { program := "ytgpikaolgalpbaa", sum := "7d54ff8a0c305e89df1ebde95e57eb96442d7e3d2bbd94135774b461ee7390a9", func := "loop.example/g01160/laws.FnExactSquareAt", spec := "fnExactSquareAt", apart := false, narrowed := true }
def FnExactSquareAtUptoSaid : Prop := fnExactSquareAtUptoRow.holds Try.pinned (OpenSpec.upto fnExactSquareAtSpec)

/-- 'laws.FnExactSquareIndex', WHERE WHAT IT READS IS OF BULK AT MOST 1048576: true; the input reads as it did. -/
def fnExactSquareIndexUptoRow : OpenClaim := { program := "ytgpikaolgalpbaa", sum := "7d54ff8a0c305e89df1ebde95e57eb96442d7e3d2bbd94135774b461ee7390a9", func := "loop.example/g01160/laws.FnExactSquareIndex", spec := "fnExactSquareIndex", apart := false, narrowed := true }
def FnExactSquareIndexUptoSaid : Prop := fnExactSquareIndexUptoRow.holds Try.pinned (OpenSpec.upto fnExactSquareIndexSpec)

/-- 'laws.FnExactSquareCells', WHERE WHAT IT READS IS OF BULK AT MOST 1048576: true; the input reads as it did. -/
def fnExactSquareCellsUptoRow : OpenClaim := { program := "ytgpikaolgalpbaa", sum := "7d54ff8a0c305e89df1ebde95e57eb96442d7e3d2bbd94135774b461ee7390a9", func := "loop.example/g01160/laws.FnExactSquareCells", spec := "fnExactSquareCells", apart := false, narrowed := true }
def FnExactSquareCellsUptoSaid : Prop := fnExactSquareCellsUptoRow.holds Try.pinned (OpenSpec.upto fnExactSquareCellsSpec)

/-- 'laws.FnExactSquareBorder', WHERE WHAT IT READS IS OF BULK AT MOST 1048576: true; the input reads as it did. -/
def fnExactSquareBorderUptoRow : OpenClaim := { program := "ytgpikaolgalpbaa", sum := "7d54ff8a0c305e89df1ebde95e57eb96442d7e3d2bbd94135774b461ee7390a9", func := "loop.example/g01160/laws.FnExactSquareBorder", spec := "fnExactSquareBorder", apart := false, narrowed := true }
def FnExactSquareBorderUptoSaid : Prop := fnExactSquareBorderUptoRow.holds Try.pinned (OpenSpec.upto fnExactSquareBorderSpec)

/-- 'laws.FnExactAreOpposite', WHERE WHAT IT READS IS OF BULK AT MOST 1048576: true; the input reads as it did. -/
def fnExactAreOppositeUptoRow : OpenClaim := { program := "ytgpikaolgalpbaa", sum := "7d54ff8a0c305e89df1ebde95e57eb96442d7e3d2bbd94135774b461ee7390a9", func := "loop.example/g01160/laws.FnExactAreOpposite", spec := "fnExactAreOpposite", unfollowed := true, recurses := true, apart := false, narrowed := true }
def FnExactAreOppositeUptoSaid : Prop := fnExactAreOppositeUptoRow.holds Try.pinned (OpenSpec.upto fnExactAreOppositeSpec)

/-- 'laws.FnExactNegateLabels', WHERE WHAT IT READS IS OF BULK AT MOST 1048576: true; the input reads as it did. -/
def fnExactNegateLabelsUptoRow : OpenClaim := { program := "ytgpikaolgalpbaa", sum := "7d54ff8a0c305e89df1ebde95e57eb96442d7e3d2bbd94135774b461ee7390a9", func := "loop.example/g01160/laws.FnExactNegateLabels", spec := "fnExactNegateLabels", unfollowed := true, recurses := true, apart := false, narrowed := true }
def FnExactNegateLabelsUptoSaid : Prop := fnExactNegateLabelsUptoRow.holds Try.pinned (OpenSpec.upto fnExactNegateLabelsSpec)

/-- 'laws.FnExactSquareDoors', WHERE WHAT IT READS IS OF BULK AT MOST 1048576: true; the input reads as it did. -/
def fnExactSquareDoorsUptoRow : OpenClaim := { program := "ytgpikaolgalpbaa", sum := "7d54ff8a0c305e89df1ebde95e57eb96442d7e3d2bbd94135774b461ee7390a9", func := "loop.example/g01160/laws.FnExactSquareDoors", spec := "fnExactSquareDoors", unfollowed := true, recurses := true, apart := false, narrowed := true }
def FnExactSquareDoorsUptoSaid : Prop := fnExactSquareDoorsUptoRow.holds Try.pinned (OpenSpec.upto fnExactSquareDoorsSpec)

/-- 'laws.FnExactSquareWalk', WHERE WHAT IT READS IS OF BULK AT MOST 1048576: true; the input reads as it did. -/
def fnExactSquareWalkUptoRow : OpenClaim := { program := "ytgpikaolgalpbaa", sum := "7d54ff8a0c305e89df1ebde95e57eb96442d7e3d2bbd94135774b461ee7390a9", func := "loop.example/g01160/laws.FnExactSquareWalk", spec := "fnExactSquareWalk", unfollowed := true, recurses := true, apart := false, narrowed := true }
def FnExactSquareWalkUptoSaid : Prop := fnExactSquareWalkUptoRow.holds Try.pinned (OpenSpec.upto fnExactSquareWalkSpec)

/-- 'laws.FnExactFindOpposite', WHERE WHAT IT READS IS OF BULK AT MOST 1048576: true; the input reads as it did. -/
def fnExactFindOppositeUptoRow : OpenClaim := { program := "ytgpikaolgalpbaa", sum := "7d54ff8a0c305e89df1ebde95e57eb96442d7e3d2bbd94135774b461ee7390a9", func := "loop.example/g01160/laws.FnExactFindOpposite", spec := "fnExactFindOpposite", unfollowed := true, recurses := true, apart := false, narrowed := true }
def FnExactFindOppositeUptoSaid : Prop := fnExactFindOppositeUptoRow.holds Try.pinned (OpenSpec.upto fnExactFindOppositeSpec)

/-- 'laws.FnExactSquareTurns', WHERE WHAT IT READS IS OF BULK AT MOST 1048576: true; the input reads as it did. -/
def fnExactSquareTurnsUptoRow : OpenClaim := { program := "ytgpikaolgalpbaa", sum := "7d54ff8a0c305e89df1ebde95e57eb96442d7e3d2bbd94135774b461ee7390a9", func := "loop.example/g01160/laws.FnExactSquareTurns", spec := "fnExactSquareTurns", unfollowed := true, recurses := true, apart := false, narrowed := true }
def FnExactSquareTurnsUptoSaid : Prop := fnExactSquareTurnsUptoRow.holds Try.pinned (OpenSpec.upto fnExactSquareTurnsSpec)

/-- 'laws.FnExactAddTurn', WHERE WHAT IT READS IS OF BULK AT MOST 1048576: true; the input reads as it did. -/
def fnExactAddTurnUptoRow : OpenClaim := { program := "ytgpikaolgalpbaa", sum := "7d54ff8a0c305e89df1ebde95e57eb96442d7e3d2bbd94135774b461ee7390a9", func := "loop.example/g01160/laws.FnExactAddTurn", spec := "fnExactAddTurn", unfollowed := true, recurses := true, apart := false, narrowed := true }
def FnExactAddTurnUptoSaid : Prop := fnExactAddTurnUptoRow.holds Try.pinned (OpenSpec.upto fnExactAddTurnSpec)

end Rows
end Go.Proofs.Ytgpikaolgalpbaa
