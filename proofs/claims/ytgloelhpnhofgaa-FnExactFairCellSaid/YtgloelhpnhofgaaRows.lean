/-
  No cell of these rows narrows 'for every input' (looked for: loops, veiled, ifaces, maps, wideKeys, modest, calm, conditions, laid).
  DERIVED. THE GIVEN ROWS OF THIS SEAT. 12 by the template 'for every input the law returns true; each argument reads behind the call as it read before'; 0 by the template 'total and deterministic' (their statements: YtgloelhpnhofgaaTotals.lean).
  GIVEN WITH THE SEED: the statements are not yours to turn. If you find one false, say at which input.
  Laid BY PROGRAM, IN A SANDBOX (cutbox-rows.mjs): the forced cells as the released guide's own fill.sh prints them over the translation b7c41dd968313b82… (all of the seat's roots in one cut). By AI agents, Wed Nov 11 2026. No macro, syntax, notation, axiom, sorry.
-/
import Derived.Test.YtgloelhpnhofgaaChecked
import GoSem.Claim
import GoSem.ClaimJoined
import GoSem.ClaimMapViews
import Derived.JoinedTies
import Derived.KernelRfl
namespace Go.Proofs.Ytgloelhpnhofgaa
/- THE CELL 'sum', in the pinned program and in every row, IS THE sha256 OF THE DUMP (.gsa) THAT YtgloelhpnhofgaaProg.lean LOADS. Nothing in Lean hashes anything: it is a label: what it is worth is what the hold of that sum in a sandbox is worth. -/
noncomputable def Try.pinned : Pinned := { name := "ytgloelhpnhofgaa", sum := "b7c41dd968313b82fbeee3d5f0b6cbdb8f2ad0ba6e2c27268bb0c0bf6a81c0bd", checked := Try.checked }
namespace Rows
def none {H : Type} : Left H := { results := [], args := [] }

/-- 'laws.FnExactWalkFrom': WHATEVER THE INPUT: true; the input reads as it did. -/
def fnExactWalkFromSpec : ChangeSpec := { name := "fnExactWalkFrom", fn := fun _ => fun
  | [d1, d2, d3, d4] => { results := [.lit (.bool true)], args := [d1, d2, d3, d4] }
  | _ => none }
def fnExactWalkFromRow : OpenClaim := { program := "ytgloelhpnhofgaa", sum := "b7c41dd968313b82fbeee3d5f0b6cbdb8f2ad0ba6e2c27268bb0c0bf6a81c0bd", func := "loop.example/g01160/laws.FnExactWalkFrom", spec := "fnExactWalkFrom", unfollowed := true, recurses := true, apart := false }
def FnExactWalkFromSaid : Prop := fnExactWalkFromRow.holds Try.pinned (OpenSpec.ofChange fnExactWalkFromSpec)

/-- ITS FALSE NEIGHBOUR: 'it returns false'. Refute it at one input. -/
def fnExactWalkFromWrong : ChangeSpec := { name := "fnExactWalkFrom", fn := fun _ => fun
  | [d1, d2, d3, d4] => { results := [.lit (.bool false)], args := [d1, d2, d3, d4] }
  | _ => none }
def FnExactWalkFromWrongFalsely : Prop := fnExactWalkFromRow.holds Try.pinned (OpenSpec.ofChange fnExactWalkFromWrong)

/-- 'laws.FnExactExitOf': WHATEVER THE INPUT: true; the input reads as it did. -/
def fnExactExitOfSpec : ChangeSpec := { name := "fnExactExitOf", fn := fun _ => fun
  | [d1, d2, d3, d4] => { results := [.lit (.bool true)], args := [d1, d2, d3, d4] }
  | _ => none }
def fnExactExitOfRow : OpenClaim := { program := "ytgloelhpnhofgaa", sum := "b7c41dd968313b82fbeee3d5f0b6cbdb8f2ad0ba6e2c27268bb0c0bf6a81c0bd", func := "loop.example/g01160/laws.FnExactExitOf", spec := "fnExactExitOf", unfollowed := true, recurses := true, apart := false }
def FnExactExitOfSaid : Prop := fnExactExitOfRow.holds Try.pinned (OpenSpec.ofChange fnExactExitOfSpec)

/-- ITS FALSE NEIGHBOUR: 'it returns false'. Refute it at one input. -/
def fnExactExitOfWrong : ChangeSpec := { name := "fnExactExitOf", fn := fun _ => fun
  | [d1, d2, d3, d4] => { results := [.lit (.bool false)], args := [d1, d2, d3, d4] }
  | _ => none }
def FnExactExitOfWrongFalsely : Prop := fnExactExitOfRow.holds Try.pinned (OpenSpec.ofChange fnExactExitOfWrong)

/-- 'laws.FnExactFindFull': WHATEVER THE INPUT: true; the input reads as it did. -/
def fnExactFindFullSpec : ChangeSpec := { name := "fnExactFindFull", fn := fun _ => fun
  | [d1, d2] => { results := [.lit (.bool true)], args := [d1, d2] }
  | _ => none }
def fnExactFindFullRow : OpenClaim := { program := "ytgloelhpnhofgaa", sum := "b7c41dd968313b82fbeee3d5f0b6cbdb8f2ad0ba6e2c27268bb0c0bf6a81c0bd", func := "loop.example/g01160/laws.FnExactFindFull", spec := "fnExactFindFull", unfollowed := true, recurses := true, apart := false }
def FnExactFindFullSaid : Prop := fnExactFindFullRow.holds Try.pinned (OpenSpec.ofChange fnExactFindFullSpec)

/-- ITS FALSE NEIGHBOUR: 'it returns false'. Refute it at one input. -/
def fnExactFindFullWrong : ChangeSpec := { name := "fnExactFindFull", fn := fun _ => fun
  | [d1, d2] => { results := [.lit (.bool false)], args := [d1, d2] }
  | _ => none }
def FnExactFindFullWrongFalsely : Prop := fnExactFindFullRow.holds Try.pinned (OpenSpec.ofChange fnExactFindFullWrong)

/-- 'laws.FnExactPartnerOfFull': WHATEVER THE INPUT: true; the input reads as it did. -/
def fnExactPartnerOfFullSpec : ChangeSpec := { name := "fnExactPartnerOfFull", fn := fun _ => fun
  | [d1, d2, d3] => { results := [.lit (.bool true)], args := [d1, d2, d3] }
  | _ => none }
def fnExactPartnerOfFullRow : OpenClaim := { program := "ytgloelhpnhofgaa", sum := "b7c41dd968313b82fbeee3d5f0b6cbdb8f2ad0ba6e2c27268bb0c0bf6a81c0bd", func := "loop.example/g01160/laws.FnExactPartnerOfFull", spec := "fnExactPartnerOfFull", unfollowed := true, recurses := true, apart := false }
def FnExactPartnerOfFullSaid : Prop := fnExactPartnerOfFullRow.holds Try.pinned (OpenSpec.ofChange fnExactPartnerOfFullSpec)

/-- ITS FALSE NEIGHBOUR: 'it returns false'. Refute it at one input. -/
def fnExactPartnerOfFullWrong : ChangeSpec := { name := "fnExactPartnerOfFull", fn := fun _ => fun
  | [d1, d2, d3] => { results := [.lit (.bool false)], args := [d1, d2, d3] }
  | _ => none }
def FnExactPartnerOfFullWrongFalsely : Prop := fnExactPartnerOfFullRow.holds Try.pinned (OpenSpec.ofChange fnExactPartnerOfFullWrong)

/-- 'laws.FnExactFairCell': WHATEVER THE INPUT: true; the input reads as it did. -/
def fnExactFairCellSpec : ChangeSpec := { name := "fnExactFairCell", fn := fun _ => fun
  | [d1, d2] => { results := [.lit (.bool true)], args := [d1, d2] }
  | _ => none }
def fnExactFairCellRow : OpenClaim := { program := "ytgloelhpnhofgaa", sum := "b7c41dd968313b82fbeee3d5f0b6cbdb8f2ad0ba6e2c27268bb0c0bf6a81c0bd", func := "loop.example/g01160/laws.FnExactFairCell", spec := "fnExactFairCell", unfollowed := true, recurses := true, apart := false }
def FnExactFairCellSaid : Prop := fnExactFairCellRow.holds Try.pinned (OpenSpec.ofChange fnExactFairCellSpec)

/-- ITS FALSE NEIGHBOUR: 'it returns false'. Refute it at one input. -/
def fnExactFairCellWrong : ChangeSpec := { name := "fnExactFairCell", fn := fun _ => fun
  | [d1, d2] => { results := [.lit (.bool false)], args := [d1, d2] }
  | _ => none }
def FnExactFairCellWrongFalsely : Prop := fnExactFairCellRow.holds Try.pinned (OpenSpec.ofChange fnExactFairCellWrong)

/-- 'laws.FnExactFairCut': WHATEVER THE INPUT: true; the input reads as it did. -/
def fnExactFairCutSpec : ChangeSpec := { name := "fnExactFairCut", fn := fun _ => fun
  | [d1, d2] => { results := [.lit (.bool true)], args := [d1, d2] }
  | _ => none }
def fnExactFairCutRow : OpenClaim := { program := "ytgloelhpnhofgaa", sum := "b7c41dd968313b82fbeee3d5f0b6cbdb8f2ad0ba6e2c27268bb0c0bf6a81c0bd", func := "loop.example/g01160/laws.FnExactFairCut", spec := "fnExactFairCut", unfollowed := true, recurses := true, apart := false }
def FnExactFairCutSaid : Prop := fnExactFairCutRow.holds Try.pinned (OpenSpec.ofChange fnExactFairCutSpec)

/-- ITS FALSE NEIGHBOUR: 'it returns false'. Refute it at one input. -/
def fnExactFairCutWrong : ChangeSpec := { name := "fnExactFairCut", fn := fun _ => fun
  | [d1, d2] => { results := [.lit (.bool false)], args := [d1, d2] }
  | _ => none }
def FnExactFairCutWrongFalsely : Prop := fnExactFairCutRow.holds Try.pinned (OpenSpec.ofChange fnExactFairCutWrong)

/-- 'laws.FnExactIsDoor': WHATEVER THE INPUT: true; the input reads as it did. -/
def fnExactIsDoorSpec : ChangeSpec := { name := "fnExactIsDoor", fn := fun _ => fun
  | [d1, d2, d3, d4] => { results := [.lit (.bool true)], args := [d1, d2, d3, d4] }
  | _ => none }
def fnExactIsDoorRow : OpenClaim := { program := "ytgloelhpnhofgaa", sum := "b7c41dd968313b82fbeee3d5f0b6cbdb8f2ad0ba6e2c27268bb0c0bf6a81c0bd", func := "loop.example/g01160/laws.FnExactIsDoor", spec := "fnExactIsDoor", unfollowed := true, recurses := true, apart := false }
def FnExactIsDoorSaid : Prop := fnExactIsDoorRow.holds Try.pinned (OpenSpec.ofChange fnExactIsDoorSpec)

/-- ITS FALSE NEIGHBOUR: 'it returns false'. Refute it at one input. -/
def fnExactIsDoorWrong : ChangeSpec := { name := "fnExactIsDoor", fn := fun _ => fun
  | [d1, d2, d3, d4] => { results := [.lit (.bool false)], args := [d1, d2, d3, d4] }
  | _ => none }
def FnExactIsDoorWrongFalsely : Prop := fnExactIsDoorRow.holds Try.pinned (OpenSpec.ofChange fnExactIsDoorWrong)

/-- 'laws.FnExactDoorsOf': WHATEVER THE INPUT: true; the input reads as it did. -/
def fnExactDoorsOfSpec : ChangeSpec := { name := "fnExactDoorsOf", fn := fun _ => fun
  | [d1, d2] => { results := [.lit (.bool true)], args := [d1, d2] }
  | _ => none }
def fnExactDoorsOfRow : OpenClaim := { program := "ytgloelhpnhofgaa", sum := "b7c41dd968313b82fbeee3d5f0b6cbdb8f2ad0ba6e2c27268bb0c0bf6a81c0bd", func := "loop.example/g01160/laws.FnExactDoorsOf", spec := "fnExactDoorsOf", unfollowed := true, recurses := true, apart := false }
def FnExactDoorsOfSaid : Prop := fnExactDoorsOfRow.holds Try.pinned (OpenSpec.ofChange fnExactDoorsOfSpec)

/-- ITS FALSE NEIGHBOUR: 'it returns false'. Refute it at one input. -/
def fnExactDoorsOfWrong : ChangeSpec := { name := "fnExactDoorsOf", fn := fun _ => fun
  | [d1, d2] => { results := [.lit (.bool false)], args := [d1, d2] }
  | _ => none }
def FnExactDoorsOfWrongFalsely : Prop := fnExactDoorsOfRow.holds Try.pinned (OpenSpec.ofChange fnExactDoorsOfWrong)

/-- 'laws.FnExactBorderDoors': WHATEVER THE INPUT: true; the input reads as it did. -/
def fnExactBorderDoorsSpec : ChangeSpec := { name := "fnExactBorderDoors", fn := fun _ => fun
  | [d1, d2] => { results := [.lit (.bool true)], args := [d1, d2] }
  | _ => none }
def fnExactBorderDoorsRow : OpenClaim := { program := "ytgloelhpnhofgaa", sum := "b7c41dd968313b82fbeee3d5f0b6cbdb8f2ad0ba6e2c27268bb0c0bf6a81c0bd", func := "loop.example/g01160/laws.FnExactBorderDoors", spec := "fnExactBorderDoors", unfollowed := true, recurses := true, apart := false }
def FnExactBorderDoorsSaid : Prop := fnExactBorderDoorsRow.holds Try.pinned (OpenSpec.ofChange fnExactBorderDoorsSpec)

/-- ITS FALSE NEIGHBOUR: 'it returns false'. Refute it at one input. -/
def fnExactBorderDoorsWrong : ChangeSpec := { name := "fnExactBorderDoors", fn := fun _ => fun
  | [d1, d2] => { results := [.lit (.bool false)], args := [d1, d2] }
  | _ => none }
def FnExactBorderDoorsWrongFalsely : Prop := fnExactBorderDoorsRow.holds Try.pinned (OpenSpec.ofChange fnExactBorderDoorsWrong)

/-- 'laws.FnExactDoorsOfCell': WHATEVER THE INPUT: true; the input reads as it did. -/
def fnExactDoorsOfCellSpec : ChangeSpec := { name := "fnExactDoorsOfCell", fn := fun _ => fun
  | [d1, d2, d3] => { results := [.lit (.bool true)], args := [d1, d2, d3] }
  | _ => none }
def fnExactDoorsOfCellRow : OpenClaim := { program := "ytgloelhpnhofgaa", sum := "b7c41dd968313b82fbeee3d5f0b6cbdb8f2ad0ba6e2c27268bb0c0bf6a81c0bd", func := "loop.example/g01160/laws.FnExactDoorsOfCell", spec := "fnExactDoorsOfCell", unfollowed := true, recurses := true, apart := false }
def FnExactDoorsOfCellSaid : Prop := fnExactDoorsOfCellRow.holds Try.pinned (OpenSpec.ofChange fnExactDoorsOfCellSpec)

/-- ITS FALSE NEIGHBOUR: 'it returns false'. Refute it at one input. -/
def fnExactDoorsOfCellWrong : ChangeSpec := { name := "fnExactDoorsOfCell", fn := fun _ => fun
  | [d1, d2, d3] => { results := [.lit (.bool false)], args := [d1, d2, d3] }
  | _ => none }
def FnExactDoorsOfCellWrongFalsely : Prop := fnExactDoorsOfCellRow.holds Try.pinned (OpenSpec.ofChange fnExactDoorsOfCellWrong)

/-- 'laws.FnExactIsFull': WHATEVER THE INPUT: true; the input reads as it did. -/
def fnExactIsFullSpec : ChangeSpec := { name := "fnExactIsFull", fn := fun _ => fun
  | [d1, d2, d3] => { results := [.lit (.bool true)], args := [d1, d2, d3] }
  | _ => none }
def fnExactIsFullRow : OpenClaim := { program := "ytgloelhpnhofgaa", sum := "b7c41dd968313b82fbeee3d5f0b6cbdb8f2ad0ba6e2c27268bb0c0bf6a81c0bd", func := "loop.example/g01160/laws.FnExactIsFull", spec := "fnExactIsFull", unfollowed := true, recurses := true, apart := false }
def FnExactIsFullSaid : Prop := fnExactIsFullRow.holds Try.pinned (OpenSpec.ofChange fnExactIsFullSpec)

/-- ITS FALSE NEIGHBOUR: 'it returns false'. Refute it at one input. -/
def fnExactIsFullWrong : ChangeSpec := { name := "fnExactIsFull", fn := fun _ => fun
  | [d1, d2, d3] => { results := [.lit (.bool false)], args := [d1, d2, d3] }
  | _ => none }
def FnExactIsFullWrongFalsely : Prop := fnExactIsFullRow.holds Try.pinned (OpenSpec.ofChange fnExactIsFullWrong)

/-- 'laws.FnExactFullCells': WHATEVER THE INPUT: true; the input reads as it did. -/
def fnExactFullCellsSpec : ChangeSpec := { name := "fnExactFullCells", fn := fun _ => fun
  | [d1, d2] => { results := [.lit (.bool true)], args := [d1, d2] }
  | _ => none }
def fnExactFullCellsRow : OpenClaim := { program := "ytgloelhpnhofgaa", sum := "b7c41dd968313b82fbeee3d5f0b6cbdb8f2ad0ba6e2c27268bb0c0bf6a81c0bd", func := "loop.example/g01160/laws.FnExactFullCells", spec := "fnExactFullCells", unfollowed := true, recurses := true, apart := false }
def FnExactFullCellsSaid : Prop := fnExactFullCellsRow.holds Try.pinned (OpenSpec.ofChange fnExactFullCellsSpec)

/-- ITS FALSE NEIGHBOUR: 'it returns false'. Refute it at one input. -/
def fnExactFullCellsWrong : ChangeSpec := { name := "fnExactFullCells", fn := fun _ => fun
  | [d1, d2] => { results := [.lit (.bool false)], args := [d1, d2] }
  | _ => none }
def FnExactFullCellsWrongFalsely : Prop := fnExactFullCellsRow.holds Try.pinned (OpenSpec.ofChange fnExactFullCellsWrong)

/- THE SECOND FORM. 'bulk': how many values and letters a reading holds, each counted each time it is reached (what is shared counts as often as it is met; a slice's spare places count too). A statement '..UptoSaid' is the law's where the arguments, and the package variables that the reading takes, are together of bulk at most 1048576: NARROWER than '..Said'. Prove '..Said' where nothing that the law and all that it calls make is longer than what came in: it says more and counts as full. Else prove '..UptoSaid'. A law counts once. -/
mutual
def uptoBulk {H : Type} : DataW H → Nat
  | .lit (.string bytes) => bytes.length + 1
  | .lit _ => 1
  | .nil => 1
  | .ptr d => uptoBulk d + 1
  | .slice elems spare => uptoBulkAll elems + uptoBulkAll spare + 1
  | .agg parts => uptoBulkAll parts + 1
  | .iface _ d => uptoBulk d + 1
  | .map entries => uptoBulkEntries entries + 1
  | .held _ => 1
def uptoBulkAll {H : Type} : List (DataW H) → Nat
  | [] => 0
  | d :: r => uptoBulk d + uptoBulkAll r
def uptoBulkEntries {H : Type} : List (Lit × DataW H) → Nat
  | [] => 0
  | x :: r => uptoBulkEntry x + uptoBulkEntries r
def uptoBulkEntry {H : Type} : Lit × DataW H → Nat
  | (.string bytes, d) => bytes.length + uptoBulk d + 1
  | (_, d) => uptoBulk d + 1
 end
def uptoSmall : (H : Type) → List (DataW H) → Bool := fun _ ds => decide (uptoBulkAll ds ≤ 1048576)
def OpenSpec.upto (s : _root_.Go.ChangeSpec) : _root_.Go.OpenSpec := { _root_.Go.OpenSpec.ofChange s with cond := some uptoSmall }

/-- 'laws.FnExactWalkFrom', WHERE WHAT IT READS IS OF BULK AT MOST 1048576: true; the input reads as it did. -/
def fnExactWalkFromUptoRow : OpenClaim := { program := "ytgloelhpnhofgaa", sum := "b7c41dd968313b82fbeee3d5f0b6cbdb8f2ad0ba6e2c27268bb0c0bf6a81c0bd", func := "loop.example/g01160/laws.FnExactWalkFrom", spec := "fnExactWalkFrom", unfollowed := true, recurses := true, apart := false, narrowed := true }
def FnExactWalkFromUptoSaid : Prop := fnExactWalkFromUptoRow.holds Try.pinned (OpenSpec.upto fnExactWalkFromSpec)

/-- 'laws.FnExactExitOf', WHERE WHAT IT READS IS OF BULK AT MOST 1048576: true; the input reads as it did. -/
def fnExactExitOfUptoRow : OpenClaim := { program := "ytgloelhpnhofgaa", sum := "b7c41dd968313b82fbeee3d5f0b6cbdb8f2ad0ba6e2c27268bb0c0bf6a81c0bd", func := "loop.example/g01160/laws.FnExactExitOf", spec := "fnExactExitOf", unfollowed := true, recurses := true, apart := false, narrowed := true }
def FnExactExitOfUptoSaid : Prop := fnExactExitOfUptoRow.holds Try.pinned (OpenSpec.upto fnExactExitOfSpec)

/-- 'laws.FnExactFindFull', WHERE WHAT IT READS IS OF BULK AT MOST 1048576: true; the input reads as it did. -/
def fnExactFindFullUptoRow : OpenClaim := { program := "ytgloelhpnhofgaa", sum := "b7c41dd968313b82fbeee3d5f0b6cbdb8f2ad0ba6e2c27268bb0c0bf6a81c0bd", func := "loop.example/g01160/laws.FnExactFindFull", spec := "fnExactFindFull", unfollowed := true, recurses := true, apart := false, narrowed := true }
def FnExactFindFullUptoSaid : Prop := fnExactFindFullUptoRow.holds Try.pinned (OpenSpec.upto fnExactFindFullSpec)

/-- 'laws.FnExactPartnerOfFull', WHERE WHAT IT READS IS OF BULK AT MOST 1048576: true; the input reads as it did. -/
def fnExactPartnerOfFullUptoRow : OpenClaim := { program := "ytgloelhpnhofgaa", sum := "b7c41dd968313b82fbeee3d5f0b6cbdb8f2ad0ba6e2c27268bb0c0bf6a81c0bd", func := "loop.example/g01160/laws.FnExactPartnerOfFull", spec := "fnExactPartnerOfFull", unfollowed := true, recurses := true, apart := false, narrowed := true }
def FnExactPartnerOfFullUptoSaid : Prop := fnExactPartnerOfFullUptoRow.holds Try.pinned (OpenSpec.upto fnExactPartnerOfFullSpec)

/-- 'laws.FnExactFairCell', WHERE WHAT IT READS IS OF BULK AT MOST 1048576: true; the input reads as it did. -/
def fnExactFairCellUptoRow : OpenClaim := { program := "ytgloelhpnhofgaa", sum := "b7c41dd968313b82fbeee3d5f0b6cbdb8f2ad0ba6e2c27268bb0c0bf6a81c0bd", func := "loop.example/g01160/laws.FnExactFairCell", spec := "fnExactFairCell", unfollowed := true, recurses := true, apart := false, narrowed := true }
def FnExactFairCellUptoSaid : Prop := fnExactFairCellUptoRow.holds Try.pinned (OpenSpec.upto fnExactFairCellSpec)

/-- 'laws.FnExactFairCut', WHERE WHAT IT READS IS OF BULK AT MOST 1048576: true; the input reads as it did. -/
def fnExactFairCutUptoRow : OpenClaim := { program := "ytgloelhpnhofgaa", sum := "b7c41dd968313b82fbeee3d5f0b6cbdb8f2ad0ba6e2c27268bb0c0bf6a81c0bd", func := "loop.example/g01160/laws.FnExactFairCut", spec := "fnExactFairCut", unfollowed := true, recurses := true, apart := false, narrowed := true }
def FnExactFairCutUptoSaid : Prop := fnExactFairCutUptoRow.holds Try.pinned (OpenSpec.upto fnExactFairCutSpec)

/-- 'laws.FnExactIsDoor', WHERE WHAT IT READS IS OF BULK AT MOST 1048576: true; the input reads as it did. -/
def fnExactIsDoorUptoRow : OpenClaim := { program := "ytgloelhpnhofgaa", sum := "b7c41dd968313b82fbeee3d5f0b6cbdb8f2ad0ba6e2c27268bb0c0bf6a81c0bd", func := "loop.example/g01160/laws.FnExactIsDoor", spec := "fnExactIsDoor", unfollowed := true, recurses := true, apart := false, narrowed := true }
def FnExactIsDoorUptoSaid : Prop := fnExactIsDoorUptoRow.holds Try.pinned (OpenSpec.upto fnExactIsDoorSpec)

/-- 'laws.FnExactDoorsOf', WHERE WHAT IT READS IS OF BULK AT MOST 1048576: true; the input reads as it did. -/
def fnExactDoorsOfUptoRow : OpenClaim := { program := "ytgloelhpnhofgaa", sum := "b7c41dd968313b82fbeee3d5f0b6cbdb8f2ad0ba6e2c27268bb0c0bf6a81c0bd", func := "loop.example/g01160/laws.FnExactDoorsOf", spec := "fnExactDoorsOf", unfollowed := true, recurses := true, apart := false, narrowed := true }
def FnExactDoorsOfUptoSaid : Prop := fnExactDoorsOfUptoRow.holds Try.pinned (OpenSpec.upto fnExactDoorsOfSpec)

/-- 'laws.FnExactBorderDoors', WHERE WHAT IT READS IS OF BULK AT MOST 1048576: true; the input reads as it did. -/
def fnExactBorderDoorsUptoRow : OpenClaim := { program := "ytgloelhpnhofgaa", sum := "b7c41dd968313b82fbeee3d5f0b6cbdb8f2ad0ba6e2c27268bb0c0bf6a81c0bd", func := "loop.example/g01160/laws.FnExactBorderDoors", spec := "fnExactBorderDoors", unfollowed := true, recurses := true, apart := false, narrowed := true }
def FnExactBorderDoorsUptoSaid : Prop := fnExactBorderDoorsUptoRow.holds Try.pinned (OpenSpec.upto fnExactBorderDoorsSpec)

/-- 'laws.FnExactDoorsOfCell', WHERE WHAT IT READS IS OF BULK AT MOST 1048576: true; the input reads as it did. -/
def fnExactDoorsOfCellUptoRow : OpenClaim := { program := "ytgloelhpnhofgaa", sum := "b7c41dd968313b82fbeee3d5f0b6cbdb8f2ad0ba6e2c27268bb0c0bf6a81c0bd", func := "loop.example/g01160/laws.FnExactDoorsOfCell", spec := "fnExactDoorsOfCell", unfollowed := true, recurses := true, apart := false, narrowed := true }
def FnExactDoorsOfCellUptoSaid : Prop := fnExactDoorsOfCellUptoRow.holds Try.pinned (OpenSpec.upto fnExactDoorsOfCellSpec)

/-- 'laws.FnExactIsFull', WHERE WHAT IT READS IS OF BULK AT MOST 1048576: true; the input reads as it did. -/
def fnExactIsFullUptoRow : OpenClaim := { program := "ytgloelhpnhofgaa", sum := "b7c41dd968313b82fbeee3d5f0b6cbdb8f2ad0ba6e2c27268bb0c0bf6a81c0bd", func := "loop.example/g01160/laws.FnExactIsFull", spec := "fnExactIsFull", unfollowed := true, recurses := true, apart := false, narrowed := true }
def FnExactIsFullUptoSaid : Prop := fnExactIsFullUptoRow.holds Try.pinned (OpenSpec.upto fnExactIsFullSpec)

/-- 'laws.FnExactFullCells', WHERE WHAT IT READS IS OF BULK AT MOST 1048576: true; the input reads as it did. -/
def fnExactFullCellsUptoRow : OpenClaim := { program := "ytgloelhpnhofgaa", sum := "b7c41dd968313b82fbeee3d5f0b6cbdb8f2ad0ba6e2c27268bb0c0bf6a81c0bd", func := "loop.example/g01160/laws.FnExactFullCells", spec := "fnExactFullCells", unfollowed := true, recurses := true, apart := false, narrowed := true }
def FnExactFullCellsUptoSaid : Prop := fnExactFullCellsUptoRow.holds Try.pinned (OpenSpec.upto fnExactFullCellsSpec)

end Rows
end Go.Proofs.Ytgloelhpnhofgaa
