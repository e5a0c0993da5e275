/-
  No cell of these rows narrows 'for every input' (looked for: loops, veiled, ifaces, maps, wideKeys, modest, calm, conditions, laid).
  DERIVED. THE GIVEN ROWS OF THIS SEAT. 6 by the template 'for every input the law returns true; each argument reads behind the call as it read before'; 0 by the template 'total and deterministic' (their statements: YtgblcohgnagpcaaTotals.lean).
  GIVEN WITH THE SEED: the statements are not yours to turn. If you find one false, say at which input.
  Laid BY PROGRAM, IN A SANDBOX (cutbox-rows.mjs): the forced cells as the released guide's own fill.sh prints them over the translation 607e7eeb162a2f93… (all of the seat's roots in one cut). By AI agents, Wed Nov 11 2026. No macro, syntax, notation, axiom, sorry.
-/
import Derived.Test.YtgblcohgnagpcaaChecked
import GoSem.Claim
import GoSem.ClaimJoined
import GoSem.ClaimMapViews
import Derived.JoinedTies
import Derived.KernelRfl
namespace Go.Proofs.Ytgblcohgnagpcaa
/- THE CELL 'sum', in the pinned program and in every row, IS THE sha256 OF THE DUMP (.gsa) THAT YtgblcohgnagpcaaProg.lean LOADS. Nothing in Lean hashes anything: it is a label: what it is worth is what the hold of that sum in a sandbox is worth. -/
noncomputable def Try.pinned : Pinned := { name := "ytgblcohgnagpcaa", sum := "607e7eeb162a2f934258d53cc5eae9972785c3ef00882a31bb3717d8c4e387b8", checked := Try.checked }
namespace Rows
def none {H : Type} : Left H := { results := [], args := [] }

/-- 'laws.FnExactConstantImages': WHATEVER THE INPUT: true; the input reads as it did. -/
def fnExactConstantImagesSpec : ChangeSpec := { name := "fnExactConstantImages", fn := fun _ => fun
  | [d1, d2] => { results := [.lit (.bool true)], args := [d1, d2] }
  | _ => none }
def fnExactConstantImagesRow : OpenClaim := { program := "ytgblcohgnagpcaa", sum := "607e7eeb162a2f934258d53cc5eae9972785c3ef00882a31bb3717d8c4e387b8", func := "loop.example/g01160/laws.FnExactConstantImages", spec := "fnExactConstantImages", unfollowed := true, recurses := true, apart := false }
def FnExactConstantImagesSaid : Prop := fnExactConstantImagesRow.holds Try.pinned (OpenSpec.ofChange fnExactConstantImagesSpec)

/-- ITS FALSE NEIGHBOUR: 'it returns false'. Refute it at one input. -/
def fnExactConstantImagesWrong : ChangeSpec := { name := "fnExactConstantImages", fn := fun _ => fun
  | [d1, d2] => { results := [.lit (.bool false)], args := [d1, d2] }
  | _ => none }
def FnExactConstantImagesWrongFalsely : Prop := fnExactConstantImagesRow.holds Try.pinned (OpenSpec.ofChange fnExactConstantImagesWrong)

/-- 'laws.FnExactTurnedImages': WHATEVER THE INPUT: true; the input reads as it did. -/
def fnExactTurnedImagesSpec : ChangeSpec := { name := "fnExactTurnedImages", fn := fun _ => fun
  | [d1, d2] => { results := [.lit (.bool true)], args := [d1, d2] }
  | _ => none }
def fnExactTurnedImagesRow : OpenClaim := { program := "ytgblcohgnagpcaa", sum := "607e7eeb162a2f934258d53cc5eae9972785c3ef00882a31bb3717d8c4e387b8", func := "loop.example/g01160/laws.FnExactTurnedImages", spec := "fnExactTurnedImages", unfollowed := true, recurses := true, apart := false }
def FnExactTurnedImagesSaid : Prop := fnExactTurnedImagesRow.holds Try.pinned (OpenSpec.ofChange fnExactTurnedImagesSpec)

/-- ITS FALSE NEIGHBOUR: 'it returns false'. Refute it at one input. -/
def fnExactTurnedImagesWrong : ChangeSpec := { name := "fnExactTurnedImages", fn := fun _ => fun
  | [d1, d2] => { results := [.lit (.bool false)], args := [d1, d2] }
  | _ => none }
def FnExactTurnedImagesWrongFalsely : Prop := fnExactTurnedImagesRow.holds Try.pinned (OpenSpec.ofChange fnExactTurnedImagesWrong)

/-- 'laws.FnExactIndexOfPoint': WHATEVER THE INPUT: true; the input reads as it did. -/
def fnExactIndexOfPointSpec : ChangeSpec := { name := "fnExactIndexOfPoint", fn := fun _ => fun
  | [d1, d2] => { results := [.lit (.bool true)], args := [d1, d2] }
  | _ => none }
def fnExactIndexOfPointRow : OpenClaim := { program := "ytgblcohgnagpcaa", sum := "607e7eeb162a2f934258d53cc5eae9972785c3ef00882a31bb3717d8c4e387b8", func := "loop.example/g01160/laws.FnExactIndexOfPoint", spec := "fnExactIndexOfPoint", apart := false }
def FnExactIndexOfPointSaid : Prop := fnExactIndexOfPointRow.holds Try.pinned (OpenSpec.ofChange fnExactIndexOfPointSpec)

/-- ITS FALSE NEIGHBOUR: 'it returns false'. Refute it at one input. -/
def fnExactIndexOfPointWrong : ChangeSpec := { name := "fnExactIndexOfPoint", fn := fun _ => fun
  | [d1, d2] => { results := [.lit (.bool false)], args := [d1, d2] }
  | _ => none }
def FnExactIndexOfPointWrongFalsely : Prop := fnExactIndexOfPointRow.holds Try.pinned (OpenSpec.ofChange fnExactIndexOfPointWrong)

/-- 'laws.FnExactIsUpCell': WHATEVER THE INPUT: true; the input reads as it did. -/
def fnExactIsUpCellSpec : ChangeSpec := { name := "fnExactIsUpCell", fn := fun _ => fun
  | [d1, d2] => { results := [.lit (.bool true)], args := [d1, d2] }
  | _ => none }
def fnExactIsUpCellRow : OpenClaim := { program := "ytgblcohgnagpcaa", sum := "607e7eeb162a2f934258d53cc5eae9972785c3ef00882a31bb3717d8c4e387b8", func := "loop.example/g01160/laws.FnExactIsUpCell", spec := "fnExactIsUpCell", apart := false }
def FnExactIsUpCellSaid : Prop := fnExactIsUpCellRow.holds Try.pinned (OpenSpec.ofChange fnExactIsUpCellSpec)

/-- ITS FALSE NEIGHBOUR: 'it returns false'. Refute it at one input. -/
def fnExactIsUpCellWrong : ChangeSpec := { name := "fnExactIsUpCell", fn := fun _ => fun
  | [d1, d2] => { results := [.lit (.bool false)], args := [d1, d2] }
  | _ => none }
def FnExactIsUpCellWrongFalsely : Prop := fnExactIsUpCellRow.holds Try.pinned (OpenSpec.ofChange fnExactIsUpCellWrong)

/-- 'laws.FnExactCellsOf': WHATEVER THE INPUT: true; the input reads as it did. -/
def fnExactCellsOfSpec : ChangeSpec := { name := "fnExactCellsOf", fn := fun _ => fun
  | [d] => { results := [.lit (.bool true)], args := [d] }
  | _ => none }
def fnExactCellsOfRow : OpenClaim := { program := "ytgblcohgnagpcaa", sum := "607e7eeb162a2f934258d53cc5eae9972785c3ef00882a31bb3717d8c4e387b8", func := "loop.example/g01160/laws.FnExactCellsOf", spec := "fnExactCellsOf", apart := false }
def FnExactCellsOfSaid : Prop := fnExactCellsOfRow.holds Try.pinned (OpenSpec.ofChange fnExactCellsOfSpec)

/-- ITS FALSE NEIGHBOUR: 'it returns false'. Refute it at one input. -/
def fnExactCellsOfWrong : ChangeSpec := { name := "fnExactCellsOf", fn := fun _ => fun
  | [d] => { results := [.lit (.bool false)], args := [d] }
  | _ => none }
def FnExactCellsOfWrongFalsely : Prop := fnExactCellsOfRow.holds Try.pinned (OpenSpec.ofChange fnExactCellsOfWrong)

/-- 'laws.FnExactSquareCells': WHATEVER THE INPUT: true; the input reads as it did. -/
def fnExactSquareCellsSpec : ChangeSpec := { name := "fnExactSquareCells", fn := fun _ => fun
  | [d] => { results := [.lit (.bool true)], args := [d] }
  | _ => none }
def fnExactSquareCellsRow : OpenClaim := { program := "ytgblcohgnagpcaa", sum := "607e7eeb162a2f934258d53cc5eae9972785c3ef00882a31bb3717d8c4e387b8", func := "loop.example/g01160/laws.FnExactSquareCells", spec := "fnExactSquareCells", apart := false }
def FnExactSquareCellsSaid : Prop := fnExactSquareCellsRow.holds Try.pinned (OpenSpec.ofChange fnExactSquareCellsSpec)

/-- ITS FALSE NEIGHBOUR: 'it returns false'. Refute it at one input. -/
def fnExactSquareCellsWrong : ChangeSpec := { name := "fnExactSquareCells", fn := fun _ => fun
  | [d] => { results := [.lit (.bool false)], args := [d] }
  | _ => none }
def FnExactSquareCellsWrongFalsely : Prop := fnExactSquareCellsRow.holds Try.pinned (OpenSpec.ofChange fnExactSquareCellsWrong)

/- THE SECOND FORM. 'bulk': how many values and letters a reading holds, each counted each time it is reached (what is shared counts as often as it is met; a slice's spare places count too). A statement '..UptoSaid' is the law's where the arguments, and the package variables that the reading takes, are together of bulk at most 1048576: NARROWER than '..Said'. Prove '..Said' where nothing that the law and all that it calls make is longer than what came in: it says more and counts as full. Else prove '..UptoSaid'. A law counts once. -/
mutual
def uptoBulk {H : Type} : DataW H → Nat
  | .lit (.string bytes) => bytes.length + 1
  | .lit _ => 1
  | .nil => 1
  | .ptr d => uptoBulk d + 1
  | .slice elems spare => uptoBulkAll elems + uptoBulkAll spare + 1
  | .agg parts => uptoBulkAll parts + 1
  | .iface _ d => uptoBulk d + 1
  | .map entries => uptoBulkEntries entries + 1
  | .held _ => 1
def uptoBulkAll {H : Type} : List (DataW H) → Nat
  | [] => 0
  | d :: r => uptoBulk d + uptoBulkAll r
def uptoBulkEntries {H : Type} : List (Lit × DataW H) → Nat
  | [] => 0
  | x :: r => uptoBulkEntry x + uptoBulkEntries r
def uptoBulkEntry {H : Type} : Lit × DataW H → Nat
  | (.string bytes, d) => bytes.length + uptoBulk d + 1
  | (_, d) => uptoBulk d + 1
 end
def uptoSmall : (H : Type) → List (DataW H) → Bool := fun _ ds => decide (uptoBulkAll ds ≤ 1048576)
def OpenSpec.upto (s : _root_.Go.ChangeSpec) : _root_.Go.OpenSpec := { _root_.Go.OpenSpec.ofChange s with cond := some uptoSmall }

/-- 'laws.FnExactConstantImages', WHERE WHAT IT READS IS OF BULK AT MOST 1048576: true; the input reads as it did. -/
def fnExactConstantImagesUptoRow : OpenClaim := { program := "ytgblcohgnagpcaa", sum := "607e7eeb162a2f934258d53cc5eae9972785c3ef00882a31bb3717d8c4e387b8", func := "loop.example/g01160/laws.FnExactConstantImages", spec := "fnExactConstantImages", unfollowed := true, recurses := true, apart := false, narrowed := true }
def FnExactConstantImagesUptoSaid : Prop := fnExactConstantImagesUptoRow.holds Try.pinned (OpenSpec.upto fnExactConstantImagesSpec)

/-- 'laws.FnExactTurnedImages', WHERE WHAT IT READS IS OF BULK AT MOST 1048576: true; the input reads as it did. -/
def fnExactTurnedImagesUptoRow : OpenClaim := { program := "ytgblcohgnagpcaa", sum := "607e7eeb162a2f934258d53cc5eae9972785c3ef00882a31bb3717d8c4e387b8", func := "loop.example/g01160/laws.FnExactTurnedImages", spec := "fnExactTurnedImages", unfollowed := true, recurses := true, apart := false, narrowed := true }
def FnExactTurnedImagesUptoSaid : Prop := fnExactTurnedImagesUptoRow.holds Try.pinned (OpenSpec.upto fnExactTurnedImagesSpec)

/-- 'laws.FnExactIndexOfPoint', WHERE WHAT IT READS IS OF BULK AT MOST 1048576: true; the input reads as it did. -/
def fnExactIndexOfPointUptoRow : OpenClaim := { program := "ytgblcohgnagpcaa", sum := "607e7eeb162a2f934258d53cc5eae9972785c3ef00882a31bb3717d8c4e387b8", func := "loop.example/g01160/laws.FnExactIndexOfPoint", spec := "fnExactIndexOfPoint", apart := false, narrowed := true }
def FnExactIndexOfPointUptoSaid : Prop := fnExactIndexOfPointUptoRow.holds Try.pinned (OpenSpec.upto fnExactIndexOfPointSpec)

/-- 'laws.FnExactIsUpCell', WHERE WHAT IT READS IS OF BULK AT MOST 1048576: true; the input reads as it did. -/
def fnExactIsUpCellUptoRow : OpenClaim := { program := "ytgblcohgnagpcaa", sum := "607e7eeb162a2f934258d53cc5eae9972785c3ef00882a31bb3717d8c4e387b8", func := "loop.example/g01160/laws.FnExactIsUpCell", spec := "fnExactIsUpCell", apart := false, narrowed := true }
def FnExactIsUpCellUptoSaid : Prop := fnExactIsUpCellUptoRow.holds Try.pinned (OpenSpec.upto fnExactIsUpCellSpec)

/-- 'laws.FnExactCellsOf', WHERE WHAT IT READS IS OF BULK AT MOST 1048576: true; the input reads as it did. -/
def fnExactCellsOfUptoRow : OpenClaim := { program := "ytgblcohgnagpcaa", sum := "607e7eeb162a2f934258d53cc5eae9972785c3ef00882a31bb3717d8c4e387b8", func := "loop.example/g01160/laws.FnExactCellsOf", spec := "fnExactCellsOf", apart := false, narrowed := true }
def FnExactCellsOfUptoSaid : Prop := fnExactCellsOfUptoRow.holds Try.pinned (OpenSpec.upto fnExactCellsOfSpec)

/-- 'laws.FnExactSquareCells', WHERE WHAT IT READS IS OF BULK AT MOST 1048576: true; the input reads as it did. -/
def fnExactSquareCellsUptoRow : OpenClaim := { program := "ytgblcohgnagpcaa", sum := "607e7eeb162a2f934258d53cc5eae9972785c3ef00882a31bb3717d8c4e387b8", func := "loop.example/g01160/laws.FnExactSquareCells", spec := "fnExactSquareCells", apart := false, narrowed := true }
def FnExactSquareCellsUptoSaid : Prop := fnExactSquareCellsUptoRow.holds Try.pinned (OpenSpec.upto fnExactSquareCellsSpec)

end Rows
end Go.Proofs.Ytgblcohgnagpcaa
