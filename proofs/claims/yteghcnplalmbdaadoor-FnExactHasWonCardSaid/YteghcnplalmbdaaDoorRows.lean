/-
  NARROWER THAN 'FOR EVERY INPUT', by the rows' own cells (each row's printed sentence says how): FnExactNeedOf: laid · FnExactHasWon: laid · FnExactWinnerOf: laid.
  DERIVED. THE GIVEN ROWS OF THIS SEAT. 3 by the template 'for every input the law returns true; each argument reads behind the call as it read before'; 0 by the template 'total and deterministic' (their statements: YteghcnplalmbdaaDoorTotals.lean).
  GIVEN WITH THE SEED: the statements are not yours to turn. If you find one false, say at which input.
  Laid BY PROGRAM, IN A SANDBOX (cutbox-rows.mjs): the forced cells as the released guide's own fill.sh prints them over the translation 05d5e923e0ceec8d… (all of the seat's roots in one cut). By AI agents, Wed Nov 11 2026. No macro, syntax, notation, axiom, sorry.
-/
import Derived.Test.YteghcnplalmbdaaDoorChecked
import GoSem.Claim
import GoSem.ClaimJoined
import GoSem.ClaimMapViews
import Derived.JoinedTies
import Derived.KernelRfl
namespace Go.Proofs.YteghcnplalmbdaaDoor
/- THE CELL 'sum', in the pinned program and in every row, IS THE sha256 OF THE DUMP (.gsa) THAT YteghcnplalmbdaaDoorProg.lean LOADS. Nothing in Lean hashes anything: it is a label: what it is worth is what the hold of that sum in a sandbox is worth. -/
noncomputable def Tryd.pinned : Pinned := { name := "yteghcnplalmbdaadoor", sum := "05d5e923e0ceec8d60673416bfdc67b01d1c167c80ff065f93c3a1c2f46a17ac", checked := Tryd.checked }
namespace Rows
def none {H : Type} : Left H := { results := [], args := [] }

/- WHAT THE LISTED PACKAGE-LEVEL VARIABLES READ AS WHEN THE CALL BEGINS. Each datum BY PROGRAM (the guide's laid-datum.mjs) off the statement by which the dump's own 'gosem.cut.vars' lays the variable. In a bare row this is a premise. The card (YteghcnplalmbdaaDoorCards.lean) ties it to the program's text. -/
def laid_loop_example_g01160_impl_hexSteps {H : Type} : DataW H := .agg [.agg [.lit (.int .i64 (-1)), .lit (.int .i64 0)], .agg [.lit (.int .i64 (-1)), .lit (.int .i64 1)], .agg [.lit (.int .i64 0), .lit (.int .i64 (-1))], .agg [.lit (.int .i64 0), .lit (.int .i64 1)], .agg [.lit (.int .i64 1), .lit (.int .i64 (-1))], .agg [.lit (.int .i64 1), .lit (.int .i64 0)]]

/-- 'laws.FnExactNeedOf': WHATEVER THE INPUT: true; the input reads as it did. -/
def fnExactNeedOfSpec : ChangeSpec := { name := "fnExactNeedOf", vars := ["loop.example/g01160/impl.hexSteps"], fn := fun _ => fun
  | [d1, d2, d3, d4, g1] => { results := [.lit (.bool true)], args := [d1, d2, d3, d4], vars := [g1] }
  | _ => none }
def fnExactNeedOfRow : OpenClaim := { program := "yteghcnplalmbdaadoor", sum := "05d5e923e0ceec8d60673416bfdc67b01d1c167c80ff065f93c3a1c2f46a17ac", func := "loop.example/g01160/laws.FnExactNeedOf", spec := "fnExactNeedOf", unfollowed := true, recurses := true, named := ["loop.example/g01160/impl.hexSteps"], apart := false, laid := [("loop.example/g01160/impl.hexSteps", laid_loop_example_g01160_impl_hexSteps)] }
def FnExactNeedOfSaid : Prop := fnExactNeedOfRow.holds Tryd.pinned (OpenSpec.ofChange fnExactNeedOfSpec)

/-- ITS FALSE NEIGHBOUR: 'it returns false'. Refute it at one input. -/
def fnExactNeedOfWrong : ChangeSpec := { name := "fnExactNeedOf", vars := ["loop.example/g01160/impl.hexSteps"], fn := fun _ => fun
  | [d1, d2, d3, d4, g1] => { results := [.lit (.bool false)], args := [d1, d2, d3, d4], vars := [g1] }
  | _ => none }
def FnExactNeedOfWrongFalsely : Prop := fnExactNeedOfRow.holds Tryd.pinned (OpenSpec.ofChange fnExactNeedOfWrong)

/-- 'laws.FnExactHasWon': WHATEVER THE INPUT: true; the input reads as it did. -/
def fnExactHasWonSpec : ChangeSpec := { name := "fnExactHasWon", vars := ["loop.example/g01160/impl.hexSteps"], fn := fun _ => fun
  | [d1, d2, d3, d4, g1] => { results := [.lit (.bool true)], args := [d1, d2, d3, d4], vars := [g1] }
  | _ => none }
def fnExactHasWonRow : OpenClaim := { program := "yteghcnplalmbdaadoor", sum := "05d5e923e0ceec8d60673416bfdc67b01d1c167c80ff065f93c3a1c2f46a17ac", func := "loop.example/g01160/laws.FnExactHasWon", spec := "fnExactHasWon", unfollowed := true, recurses := true, named := ["loop.example/g01160/impl.hexSteps"], apart := false, laid := [("loop.example/g01160/impl.hexSteps", laid_loop_example_g01160_impl_hexSteps)] }
def FnExactHasWonSaid : Prop := fnExactHasWonRow.holds Tryd.pinned (OpenSpec.ofChange fnExactHasWonSpec)

/-- ITS FALSE NEIGHBOUR: 'it returns false'. Refute it at one input. -/
def fnExactHasWonWrong : ChangeSpec := { name := "fnExactHasWon", vars := ["loop.example/g01160/impl.hexSteps"], fn := fun _ => fun
  | [d1, d2, d3, d4, g1] => { results := [.lit (.bool false)], args := [d1, d2, d3, d4], vars := [g1] }
  | _ => none }
def FnExactHasWonWrongFalsely : Prop := fnExactHasWonRow.holds Tryd.pinned (OpenSpec.ofChange fnExactHasWonWrong)

/-- 'laws.FnExactWinnerOf': WHATEVER THE INPUT: true; the input reads as it did. -/
def fnExactWinnerOfSpec : ChangeSpec := { name := "fnExactWinnerOf", vars := ["loop.example/g01160/impl.hexSteps"], fn := fun _ => fun
  | [d1, d2, d3, g1] => { results := [.lit (.bool true)], args := [d1, d2, d3], vars := [g1] }
  | _ => none }
def fnExactWinnerOfRow : OpenClaim := { program := "yteghcnplalmbdaadoor", sum := "05d5e923e0ceec8d60673416bfdc67b01d1c167c80ff065f93c3a1c2f46a17ac", func := "loop.example/g01160/laws.FnExactWinnerOf", spec := "fnExactWinnerOf", unfollowed := true, recurses := true, named := ["loop.example/g01160/impl.hexSteps"], apart := false, laid := [("loop.example/g01160/impl.hexSteps", laid_loop_example_g01160_impl_hexSteps)] }
def FnExactWinnerOfSaid : Prop := fnExactWinnerOfRow.holds Tryd.pinned (OpenSpec.ofChange fnExactWinnerOfSpec)

/-- ITS FALSE NEIGHBOUR: 'it returns false'. Refute it at one input. -/
def fnExactWinnerOfWrong : ChangeSpec := { name := "fnExactWinnerOf", vars := ["loop.example/g01160/impl.hexSteps"], fn := fun _ => fun
  | [d1, d2, d3, g1] => { results := [.lit (.bool false)], args := [d1, d2, d3], vars := [g1] }
  | _ => none }
def FnExactWinnerOfWrongFalsely : Prop := fnExactWinnerOfRow.holds Tryd.pinned (OpenSpec.ofChange fnExactWinnerOfWrong)

/- THE SECOND FORM. 'bulk': how many values and letters a reading holds, each counted each time it is reached (what is shared counts as often as it is met; a slice's spare places count too). A statement '..UptoSaid' is the law's where the arguments, and the package variables that the reading takes, are together of bulk at most 1048576: NARROWER than '..Said'. Prove '..Said' where nothing that the law and all that it calls make is longer than what came in: it says more and counts as full. Else prove '..UptoSaid'. A law counts once. -/
mutual
def uptoBulk {H : Type} : DataW H → Nat
  | .lit (.string bytes) => bytes.length + 1
  | .lit _ => 1
  | .nil => 1
  | .ptr d => uptoBulk d + 1
  | .slice elems spare => uptoBulkAll elems + uptoBulkAll spare + 1
  | .agg parts => uptoBulkAll parts + 1
  | .iface _ d => uptoBulk d + 1
  | .map entries => uptoBulkEntries entries + 1
  | .held _ => 1
def uptoBulkAll {H : Type} : List (DataW H) → Nat
  | [] => 0
  | d :: r => uptoBulk d + uptoBulkAll r
def uptoBulkEntries {H : Type} : List (Lit × DataW H) → Nat
  | [] => 0
  | x :: r => uptoBulkEntry x + uptoBulkEntries r
def uptoBulkEntry {H : Type} : Lit × DataW H → Nat
  | (.string bytes, d) => bytes.length + uptoBulk d + 1
  | (_, d) => uptoBulk d + 1
 end
def uptoSmall : (H : Type) → List (DataW H) → Bool := fun _ ds => decide (uptoBulkAll ds ≤ 1048576)
def OpenSpec.upto (s : _root_.Go.ChangeSpec) : _root_.Go.OpenSpec := { _root_.Go.OpenSpec.ofChange s with cond := some uptoSmall }

/-- 'laws.FnExactNeedOf', WHERE WHAT IT READS IS OF BULK AT MOST 1048576: true; the input reads as it did. -/
def fnExactNeedOfUptoRow : OpenClaim := { program := "yteghcnplalmbdaadoor", sum := "05d5e923e0ceec8d60673416bfdc67b01d1c167c80ff065f93c3a1c2f46a17ac", func := "loop.example/g01160/laws.FnExactNeedOf", spec := "fnExactNeedOf", unfollowed := true, recurses := true, named := ["loop.example/g01160/impl.hexSteps"], apart := false, laid := [("loop.example/g01160/impl.hexSteps", laid_loop_example_g01160_impl_hexSteps)], narrowed := true }
def FnExactNeedOfUptoSaid : Prop := fnExactNeedOfUptoRow.holds Tryd.pinned (OpenSpec.upto fnExactNeedOfSpec)

/-- 'laws.FnExactHasWon', WHERE WHAT IT READS IS OF BULK AT MOST 1048576: true; the input reads as it did. -/
def fnExactHasWonUptoRow : OpenClaim := { program := "yteghcnplalmbdaadoor", sum := "05d5e923e0ceec8d60673416bfdc67b01d1c167c80ff065f93c3a1c2f46a17ac", func := "loop.example/g01160/laws.FnExactHasWon", spec := "fnExactHasWon", unfollowed := true, recurses := true, named := ["loop.example/g01160/impl.hexSteps"], apart := false, laid := [("loop.example/g01160/impl.hexSteps", laid_loop_example_g01160_impl_hexSteps)], narrowed := true }
def FnExactHasWonUptoSaid : Prop := fnExactHasWonUptoRow.holds Tryd.pinned (OpenSpec.upto fnExactHasWonSpec)

/-- 'laws.FnExactWinnerOf', WHERE WHAT IT READS IS OF BULK AT MOST 1048576: true; the input reads as it did. -/
def fnExactWinnerOfUptoRow : OpenClaim := { program := "yteghcnplalmbdaadoor", sum := "05d5e923e0ceec8d60673416bfdc67b01d1c167c80ff065f93c3a1c2f46a17ac", func := "loop.example/g01160/laws.FnExactWinnerOf", spec := "fnExactWinnerOf", unfollowed := true, recurses := true, named := ["loop.example/g01160/impl.hexSteps"], apart := false, laid := [("loop.example/g01160/impl.hexSteps", laid_loop_example_g01160_impl_hexSteps)], narrowed := true }
def FnExactWinnerOfUptoSaid : Prop := fnExactWinnerOfUptoRow.holds Tryd.pinned (OpenSpec.upto fnExactWinnerOfSpec)

end Rows
end Go.Proofs.YteghcnplalmbdaaDoor
