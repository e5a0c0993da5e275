/-
  NARROWER THAN 'FOR EVERY INPUT', by the rows' own cells (each row's printed sentence says how): FnExactLeastEnvy: laid · FnExactBestCut: laid · FnExactFairRent: laid · FnLeastEnvy: laid · FnRentsAreFair: laid.
  DERIVED. THE GIVEN ROWS OF THIS SEAT. 5 by the template 'for every input the law returns true; each argument reads behind the call as it read before'; 0 by the template 'total and deterministic' (their statements: YtncpnkcdjfohgaaDoorTotals.lean).
  GIVEN WITH THE SEED: the statements are not yours to turn. If you find one false, say at which input.
  Laid BY PROGRAM, IN A SANDBOX (cutbox-rows.mjs): the forced cells as the released guide's own fill.sh prints them over the translation f5f0fbd813c40262… (all of the seat's roots in one cut). By AI agents, Wed Nov 11 2026. No macro, syntax, notation, axiom, sorry.
-/
import Derived.Test.YtncpnkcdjfohgaaDoorChecked
import GoSem.Claim
import GoSem.ClaimJoined
import GoSem.ClaimMapViews
import Derived.JoinedTies
import Derived.KernelRfl
namespace Go.Proofs.YtncpnkcdjfohgaaDoor
/- THE CELL 'sum', in the pinned program and in every row, IS THE sha256 OF THE DUMP (.gsa) THAT YtncpnkcdjfohgaaDoorProg.lean LOADS. Nothing in Lean hashes anything: it is a label: what it is worth is what the hold of that sum in a sandbox is worth. -/
noncomputable def Tryd.pinned : Pinned := { name := "ytncpnkcdjfohgaadoor", sum := "f5f0fbd813c40262727ab2fc644c94145593af54a4ced1d6ae47736351d90ba4", checked := Tryd.checked }
namespace Rows
def none {H : Type} : Left H := { results := [], args := [] }

/- WHAT THE LISTED PACKAGE-LEVEL VARIABLES READ AS WHEN THE CALL BEGINS. Each datum BY PROGRAM (the guide's laid-datum.mjs) off the statement by which the dump's own 'gosem.cut.vars' lays the variable. In a bare row this is a premise. The card (YtncpnkcdjfohgaaDoorCards.lean) ties it to the program's text. -/
def laid_loop_example_g01160_impl_sharings {H : Type} : DataW H := .agg [.agg [.lit (.int .i64 0), .lit (.int .i64 1), .lit (.int .i64 2)], .agg [.lit (.int .i64 0), .lit (.int .i64 2), .lit (.int .i64 1)], .agg [.lit (.int .i64 1), .lit (.int .i64 0), .lit (.int .i64 2)], .agg [.lit (.int .i64 1), .lit (.int .i64 2), .lit (.int .i64 0)], .agg [.lit (.int .i64 2), .lit (.int .i64 0), .lit (.int .i64 1)], .agg [.lit (.int .i64 2), .lit (.int .i64 1), .lit (.int .i64 0)]]

/-- 'laws.FnExactLeastEnvy': WHATEVER THE INPUT: true; the input reads as it did. -/
def fnExactLeastEnvySpec : ChangeSpec := { name := "fnExactLeastEnvy", vars := ["loop.example/g01160/impl.sharings"], fn := fun _ => fun
  | [d1, d2, g1] => { results := [.lit (.bool true)], args := [d1, d2], vars := [g1] }
  | _ => none }
def fnExactLeastEnvyRow : OpenClaim := { program := "ytncpnkcdjfohgaadoor", sum := "f5f0fbd813c40262727ab2fc644c94145593af54a4ced1d6ae47736351d90ba4", func := "loop.example/g01160/laws.FnExactLeastEnvy", spec := "fnExactLeastEnvy", unfollowed := true, recurses := true, named := ["loop.example/g01160/impl.sharings"], apart := false, laid := [("loop.example/g01160/impl.sharings", laid_loop_example_g01160_impl_sharings)] }
def FnExactLeastEnvySaid : Prop := fnExactLeastEnvyRow.holds Tryd.pinned (OpenSpec.ofChange fnExactLeastEnvySpec)

/-- ITS FALSE NEIGHBOUR: 'it returns false'. Refute it at one input. -/
def fnExactLeastEnvyWrong : ChangeSpec := { name := "fnExactLeastEnvy", vars := ["loop.example/g01160/impl.sharings"], fn := fun _ => fun
  | [d1, d2, g1] => { results := [.lit (.bool false)], args := [d1, d2], vars := [g1] }
  | _ => none }
def FnExactLeastEnvyWrongFalsely : Prop := fnExactLeastEnvyRow.holds Tryd.pinned (OpenSpec.ofChange fnExactLeastEnvyWrong)

/-- 'laws.FnExactBestCut': WHATEVER THE INPUT: true; the input reads as it did. -/
def fnExactBestCutSpec : ChangeSpec := { name := "fnExactBestCut", vars := ["loop.example/g01160/impl.sharings"], fn := fun _ => fun
  | [d1, d2, g1] => { results := [.lit (.bool true)], args := [d1, d2], vars := [g1] }
  | _ => none }
def fnExactBestCutRow : OpenClaim := { program := "ytncpnkcdjfohgaadoor", sum := "f5f0fbd813c40262727ab2fc644c94145593af54a4ced1d6ae47736351d90ba4", func := "loop.example/g01160/laws.FnExactBestCut", spec := "fnExactBestCut", unfollowed := true, recurses := true, named := ["loop.example/g01160/impl.sharings"], apart := false, laid := [("loop.example/g01160/impl.sharings", laid_loop_example_g01160_impl_sharings)] }
def FnExactBestCutSaid : Prop := fnExactBestCutRow.holds Tryd.pinned (OpenSpec.ofChange fnExactBestCutSpec)

/-- ITS FALSE NEIGHBOUR: 'it returns false'. Refute it at one input. -/
def fnExactBestCutWrong : ChangeSpec := { name := "fnExactBestCut", vars := ["loop.example/g01160/impl.sharings"], fn := fun _ => fun
  | [d1, d2, g1] => { results := [.lit (.bool false)], args := [d1, d2], vars := [g1] }
  | _ => none }
def FnExactBestCutWrongFalsely : Prop := fnExactBestCutRow.holds Tryd.pinned (OpenSpec.ofChange fnExactBestCutWrong)

/-- 'laws.FnExactFairRent': WHATEVER THE INPUT: true; the input reads as it did. -/
def fnExactFairRentSpec : ChangeSpec := { name := "fnExactFairRent", vars := ["loop.example/g01160/impl.sharings"], fn := fun _ => fun
  | [d1, d2, g1] => { results := [.lit (.bool true)], args := [d1, d2], vars := [g1] }
  | _ => none }
def fnExactFairRentRow : OpenClaim := { program := "ytncpnkcdjfohgaadoor", sum := "f5f0fbd813c40262727ab2fc644c94145593af54a4ced1d6ae47736351d90ba4", func := "loop.example/g01160/laws.FnExactFairRent", spec := "fnExactFairRent", unfollowed := true, recurses := true, named := ["loop.example/g01160/impl.sharings"], apart := false, laid := [("loop.example/g01160/impl.sharings", laid_loop_example_g01160_impl_sharings)] }
def FnExactFairRentSaid : Prop := fnExactFairRentRow.holds Tryd.pinned (OpenSpec.ofChange fnExactFairRentSpec)

/-- ITS FALSE NEIGHBOUR: 'it returns false'. Refute it at one input. -/
def fnExactFairRentWrong : ChangeSpec := { name := "fnExactFairRent", vars := ["loop.example/g01160/impl.sharings"], fn := fun _ => fun
  | [d1, d2, g1] => { results := [.lit (.bool false)], args := [d1, d2], vars := [g1] }
  | _ => none }
def FnExactFairRentWrongFalsely : Prop := fnExactFairRentRow.holds Tryd.pinned (OpenSpec.ofChange fnExactFairRentWrong)

/-- 'laws.FnLeastEnvy': WHATEVER THE INPUT: true; the input reads as it did. -/
def fnLeastEnvySpec : ChangeSpec := { name := "fnLeastEnvy", vars := ["loop.example/g01160/impl.sharings"], fn := fun _ => fun
  | [d1, d2, g1] => { results := [.lit (.bool true)], args := [d1, d2], vars := [g1] }
  | _ => none }
def fnLeastEnvyRow : OpenClaim := { program := "ytncpnkcdjfohgaadoor", sum := "f5f0fbd813c40262727ab2fc644c94145593af54a4ced1d6ae47736351d90ba4", func := "loop.example/g01160/laws.FnLeastEnvy", spec := "fnLeastEnvy", unfollowed := true, recurses := true, named := ["loop.example/g01160/impl.sharings"], apart := false, laid := [("loop.example/g01160/impl.sharings", laid_loop_example_g01160_impl_sharings)] }
def FnLeastEnvySaid : Prop := fnLeastEnvyRow.holds Tryd.pinned (OpenSpec.ofChange fnLeastEnvySpec)

/-- ITS FALSE NEIGHBOUR: 'it returns false'. Refute it at one input. -/
def fnLeastEnvyWrong : ChangeSpec := { name := "fnLeastEnvy", vars := ["loop.example/g01160/impl.sharings"], fn := fun _ => fun
  | [d1, d2, g1] => { results := [.lit (.bool false)], args := [d1, d2], vars := [g1] }
  | _ => none }
def FnLeastEnvyWrongFalsely : Prop := fnLeastEnvyRow.holds Tryd.pinned (OpenSpec.ofChange fnLeastEnvyWrong)

/-- 'laws.FnRentsAreFair': WHATEVER THE INPUT: true; the input reads as it did. -/
def fnRentsAreFairSpec : ChangeSpec := { name := "fnRentsAreFair", vars := ["loop.example/g01160/impl.sharings"], fn := fun _ => fun
  | [d1, d2, g1] => { results := [.lit (.bool true)], args := [d1, d2], vars := [g1] }
  | _ => none }
def fnRentsAreFairRow : OpenClaim := { program := "ytncpnkcdjfohgaadoor", sum := "f5f0fbd813c40262727ab2fc644c94145593af54a4ced1d6ae47736351d90ba4", func := "loop.example/g01160/laws.FnRentsAreFair", spec := "fnRentsAreFair", unfollowed := true, recurses := true, named := ["loop.example/g01160/impl.sharings"], apart := false, laid := [("loop.example/g01160/impl.sharings", laid_loop_example_g01160_impl_sharings)] }
def FnRentsAreFairSaid : Prop := fnRentsAreFairRow.holds Tryd.pinned (OpenSpec.ofChange fnRentsAreFairSpec)

/-- ITS FALSE NEIGHBOUR: 'it returns false'. Refute it at one input. -/
def fnRentsAreFairWrong : ChangeSpec := { name := "fnRentsAreFair", vars := ["loop.example/g01160/impl.sharings"], fn := fun _ => fun
  | [d1, d2, g1] => { results := [.lit (.bool false)], args := [d1, d2], vars := [g1] }
  | _ => none }
def FnRentsAreFairWrongFalsely : Prop := fnRentsAreFairRow.holds Tryd.pinned (OpenSpec.ofChange fnRentsAreFairWrong)

/- THE SECOND FORM. 'bulk': how many values and letters a reading holds, each counted each time it is reached (what is shared counts as often as it is met; a slice's spare places count too). A statement '..UptoSaid' is the law's where the arguments, and the package variables that the reading takes, are together of bulk at most 1048576: NARROWER than '..Said'. Prove '..Said' where nothing that the law and all that it calls make is longer than what came in: it says more and counts as full. Else prove '..UptoSaid'. A law counts once. -/
mutual
def uptoBulk {H : Type} : DataW H → Nat
  | .lit (.string bytes) => bytes.length + 1
  | .lit _ => 1
  | .nil => 1
  | .ptr d => uptoBulk d + 1
  | .slice elems spare => uptoBulkAll elems + uptoBulkAll spare + 1
  | .agg parts => uptoBulkAll parts + 1
  | .iface _ d => uptoBulk d + 1
  | .map entries => uptoBulkEntries entries + 1
  | .held _ => 1
def uptoBulkAll {H : Type} : List (DataW H) → Nat
  | [] => 0
  | d :: r => uptoBulk d + uptoBulkAll r
def uptoBulkEntries {H : Type} : List (Lit × DataW H) → Nat
  | [] => 0
  | x :: r => uptoBulkEntry x + uptoBulkEntries r
def uptoBulkEntry {H : Type} : Lit × DataW H → Nat
  | (.string bytes, d) => bytes.length + uptoBulk d + 1
  | (_, d) => uptoBulk d + 1
 end
def uptoSmall : (H : Type) → List (DataW H) → Bool := fun _ ds => decide (uptoBulkAll ds ≤ 1048576)
def OpenSpec.upto (s : _root_.Go.ChangeSpec) : _root_.Go.OpenSpec := { _root_.Go.OpenSpec.ofChange s with cond := some uptoSmall }

/-- 'laws.FnExactLeastEnvy', WHERE WHAT IT READS IS OF BULK AT MOST 1048576: true; the input reads as it did. -/
def fnExactLeastEnvyUptoRow : OpenClaim := { program := "ytncpnkcdjfohgaadoor", sum := "f5f0fbd813c40262727ab2fc644c94145593af54a4ced1d6ae47736351d90ba4", func := "loop.example/g01160/laws.FnExactLeastEnvy", spec := "fnExactLeastEnvy", unfollowed := true, recurses := true, named := ["loop.example/g01160/impl.sharings"], apart := false, laid := [("loop.example/g01160/impl.sharings", laid_loop_example_g01160_impl_sharings)], narrowed := true }
def FnExactLeastEnvyUptoSaid : Prop := fnExactLeastEnvyUptoRow.holds Tryd.pinned (OpenSpec.upto fnExactLeastEnvySpec)

/-- 'laws.FnExactBestCut', WHERE WHAT IT READS IS OF BULK AT MOST 1048576: true; the input reads as it did. -/
def fnExactBestCutUptoRow : OpenClaim := { program := "ytncpnkcdjfohgaadoor", sum := "f5f0fbd813c40262727ab2fc644c94145593af54a4ced1d6ae47736351d90ba4", func := "loop.example/g01160/laws.FnExactBestCut", spec := "fnExactBestCut", unfollowed := true, recurses := true, named := ["loop.example/g01160/impl.sharings"], apart := false, laid := [("loop.example/g01160/impl.sharings", laid_loop_example_g01160_impl_sharings)], narrowed := true }
def FnExactBestCutUptoSaid : Prop := fnExactBestCutUptoRow.holds Tryd.pinned (OpenSpec.upto fnExactBestCutSpec)

/-- 'laws.FnExactFairRent', WHERE WHAT IT READS IS OF BULK AT MOST 1048576: true; the input reads as it did. -/
def fnExactFairRentUptoRow : OpenClaim := { program := "ytncpnkcdjfohgaadoor", sum := "f5f0fbd813c40262727ab2fc644c94145593af54a4ced1d6ae47736351d90ba4", func := "loop.example/g01160/laws.FnExactFairRent", spec := "fnExactFairRent", unfollowed := true, recurses := true, named := ["loop.example/g01160/impl.sharings"], apart := false, laid := [("loop.example/g01160/impl.sharings", laid_loop_example_g01160_impl_sharings)], narrowed := true }
def FnExactFairRentUptoSaid : Prop := fnExactFairRentUptoRow.holds Tryd.pinned (OpenSpec.upto fnExactFairRentSpec)

/-- 'laws.FnLeastEnvy', WHERE WHAT IT READS IS OF BULK AT MOST 1048576: true; the input reads as it did. -/
def fnLeastEnvyUptoRow : OpenClaim := { program := "ytncpnkcdjfohgaadoor", sum := "f5f0fbd813c40262727ab2fc644c94145593af54a4ced1d6ae47736351d90ba4", func := "loop.example/g01160/laws.FnLeastEnvy", spec := "fnLeastEnvy", unfollowed := true, recurses := true, named := ["loop.example/g01160/impl.sharings"], apart := false, laid := [("loop.example/g01160/impl.sharings", laid_loop_example_g01160_impl_sharings)], narrowed := true }
def FnLeastEnvyUptoSaid : Prop := fnLeastEnvyUptoRow.holds Tryd.pinned (OpenSpec.upto fnLeastEnvySpec)

/-- 'laws.FnRentsAreFair', WHERE WHAT IT READS IS OF BULK AT MOST 1048576: true; the input reads as it did. -/
def fnRentsAreFairUptoRow : OpenClaim := { program := "ytncpnkcdjfohgaadoor", sum := "f5f0fbd813c40262727ab2fc644c94145593af54a4ced1d6ae47736351d90ba4", func := "loop.example/g01160/laws.FnRentsAreFair", spec := "fnRentsAreFair", unfollowed := true, recurses := true, named := ["loop.example/g01160/impl.sharings"], apart := false, laid := [("loop.example/g01160/impl.sharings", laid_loop_example_g01160_impl_sharings)], narrowed := true }
def FnRentsAreFairUptoSaid : Prop := fnRentsAreFairUptoRow.holds Tryd.pinned (OpenSpec.upto fnRentsAreFairSpec)

end Rows
end Go.Proofs.YtncpnkcdjfohgaaDoor
