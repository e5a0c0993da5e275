/-
  NARROWER THAN 'FOR EVERY INPUT', by the rows' own cells (each row's printed sentence says how): FnExactEnvyAt: laid · FnExactSumAt: laid · FnExactRentEnvy: laid · FnExactBestRooms: laid.
  DERIVED. THE GIVEN ROWS OF THIS SEAT. 4 by the template 'for every input the law returns true; each argument reads behind the call as it read before'; 0 by the template 'total and deterministic' (their statements: YtfpadepeanejeaaDoorTotals.lean).
  GIVEN WITH THE SEED: the statements are not yours to turn. If you find one false, say at which input.
  Laid BY PROGRAM, IN A SANDBOX (cutbox-rows.mjs): the forced cells as the released guide's own fill.sh prints them over the translation bfcfb6d8f13a6983… (all of the seat's roots in one cut). By AI agents, Wed Nov 11 2026. No macro, syntax, notation, axiom, sorry.
-/
import Derived.Test.YtfpadepeanejeaaDoorChecked
import GoSem.Claim
import GoSem.ClaimJoined
import GoSem.ClaimMapViews
import Derived.JoinedTies
import Derived.KernelRfl
namespace Go.Proofs.YtfpadepeanejeaaDoor
/- THE CELL 'sum', in the pinned program and in every row, IS THE sha256 OF THE DUMP (.gsa) THAT YtfpadepeanejeaaDoorProg.lean LOADS. Nothing in Lean hashes anything: it is a label: what it is worth is what the hold of that sum in a sandbox is worth. -/
noncomputable def Tryd.pinned : Pinned := { name := "ytfpadepeanejeaadoor", sum := "bfcfb6d8f13a6983c915064e6c737eee790295e7826bff664ca7ef0bc5b604c0", checked := Tryd.checked }
namespace Rows
def none {H : Type} : Left H := { results := [], args := [] }

/- WHAT THE LISTED PACKAGE-LEVEL VARIABLES READ AS WHEN THE CALL BEGINS. Each datum BY PROGRAM (the guide's laid-datum.mjs) off the statement by which the dump's own 'gosem.cut.vars' lays the variable. In a bare row this is a premise. The card (YtfpadepeanejeaaDoorCards.lean) ties it to the program's text. -/
def laid_loop_example_g01160_impl_sharings {H : Type} : DataW H := .agg [.agg [.lit (.int .i64 0), .lit (.int .i64 1), .lit (.int .i64 2)], .agg [.lit (.int .i64 0), .lit (.int .i64 2), .lit (.int .i64 1)], .agg [.lit (.int .i64 1), .lit (.int .i64 0), .lit (.int .i64 2)], .agg [.lit (.int .i64 1), .lit (.int .i64 2), .lit (.int .i64 0)], .agg [.lit (.int .i64 2), .lit (.int .i64 0), .lit (.int .i64 1)], .agg [.lit (.int .i64 2), .lit (.int .i64 1), .lit (.int .i64 0)]]

/-- 'laws.FnExactEnvyAt': WHATEVER THE INPUT: true; the input reads as it did. -/
def fnExactEnvyAtSpec : ChangeSpec := { name := "fnExactEnvyAt", vars := ["loop.example/g01160/impl.sharings"], fn := fun _ => fun
  | [d1, d2, d3, d4, g1] => { results := [.lit (.bool true)], args := [d1, d2, d3, d4], vars := [g1] }
  | _ => none }
def fnExactEnvyAtRow : OpenClaim := { program := "ytfpadepeanejeaadoor", sum := "bfcfb6d8f13a6983c915064e6c737eee790295e7826bff664ca7ef0bc5b604c0", func := "loop.example/g01160/laws.FnExactEnvyAt", spec := "fnExactEnvyAt", unfollowed := true, recurses := true, named := ["loop.example/g01160/impl.sharings"], apart := false, laid := [("loop.example/g01160/impl.sharings", laid_loop_example_g01160_impl_sharings)] }
def FnExactEnvyAtSaid : Prop := fnExactEnvyAtRow.holds Tryd.pinned (OpenSpec.ofChange fnExactEnvyAtSpec)

/-- ITS FALSE NEIGHBOUR: 'it returns false'. Refute it at one input. -/
def fnExactEnvyAtWrong : ChangeSpec := { name := "fnExactEnvyAt", vars := ["loop.example/g01160/impl.sharings"], fn := fun _ => fun
  | [d1, d2, d3, d4, g1] => { results := [.lit (.bool false)], args := [d1, d2, d3, d4], vars := [g1] }
  | _ => none }
def FnExactEnvyAtWrongFalsely : Prop := fnExactEnvyAtRow.holds Tryd.pinned (OpenSpec.ofChange fnExactEnvyAtWrong)

/-- 'laws.FnExactSumAt': WHATEVER THE INPUT: true; the input reads as it did. -/
def fnExactSumAtSpec : ChangeSpec := { name := "fnExactSumAt", vars := ["loop.example/g01160/impl.sharings"], fn := fun _ => fun
  | [d1, d2, d3, d4, g1] => { results := [.lit (.bool true)], args := [d1, d2, d3, d4], vars := [g1] }
  | _ => none }
def fnExactSumAtRow : OpenClaim := { program := "ytfpadepeanejeaadoor", sum := "bfcfb6d8f13a6983c915064e6c737eee790295e7826bff664ca7ef0bc5b604c0", func := "loop.example/g01160/laws.FnExactSumAt", spec := "fnExactSumAt", unfollowed := true, recurses := true, named := ["loop.example/g01160/impl.sharings"], apart := false, laid := [("loop.example/g01160/impl.sharings", laid_loop_example_g01160_impl_sharings)] }
def FnExactSumAtSaid : Prop := fnExactSumAtRow.holds Tryd.pinned (OpenSpec.ofChange fnExactSumAtSpec)

/-- ITS FALSE NEIGHBOUR: 'it returns false'. Refute it at one input. -/
def fnExactSumAtWrong : ChangeSpec := { name := "fnExactSumAt", vars := ["loop.example/g01160/impl.sharings"], fn := fun _ => fun
  | [d1, d2, d3, d4, g1] => { results := [.lit (.bool false)], args := [d1, d2, d3, d4], vars := [g1] }
  | _ => none }
def FnExactSumAtWrongFalsely : Prop := fnExactSumAtRow.holds Tryd.pinned (OpenSpec.ofChange fnExactSumAtWrong)

/-- 'laws.FnExactRentEnvy': WHATEVER THE INPUT: true; the input reads as it did. -/
def fnExactRentEnvySpec : ChangeSpec := { name := "fnExactRentEnvy", vars := ["loop.example/g01160/impl.sharings"], fn := fun _ => fun
  | [d1, d2, d3, d4, g1] => { results := [.lit (.bool true)], args := [d1, d2, d3, d4], vars := [g1] }
  | _ => none }
def fnExactRentEnvyRow : OpenClaim := { program := "ytfpadepeanejeaadoor", sum := "bfcfb6d8f13a6983c915064e6c737eee790295e7826bff664ca7ef0bc5b604c0", func := "loop.example/g01160/laws.FnExactRentEnvy", spec := "fnExactRentEnvy", unfollowed := true, recurses := true, named := ["loop.example/g01160/impl.sharings"], apart := false, laid := [("loop.example/g01160/impl.sharings", laid_loop_example_g01160_impl_sharings)] }
def FnExactRentEnvySaid : Prop := fnExactRentEnvyRow.holds Tryd.pinned (OpenSpec.ofChange fnExactRentEnvySpec)

/-- ITS FALSE NEIGHBOUR: 'it returns false'. Refute it at one input. -/
def fnExactRentEnvyWrong : ChangeSpec := { name := "fnExactRentEnvy", vars := ["loop.example/g01160/impl.sharings"], fn := fun _ => fun
  | [d1, d2, d3, d4, g1] => { results := [.lit (.bool false)], args := [d1, d2, d3, d4], vars := [g1] }
  | _ => none }
def FnExactRentEnvyWrongFalsely : Prop := fnExactRentEnvyRow.holds Tryd.pinned (OpenSpec.ofChange fnExactRentEnvyWrong)

/-- 'laws.FnExactBestRooms': WHATEVER THE INPUT: true; the input reads as it did. -/
def fnExactBestRoomsSpec : ChangeSpec := { name := "fnExactBestRooms", vars := ["loop.example/g01160/impl.sharings"], fn := fun _ => fun
  | [d, g1] => { results := [.lit (.bool true)], args := [d], vars := [g1] }
  | _ => none }
def fnExactBestRoomsRow : OpenClaim := { program := "ytfpadepeanejeaadoor", sum := "bfcfb6d8f13a6983c915064e6c737eee790295e7826bff664ca7ef0bc5b604c0", func := "loop.example/g01160/laws.FnExactBestRooms", spec := "fnExactBestRooms", unfollowed := true, recurses := true, named := ["loop.example/g01160/impl.sharings"], apart := false, laid := [("loop.example/g01160/impl.sharings", laid_loop_example_g01160_impl_sharings)] }
def FnExactBestRoomsSaid : Prop := fnExactBestRoomsRow.holds Tryd.pinned (OpenSpec.ofChange fnExactBestRoomsSpec)

/-- ITS FALSE NEIGHBOUR: 'it returns false'. Refute it at one input. -/
def fnExactBestRoomsWrong : ChangeSpec := { name := "fnExactBestRooms", vars := ["loop.example/g01160/impl.sharings"], fn := fun _ => fun
  | [d, g1] => { results := [.lit (.bool false)], args := [d], vars := [g1] }
  | _ => none }
def FnExactBestRoomsWrongFalsely : Prop := fnExactBestRoomsRow.holds Tryd.pinned (OpenSpec.ofChange fnExactBestRoomsWrong)

/- THE SECOND FORM. 'bulk': how many values and letters a reading holds, each counted each time it is reached (what is shared counts as often as it is met; a slice's spare places count too). A statement '..UptoSaid' is the law's where the arguments, and the package variables that the reading takes, are together of bulk at most 1048576: NARROWER than '..Said'. Prove '..Said' where nothing that the law and all that it calls make is longer than what came in: it says more and counts as full. Else prove '..UptoSaid'. A law counts once. -/
mutual
def uptoBulk {H : Type} : DataW H → Nat
  | .lit (.string bytes) => bytes.length + 1
  | .lit _ => 1
  | .nil => 1
  | .ptr d => uptoBulk d + 1
  | .slice elems spare => uptoBulkAll elems + uptoBulkAll spare + 1
  | .agg parts => uptoBulkAll parts + 1
  | .iface _ d => uptoBulk d + 1
  | .map entries => uptoBulkEntries entries + 1
  | .held _ => 1
def uptoBulkAll {H : Type} : List (DataW H) → Nat
  | [] => 0
  | d :: r => uptoBulk d + uptoBulkAll r
def uptoBulkEntries {H : Type} : List (Lit × DataW H) → Nat
  | [] => 0
  | x :: r => uptoBulkEntry x + uptoBulkEntries r
def uptoBulkEntry {H : Type} : Lit × DataW H → Nat
  | (.string bytes, d) => bytes.length + uptoBulk d + 1
  | (_, d) => uptoBulk d + 1
 end
def uptoSmall : (H : Type) → List (DataW H) → Bool := fun _ ds => decide (uptoBulkAll ds ≤ 1048576)
def OpenSpec.upto (s : _root_.Go.ChangeSpec) : _root_.Go.OpenSpec := { _root_.Go.OpenSpec.ofChange s with cond := some uptoSmall }

/-- 'laws.FnExactEnvyAt', WHERE WHAT IT READS IS OF BULK AT MOST 1048576: true; the input reads as it did. -/
def fnExactEnvyAtUptoRow : OpenClaim := { program := "ytfpadepeanejeaadoor", sum := "bfcfb6d8f13a6983c915064e6c737eee790295e7826bff664ca7ef0bc5b604c0", func := "loop.example/g01160/laws.FnExactEnvyAt", spec := "fnExactEnvyAt", unfollowed := true, recurses := true, named := ["loop.example/g01160/impl.sharings"], apart := false, laid := [("loop.example/g01160/impl.sharings", laid_loop_example_g01160_impl_sharings)], narrowed := true }
def FnExactEnvyAtUptoSaid : Prop := fnExactEnvyAtUptoRow.holds Tryd.pinned (OpenSpec.upto fnExactEnvyAtSpec)

/-- 'laws.FnExactSumAt', WHERE WHAT IT READS IS OF BULK AT MOST 1048576: true; the input reads as it did. -/
def fnExactSumAtUptoRow : OpenClaim := { program := "ytfpadepeanejeaadoor", sum := "bfcfb6d8f13a6983c915064e6c737eee790295e7826bff664ca7ef0bc5b604c0", func := "loop.example/g01160/laws.FnExactSumAt", spec := "fnExactSumAt", unfollowed := true, recurses := true, named := ["loop.example/g01160/impl.sharings"], apart := false, laid := [("loop.example/g01160/impl.sharings", laid_loop_example_g01160_impl_sharings)], narrowed := true }
def FnExactSumAtUptoSaid : Prop := fnExactSumAtUptoRow.holds Tryd.pinned (OpenSpec.upto fnExactSumAtSpec)

/-- 'laws.FnExactRentEnvy', WHERE WHAT IT READS IS OF BULK AT MOST 1048576: true; the input reads as it did. -/
def fnExactRentEnvyUptoRow : OpenClaim := { program := "ytfpadepeanejeaadoor", sum := "bfcfb6d8f13a6983c915064e6c737eee790295e7826bff664ca7ef0bc5b604c0", func := "loop.example/g01160/laws.FnExactRentEnvy", spec := "fnExactRentEnvy", unfollowed := true, recurses := true, named := ["loop.example/g01160/impl.sharings"], apart := false, laid := [("loop.example/g01160/impl.sharings", laid_loop_example_g01160_impl_sharings)], narrowed := true }
def FnExactRentEnvyUptoSaid : Prop := fnExactRentEnvyUptoRow.holds Tryd.pinned (OpenSpec.upto fnExactRentEnvySpec)

/-- 'laws.FnExactBestRooms', WHERE WHAT IT READS IS OF BULK AT MOST 1048576: true; the input reads as it did. -/
def fnExactBestRoomsUptoRow : OpenClaim := { program := "ytfpadepeanejeaadoor", sum := "bfcfb6d8f13a6983c915064e6c737eee790295e7826bff664ca7ef0bc5b604c0", func := "loop.example/g01160/laws.FnExactBestRooms", spec := "fnExactBestRooms", unfollowed := true, recurses := true, named := ["loop.example/g01160/impl.sharings"], apart := false, laid := [("loop.example/g01160/impl.sharings", laid_loop_example_g01160_impl_sharings)], narrowed := true }
def FnExactBestRoomsUptoSaid : Prop := fnExactBestRoomsUptoRow.holds Tryd.pinned (OpenSpec.upto fnExactBestRoomsSpec)

end Rows
end Go.Proofs.YtfpadepeanejeaaDoor
