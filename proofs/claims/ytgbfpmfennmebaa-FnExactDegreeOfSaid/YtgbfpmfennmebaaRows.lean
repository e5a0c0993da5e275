/-
  No cell of these rows narrows 'for every input' (looked for: loops, veiled, ifaces, maps, wideKeys, modest, calm, conditions, laid).
  DERIVED. THE GIVEN ROWS OF THIS SEAT. 6 by the template 'for every input the law returns true; each argument reads behind the call as it read before'; 0 by the template 'total and deterministic' (their statements: YtgbfpmfennmebaaTotals.lean).
  GIVEN WITH THE SEED: the statements are not yours to turn. If you find one false, say at which input.
  Laid BY PROGRAM, IN A SANDBOX (cutbox-rows.mjs): the forced cells as the released guide's own fill.sh prints them over the translation a270c0515cb742a8… (all of the seat's roots in one cut). By AI agents, Wed Nov 11 2026. No macro, syntax, notation, axiom, sorry.
-/
import Derived.Test.YtgbfpmfennmebaaChecked
import GoSem.Claim
import GoSem.ClaimJoined
import GoSem.ClaimMapViews
import Derived.JoinedTies
import Derived.KernelRfl
namespace Go.Proofs.Ytgbfpmfennmebaa
/- THE CELL 'sum', in the pinned program and in every row, IS THE sha256 OF THE DUMP (.gsa) THAT YtgbfpmfennmebaaProg.lean LOADS. Nothing in Lean hashes anything: it is a label: what it is worth is what the hold of that sum in a sandbox is worth. -/
noncomputable def Try.pinned : Pinned := { name := "ytgbfpmfennmebaa", sum := "a270c0515cb742a8c62a48e343828bb101953578eeb39928691d32fb04739e20", checked := Try.checked }
namespace Rows
def none {H : Type} : Left H := { results := [], args := [] }

/-- 'laws.FnExactSignOfFull': WHATEVER THE INPUT: true; the input reads as it did. -/
def fnExactSignOfFullSpec : ChangeSpec := { name := "fnExactSignOfFull", fn := fun _ => fun
  | [d1, d2, d3] => { results := [.lit (.bool true)], args := [d1, d2, d3] }
  | _ => none }
def fnExactSignOfFullRow : OpenClaim := { program := "ytgbfpmfennmebaa", sum := "a270c0515cb742a8c62a48e343828bb101953578eeb39928691d32fb04739e20", func := "loop.example/g01160/laws.FnExactSignOfFull", spec := "fnExactSignOfFull", unfollowed := true, recurses := true, apart := false }
def FnExactSignOfFullSaid : Prop := fnExactSignOfFullRow.holds Try.pinned (OpenSpec.ofChange fnExactSignOfFullSpec)

/-- ITS FALSE NEIGHBOUR: 'it returns false'. Refute it at one input. -/
def fnExactSignOfFullWrong : ChangeSpec := { name := "fnExactSignOfFull", fn := fun _ => fun
  | [d1, d2, d3] => { results := [.lit (.bool false)], args := [d1, d2, d3] }
  | _ => none }
def FnExactSignOfFullWrongFalsely : Prop := fnExactSignOfFullRow.holds Try.pinned (OpenSpec.ofChange fnExactSignOfFullWrong)

/-- 'laws.FnExactDegreeOf': WHATEVER THE INPUT: true; the input reads as it did. -/
def fnExactDegreeOfSpec : ChangeSpec := { name := "fnExactDegreeOf", fn := fun _ => fun
  | [d1, d2] => { results := [.lit (.bool true)], args := [d1, d2] }
  | _ => none }
def fnExactDegreeOfRow : OpenClaim := { program := "ytgbfpmfennmebaa", sum := "a270c0515cb742a8c62a48e343828bb101953578eeb39928691d32fb04739e20", func := "loop.example/g01160/laws.FnExactDegreeOf", spec := "fnExactDegreeOf", unfollowed := true, recurses := true, apart := false }
def FnExactDegreeOfSaid : Prop := fnExactDegreeOfRow.holds Try.pinned (OpenSpec.ofChange fnExactDegreeOfSpec)

/-- ITS FALSE NEIGHBOUR: 'it returns false'. Refute it at one input. -/
def fnExactDegreeOfWrong : ChangeSpec := { name := "fnExactDegreeOf", fn := fun _ => fun
  | [d1, d2] => { results := [.lit (.bool false)], args := [d1, d2] }
  | _ => none }
def FnExactDegreeOfWrongFalsely : Prop := fnExactDegreeOfRow.holds Try.pinned (OpenSpec.ofChange fnExactDegreeOfWrong)

/-- 'laws.FnExactTurnsOfBorder': WHATEVER THE INPUT: true; the input reads as it did. -/
def fnExactTurnsOfBorderSpec : ChangeSpec := { name := "fnExactTurnsOfBorder", fn := fun _ => fun
  | [d1, d2] => { results := [.lit (.bool true)], args := [d1, d2] }
  | _ => none }
def fnExactTurnsOfBorderRow : OpenClaim := { program := "ytgbfpmfennmebaa", sum := "a270c0515cb742a8c62a48e343828bb101953578eeb39928691d32fb04739e20", func := "loop.example/g01160/laws.FnExactTurnsOfBorder", spec := "fnExactTurnsOfBorder", unfollowed := true, recurses := true, apart := false }
def FnExactTurnsOfBorderSaid : Prop := fnExactTurnsOfBorderRow.holds Try.pinned (OpenSpec.ofChange fnExactTurnsOfBorderSpec)

/-- ITS FALSE NEIGHBOUR: 'it returns false'. Refute it at one input. -/
def fnExactTurnsOfBorderWrong : ChangeSpec := { name := "fnExactTurnsOfBorder", fn := fun _ => fun
  | [d1, d2] => { results := [.lit (.bool false)], args := [d1, d2] }
  | _ => none }
def FnExactTurnsOfBorderWrongFalsely : Prop := fnExactTurnsOfBorderRow.holds Try.pinned (OpenSpec.ofChange fnExactTurnsOfBorderWrong)

/-- 'laws.FnExactClosedRooms': WHATEVER THE INPUT: true; the input reads as it did. -/
def fnExactClosedRoomsSpec : ChangeSpec := { name := "fnExactClosedRooms", fn := fun _ => fun
  | [d1, d2] => { results := [.lit (.bool true)], args := [d1, d2] }
  | _ => none }
def fnExactClosedRoomsRow : OpenClaim := { program := "ytgbfpmfennmebaa", sum := "a270c0515cb742a8c62a48e343828bb101953578eeb39928691d32fb04739e20", func := "loop.example/g01160/laws.FnExactClosedRooms", spec := "fnExactClosedRooms", unfollowed := true, recurses := true, apart := false }
def FnExactClosedRoomsSaid : Prop := fnExactClosedRoomsRow.holds Try.pinned (OpenSpec.ofChange fnExactClosedRoomsSpec)

/-- ITS FALSE NEIGHBOUR: 'it returns false'. Refute it at one input. -/
def fnExactClosedRoomsWrong : ChangeSpec := { name := "fnExactClosedRooms", fn := fun _ => fun
  | [d1, d2] => { results := [.lit (.bool false)], args := [d1, d2] }
  | _ => none }
def FnExactClosedRoomsWrongFalsely : Prop := fnExactClosedRoomsRow.holds Try.pinned (OpenSpec.ofChange fnExactClosedRoomsWrong)

/-- 'laws.FnExactCellsOf': WHATEVER THE INPUT: true; the input reads as it did. -/
def fnExactCellsOfSpec : ChangeSpec := { name := "fnExactCellsOf", fn := fun _ => fun
  | [d] => { results := [.lit (.bool true)], args := [d] }
  | _ => none }
def fnExactCellsOfRow : OpenClaim := { program := "ytgbfpmfennmebaa", sum := "a270c0515cb742a8c62a48e343828bb101953578eeb39928691d32fb04739e20", func := "loop.example/g01160/laws.FnExactCellsOf", spec := "fnExactCellsOf", apart := false }
def FnExactCellsOfSaid : Prop := fnExactCellsOfRow.holds Try.pinned (OpenSpec.ofChange fnExactCellsOfSpec)

/-- ITS FALSE NEIGHBOUR: 'it returns false'. Refute it at one input. -/
def fnExactCellsOfWrong : ChangeSpec := { name := "fnExactCellsOf", fn := fun _ => fun
  | [d] => { results := [.lit (.bool false)], args := [d] }
  | _ => none }
def FnExactCellsOfWrongFalsely : Prop := fnExactCellsOfRow.holds Try.pinned (OpenSpec.ofChange fnExactCellsOfWrong)

/-- 'laws.FnExactParseBoard': WHATEVER THE INPUT: true; the input reads as it did. -/
def fnExactParseBoardSpec : ChangeSpec := { name := "fnExactParseBoard", fn := fun _ => fun
  | [d] => { results := [.lit (.bool true)], args := [d] }
  | _ => none }
def fnExactParseBoardRow : OpenClaim := { program := "ytgbfpmfennmebaa", sum := "a270c0515cb742a8c62a48e343828bb101953578eeb39928691d32fb04739e20", func := "loop.example/g01160/laws.FnExactParseBoard", spec := "fnExactParseBoard", inPlace := ["internal/bytealg.IndexByteString", "internal/bytealg.IndexString", "internal/bytealg.CountString", "internal/abi.NoEscape"], named := ["internal/bytealg.MaxLen"], apart := false }
def FnExactParseBoardSaid : Prop := fnExactParseBoardRow.holds Try.pinned (OpenSpec.ofChange fnExactParseBoardSpec)

/-- ITS FALSE NEIGHBOUR: 'it returns false'. Refute it at one input. -/
def fnExactParseBoardWrong : ChangeSpec := { name := "fnExactParseBoard", fn := fun _ => fun
  | [d] => { results := [.lit (.bool false)], args := [d] }
  | _ => none }
def FnExactParseBoardWrongFalsely : Prop := fnExactParseBoardRow.holds Try.pinned (OpenSpec.ofChange fnExactParseBoardWrong)

/- THE SECOND FORM. 'bulk': how many values and letters a reading holds, each counted each time it is reached (what is shared counts as often as it is met; a slice's spare places count too). A statement '..UptoSaid' is the law's where the arguments, and the package variables that the reading takes, are together of bulk at most 1048576: NARROWER than '..Said'. Prove '..Said' where nothing that the law and all that it calls make is longer than what came in: it says more and counts as full. Else prove '..UptoSaid'. A law counts once. -/
mutual
def uptoBulk {H : Type} : DataW H → Nat
  | .lit (.string bytes) => bytes.length + 1
  | .lit _ => 1
  | .nil => 1
  | .ptr d => uptoBulk d + 1
  | .slice elems spare => uptoBulkAll elems + uptoBulkAll spare + 1
  | .agg parts => uptoBulkAll parts + 1
  | .iface _ d => uptoBulk d + 1
  | .map entries => uptoBulkEntries entries + 1
  | .held _ => 1
def uptoBulkAll {H : Type} : List (DataW H) → Nat
  | [] => 0
  | d :: r => uptoBulk d + uptoBulkAll r
def uptoBulkEntries {H : Type} : List (Lit × DataW H) → Nat
  | [] => 0
  | x :: r => uptoBulkEntry x + uptoBulkEntries r
def uptoBulkEntry {H : Type} : Lit × DataW H → Nat
  | (.string bytes, d) => bytes.length + uptoBulk d + 1
  | (_, d) => uptoBulk d + 1
 end
def uptoSmall : (H : Type) → List (DataW H) → Bool := fun _ ds => decide (uptoBulkAll ds ≤ 1048576)
def OpenSpec.upto (s : _root_.Go.ChangeSpec) : _root_.Go.OpenSpec := { _root_.Go.OpenSpec.ofChange s with cond := some uptoSmall }

/-- 'laws.FnExactSignOfFull', WHERE WHAT IT READS IS OF BULK AT MOST 1048576: true; the input reads as it did. -/
def fnExactSignOfFullUptoRow : OpenClaim := { program := "ytgbfpmfennmebaa", sum := "a270c0515cb742a8c62a48e343828bb101953578eeb39928691d32fb04739e20", func := "loop.example/g01160/laws.FnExactSignOfFull", spec := "fnExactSignOfFull", unfollowed := true, recurses := true, apart := false, narrowed := true }
def FnExactSignOfFullUptoSaid : Prop := fnExactSignOfFullUptoRow.holds Try.pinned (OpenSpec.upto fnExactSignOfFullSpec)

/-- 'laws.FnExactDegreeOf', WHERE WHAT IT READS IS OF BULK AT MOST 1048576: true; the input reads as it did. -/
def fnExactDegreeOfUptoRow : OpenClaim := { program := "ytgbfpmfennmebaa", sum := "a270c0515cb742a8c62a48e343828bb101953578eeb39928691d32fb04739e20", func := "loop.example/g01160/laws.FnExactDegreeOf", spec := "fnExactDegreeOf", unfollowed := true, recurses := true, apart := false, narrowed := true }
def FnExactDegreeOfUptoSaid : Prop := fnExactDegreeOfUptoRow.holds Try.pinned (OpenSpec.upto fnExactDegreeOfSpec)

/-- 'laws.FnExactTurnsOfBorder', WHERE WHAT IT READS IS OF BULK AT MOST 1048576: true; the input reads as it did. -/
def fnExactTurnsOfBorderUptoRow : OpenClaim := { program := "ytgbfpmfennmebaa", sum := "a270c0515cb742a8c62a48e343828bb101953578eeb39928691d32fb04739e20", func := "loop.example/g01160/laws.FnExactTurnsOfBorder", spec := "fnExactTurnsOfBorder", unfollowed := true, recurses := true, apart := false, narrowed := true }
def FnExactTurnsOfBorderUptoSaid : Prop := fnExactTurnsOfBorderUptoRow.holds Try.pinned (OpenSpec.upto fnExactTurnsOfBorderSpec)

/-- 'laws.FnExactClosedRooms', WHERE WHAT IT READS IS OF BULK AT MOST 1048576: true; the input reads as it did. -/
def fnExactClosedRoomsUptoRow : OpenClaim := { program := "ytgbfpmfennmebaa", sum := "a270c0515cb742a8c62a48e343828bb101953578eeb39928691d32fb04739e20", func := "loop.example/g01160/laws.FnExactClosedRooms", spec := "fnExactClosedRooms", unfollowed := true, recurses := true, apart := false, narrowed := true }
def FnExactClosedRoomsUptoSaid : Prop := fnExactClosedRoomsUptoRow.holds Try.pinned (OpenSpec.upto fnExactClosedRoomsSpec)

/-- 'laws.FnExactCellsOf', WHERE WHAT IT READS IS OF BULK AT MOST 1048576: true; the input reads as it did. -/
def fnExactCellsOfUptoRow : OpenClaim := { program := "ytgbfpmfennmebaa", sum := "a270c0515cb742a8c62a48e343828bb101953578eeb39928691d32fb04739e20", func := "loop.example/g01160/laws.FnExactCellsOf", spec := "fnExactCellsOf", apart := false, narrowed := true }
def FnExactCellsOfUptoSaid : Prop := fnExactCellsOfUptoRow.holds Try.pinned (OpenSpec.upto fnExactCellsOfSpec)

/-- 'laws.FnExactParseBoard', WHERE WHAT IT READS IS OF BULK AT MOST 1048576: true; the input reads as it did. -/
def fnExactParseBoardUptoRow : OpenClaim := { program := "ytgbfpmfennmebaa", sum := "a270c0515cb742a8c62a48e343828bb101953578eeb39928691d32fb04739e20", func := "loop.example/g01160/laws.FnExactParseBoard", spec := "fnExactParseBoard", inPlace := ["internal/bytealg.IndexByteString", "internal/bytealg.IndexString", "internal/bytealg.CountString", "internal/abi.NoEscape"], named := ["internal/bytealg.MaxLen"], apart := false, narrowed := true }
def FnExactParseBoardUptoSaid : Prop := fnExactParseBoardUptoRow.holds Try.pinned (OpenSpec.upto fnExactParseBoardSpec)

end Rows
end Go.Proofs.Ytgbfpmfennmebaa
