/-
  No cell of these rows narrows 'for every input' (looked for: loops, veiled, ifaces, maps, wideKeys, modest, calm, conditions, laid).
  DERIVED. THE GIVEN ROWS OF THIS SEAT. 8 by the template 'for every input the law returns true; each argument reads behind the call as it read before'; 0 by the template 'total and deterministic' (their statements: YthkohenobbhhmaaTotals.lean).
  GIVEN WITH THE SEED: the statements are not yours to turn. If you find one false, say at which input.
  Laid BY PROGRAM, IN A SANDBOX (cutbox-rows.mjs): the forced cells as the released guide's own fill.sh prints them over the translation 4a0bdac0e4fa3256… (all of the seat's roots in one cut). By AI agents, Wed Nov 11 2026. No macro, syntax, notation, axiom, sorry.
-/
import Derived.Test.YthkohenobbhhmaaChecked
import GoSem.Claim
import GoSem.ClaimJoined
import GoSem.ClaimMapViews
import Derived.JoinedTies
import Derived.KernelRfl
namespace Go.Proofs.Ythkohenobbhhmaa
/- THE CELL 'sum', in the pinned program and in every row, IS THE sha256 OF THE DUMP (.gsa) THAT YthkohenobbhhmaaProg.lean LOADS. Nothing in Lean hashes anything: it is a label: what it is worth is what the hold of that sum in a sandbox is worth. -/
noncomputable def Try.pinned : Pinned := { name := "ythkohenobbhhmaa", sum := "4a0bdac0e4fa32569f9347557605c45571b9be6fb61c3a999d9659044ad7d340", checked := Try.checked }
namespace Rows
def none {H : Type} : Left H := { results := [], args := [] }

/-- 'laws.FnExactWalkFrom': WHATEVER THE INPUT: true; the input reads as it did. -/
def fnExactWalkFromSpec : ChangeSpec := { name := "fnExactWalkFrom", fn := fun _ => fun
  | [d1, d2, d3, d4] => { results := [.lit (.bool true)], args := [d1, d2, d3, d4] }
  | _ => none }
def fnExactWalkFromRow : OpenClaim := { program := "ythkohenobbhhmaa", sum := "4a0bdac0e4fa32569f9347557605c45571b9be6fb61c3a999d9659044ad7d340", func := "loop.example/g01160/laws.FnExactWalkFrom", spec := "fnExactWalkFrom", unfollowed := true, recurses := true, apart := false }
def FnExactWalkFromSaid : Prop := fnExactWalkFromRow.holds Try.pinned (OpenSpec.ofChange fnExactWalkFromSpec)

/-- ITS FALSE NEIGHBOUR: 'it returns false'. Refute it at one input. -/
def fnExactWalkFromWrong : ChangeSpec := { name := "fnExactWalkFrom", fn := fun _ => fun
  | [d1, d2, d3, d4] => { results := [.lit (.bool false)], args := [d1, d2, d3, d4] }
  | _ => none }
def FnExactWalkFromWrongFalsely : Prop := fnExactWalkFromRow.holds Try.pinned (OpenSpec.ofChange fnExactWalkFromWrong)

/-- 'laws.FnExactExitOf': WHATEVER THE INPUT: true; the input reads as it did. -/
def fnExactExitOfSpec : ChangeSpec := { name := "fnExactExitOf", fn := fun _ => fun
  | [d1, d2, d3, d4] => { results := [.lit (.bool true)], args := [d1, d2, d3, d4] }
  | _ => none }
def fnExactExitOfRow : OpenClaim := { program := "ythkohenobbhhmaa", sum := "4a0bdac0e4fa32569f9347557605c45571b9be6fb61c3a999d9659044ad7d340", func := "loop.example/g01160/laws.FnExactExitOf", spec := "fnExactExitOf", unfollowed := true, recurses := true, apart := false }
def FnExactExitOfSaid : Prop := fnExactExitOfRow.holds Try.pinned (OpenSpec.ofChange fnExactExitOfSpec)

/-- ITS FALSE NEIGHBOUR: 'it returns false'. Refute it at one input. -/
def fnExactExitOfWrong : ChangeSpec := { name := "fnExactExitOf", fn := fun _ => fun
  | [d1, d2, d3, d4] => { results := [.lit (.bool false)], args := [d1, d2, d3, d4] }
  | _ => none }
def FnExactExitOfWrongFalsely : Prop := fnExactExitOfRow.holds Try.pinned (OpenSpec.ofChange fnExactExitOfWrong)

/-- 'laws.FnExactFindFull': WHATEVER THE INPUT: true; the input reads as it did. -/
def fnExactFindFullSpec : ChangeSpec := { name := "fnExactFindFull", fn := fun _ => fun
  | [d1, d2] => { results := [.lit (.bool true)], args := [d1, d2] }
  | _ => none }
def fnExactFindFullRow : OpenClaim := { program := "ythkohenobbhhmaa", sum := "4a0bdac0e4fa32569f9347557605c45571b9be6fb61c3a999d9659044ad7d340", func := "loop.example/g01160/laws.FnExactFindFull", spec := "fnExactFindFull", unfollowed := true, recurses := true, apart := false }
def FnExactFindFullSaid : Prop := fnExactFindFullRow.holds Try.pinned (OpenSpec.ofChange fnExactFindFullSpec)

/-- ITS FALSE NEIGHBOUR: 'it returns false'. Refute it at one input. -/
def fnExactFindFullWrong : ChangeSpec := { name := "fnExactFindFull", fn := fun _ => fun
  | [d1, d2] => { results := [.lit (.bool false)], args := [d1, d2] }
  | _ => none }
def FnExactFindFullWrongFalsely : Prop := fnExactFindFullRow.holds Try.pinned (OpenSpec.ofChange fnExactFindFullWrong)

/-- 'laws.FnExactPartnerOfFull': WHATEVER THE INPUT: true; the input reads as it did. -/
def fnExactPartnerOfFullSpec : ChangeSpec := { name := "fnExactPartnerOfFull", fn := fun _ => fun
  | [d1, d2, d3] => { results := [.lit (.bool true)], args := [d1, d2, d3] }
  | _ => none }
def fnExactPartnerOfFullRow : OpenClaim := { program := "ythkohenobbhhmaa", sum := "4a0bdac0e4fa32569f9347557605c45571b9be6fb61c3a999d9659044ad7d340", func := "loop.example/g01160/laws.FnExactPartnerOfFull", spec := "fnExactPartnerOfFull", unfollowed := true, recurses := true, apart := false }
def FnExactPartnerOfFullSaid : Prop := fnExactPartnerOfFullRow.holds Try.pinned (OpenSpec.ofChange fnExactPartnerOfFullSpec)

/-- ITS FALSE NEIGHBOUR: 'it returns false'. Refute it at one input. -/
def fnExactPartnerOfFullWrong : ChangeSpec := { name := "fnExactPartnerOfFull", fn := fun _ => fun
  | [d1, d2, d3] => { results := [.lit (.bool false)], args := [d1, d2, d3] }
  | _ => none }
def FnExactPartnerOfFullWrongFalsely : Prop := fnExactPartnerOfFullRow.holds Try.pinned (OpenSpec.ofChange fnExactPartnerOfFullWrong)

/-- 'laws.FnExactClosedRooms': WHATEVER THE INPUT: true; the input reads as it did. -/
def fnExactClosedRoomsSpec : ChangeSpec := { name := "fnExactClosedRooms", fn := fun _ => fun
  | [d1, d2] => { results := [.lit (.bool true)], args := [d1, d2] }
  | _ => none }
def fnExactClosedRoomsRow : OpenClaim := { program := "ythkohenobbhhmaa", sum := "4a0bdac0e4fa32569f9347557605c45571b9be6fb61c3a999d9659044ad7d340", func := "loop.example/g01160/laws.FnExactClosedRooms", spec := "fnExactClosedRooms", unfollowed := true, recurses := true, apart := false }
def FnExactClosedRoomsSaid : Prop := fnExactClosedRoomsRow.holds Try.pinned (OpenSpec.ofChange fnExactClosedRoomsSpec)

/-- ITS FALSE NEIGHBOUR: 'it returns false'. Refute it at one input. -/
def fnExactClosedRoomsWrong : ChangeSpec := { name := "fnExactClosedRooms", fn := fun _ => fun
  | [d1, d2] => { results := [.lit (.bool false)], args := [d1, d2] }
  | _ => none }
def FnExactClosedRoomsWrongFalsely : Prop := fnExactClosedRoomsRow.holds Try.pinned (OpenSpec.ofChange fnExactClosedRoomsWrong)

/-- 'laws.FnExactIsBoard': WHATEVER THE INPUT: true; the input reads as it did. -/
def fnExactIsBoardSpec : ChangeSpec := { name := "fnExactIsBoard", fn := fun _ => fun
  | [d1, d2, d3] => { results := [.lit (.bool true)], args := [d1, d2, d3] }
  | _ => none }
def fnExactIsBoardRow : OpenClaim := { program := "ythkohenobbhhmaa", sum := "4a0bdac0e4fa32569f9347557605c45571b9be6fb61c3a999d9659044ad7d340", func := "loop.example/g01160/laws.FnExactIsBoard", spec := "fnExactIsBoard", apart := false }
def FnExactIsBoardSaid : Prop := fnExactIsBoardRow.holds Try.pinned (OpenSpec.ofChange fnExactIsBoardSpec)

/-- ITS FALSE NEIGHBOUR: 'it returns false'. Refute it at one input. -/
def fnExactIsBoardWrong : ChangeSpec := { name := "fnExactIsBoard", fn := fun _ => fun
  | [d1, d2, d3] => { results := [.lit (.bool false)], args := [d1, d2, d3] }
  | _ => none }
def FnExactIsBoardWrongFalsely : Prop := fnExactIsBoardRow.holds Try.pinned (OpenSpec.ofChange fnExactIsBoardWrong)

/-- 'laws.FnExactTurnBoard': WHATEVER THE INPUT: true; the input reads as it did. -/
def fnExactTurnBoardSpec : ChangeSpec := { name := "fnExactTurnBoard", fn := fun _ => fun
  | [d1, d2, d3] => { results := [.lit (.bool true)], args := [d1, d2, d3] }
  | _ => none }
def fnExactTurnBoardRow : OpenClaim := { program := "ythkohenobbhhmaa", sum := "4a0bdac0e4fa32569f9347557605c45571b9be6fb61c3a999d9659044ad7d340", func := "loop.example/g01160/laws.FnExactTurnBoard", spec := "fnExactTurnBoard", apart := false }
def FnExactTurnBoardSaid : Prop := fnExactTurnBoardRow.holds Try.pinned (OpenSpec.ofChange fnExactTurnBoardSpec)

/-- ITS FALSE NEIGHBOUR: 'it returns false'. Refute it at one input. -/
def fnExactTurnBoardWrong : ChangeSpec := { name := "fnExactTurnBoard", fn := fun _ => fun
  | [d1, d2, d3] => { results := [.lit (.bool false)], args := [d1, d2, d3] }
  | _ => none }
def FnExactTurnBoardWrongFalsely : Prop := fnExactTurnBoardRow.holds Try.pinned (OpenSpec.ofChange fnExactTurnBoardWrong)

/-- 'laws.FnExactHalfTurn': WHATEVER THE INPUT: true; the input reads as it did. -/
def fnExactHalfTurnSpec : ChangeSpec := { name := "fnExactHalfTurn", fn := fun _ => fun
  | [d1, d2, d3] => { results := [.lit (.bool true)], args := [d1, d2, d3] }
  | _ => none }
def fnExactHalfTurnRow : OpenClaim := { program := "ythkohenobbhhmaa", sum := "4a0bdac0e4fa32569f9347557605c45571b9be6fb61c3a999d9659044ad7d340", func := "loop.example/g01160/laws.FnExactHalfTurn", spec := "fnExactHalfTurn", apart := false }
def FnExactHalfTurnSaid : Prop := fnExactHalfTurnRow.holds Try.pinned (OpenSpec.ofChange fnExactHalfTurnSpec)

/-- ITS FALSE NEIGHBOUR: 'it returns false'. Refute it at one input. -/
def fnExactHalfTurnWrong : ChangeSpec := { name := "fnExactHalfTurn", fn := fun _ => fun
  | [d1, d2, d3] => { results := [.lit (.bool false)], args := [d1, d2, d3] }
  | _ => none }
def FnExactHalfTurnWrongFalsely : Prop := fnExactHalfTurnRow.holds Try.pinned (OpenSpec.ofChange fnExactHalfTurnWrong)

/- THE SECOND FORM. 'bulk': how many values and letters a reading holds, each counted each time it is reached (what is shared counts as often as it is met; a slice's spare places count too). A statement '..UptoSaid' is the law's where the arguments, and the package variables that the reading takes, are together of bulk at most 1048576: NARROWER than '..Said'. Prove '..Said' where nothing that the law and all that it calls make is longer than what came in: it says more and counts as full. Else prove '..UptoSaid'. A law counts once. -/
mutual
def uptoBulk {H : Type} : DataW H → Nat
  | .lit (.string bytes) => bytes.length + 1
  | .lit _ => 1
  | .nil => 1
  | .ptr d => uptoBulk d + 1
  | .slice elems spare => uptoBulkAll elems + uptoBulkAll spare + 1
  | .agg parts => uptoBulkAll parts + 1
  | .iface _ d => uptoBulk d + 1
  | .map entries => uptoBulkEntries entries + 1
  | .held _ => 1
def uptoBulkAll {H : Type} : List (DataW H) → Nat
  | [] => 0
  | d :: r => uptoBulk d + uptoBulkAll r
def uptoBulkEntries {H : Type} : List (Lit × DataW H) → Nat
  | [] => 0
  | x :: r => uptoBulkEntry x + uptoBulkEntries r
def uptoBulkEntry {H : Type} : Lit × DataW H → Nat
  | (.string bytes, d) => bytes.length + uptoBulk d + 1
  | (_, d) => uptoBulk d + 1
 end
def uptoSmall : (H : Type) → List (DataW H) → Bool := fun _ ds => decide (uptoBulkAll ds ≤ 1048576)
def OpenSpec.upto (s : _root_.Go.ChangeSpec) : _root_.Go.OpenSpec := { _root_.Go.OpenSpec.ofChange s with cond := some uptoSmall }

/-- 'laws.FnExactWalkFrom', WHERE WHAT IT READS IS OF BULK AT MOST 1048576: true; the input reads as it did. -/
def fnExactWalkFromUptoRow : OpenClaim := { program := "ythkohenobbhhmaa", sum := "4a0bdac0e4fa32569f9347557605c45571b9be6fb61c3a999d9659044ad7d340", func := "loop.example/g01160/laws.FnExactWalkFrom", spec := "fnExactWalkFrom", unfollowed := true, recurses := true, apart := false, narrowed := true }
def FnExactWalkFromUptoSaid : Prop := fnExactWalkFromUptoRow.holds Try.pinned (OpenSpec.upto fnExactWalkFromSpec)

/-- 'laws.FnExactExitOf', WHERE WHAT IT READS IS OF BULK AT MOST 1048576: true; the input reads as it did. -/
def fnExactExitOfUptoRow : OpenClaim := { program := "ythkohenobbhhmaa", sum := "4a0bdac0e4fa32569f9347557605c45571b9be6fb61c3a999d9659044ad7d340", func := "loop.example/g01160/laws.FnExactExitOf", spec := "fnExactExitOf", unfollowed := true, recurses := true, apart := false, narrowed := true }
def FnExactExitOfUptoSaid : Prop := fnExactExitOfUptoRow.holds Try.pinned (OpenSpec.upto fnExactExitOfSpec)

/-- 'laws.FnExactFindFull', WHERE WHAT IT READS IS OF BULK AT MOST 1048576: true; the input reads as it did. -/
def fnExactFindFullUptoRow : OpenClaim := { program := "ythkohenobbhhmaa", sum := "4a0bdac0e4fa32569f9347557605c45571b9be6fb61c3a999d9659044ad7d340", func := "loop.example/g01160/laws.FnExactFindFull", spec := "fnExactFindFull", unfollowed := true, recurses := true, apart := false, narrowed := true }
def FnExactFindFullUptoSaid : Prop := fnExactFindFullUptoRow.holds Try.pinned (OpenSpec.upto fnExactFindFullSpec)

/-- 'laws.FnExactPartnerOfFull', WHERE WHAT IT READS IS OF BULK AT MOST 1048576: true; the input reads as it did. -/
def fnExactPartnerOfFullUptoRow : OpenClaim := { program := "ythkohenobbhhmaa", sum := "4a0bdac0e4fa32569f9347557605c45571b9be6fb61c3a999d9659044ad7d340", func := "loop.example/g01160/laws.FnExactPartnerOfFull", spec := "fnExactPartnerOfFull", unfollowed := true, recurses := true, apart := false, narrowed := true }
def FnExactPartnerOfFullUptoSaid : Prop := fnExactPartnerOfFullUptoRow.holds Try.pinned (OpenSpec.upto fnExactPartnerOfFullSpec)

/-- 'laws.FnExactClosedRooms', WHERE WHAT IT READS IS OF BULK AT MOST 1048576: true; the input reads as it did. -/
def fnExactClosedRoomsUptoRow : OpenClaim := { program := "ythkohenobbhhmaa", sum := "4a0bdac0e4fa32569f9347557605c45571b9be6fb61c3a999d9659044ad7d340", func := "loop.example/g01160/laws.FnExactClosedRooms", spec := "fnExactClosedRooms", unfollowed := true, recurses := true, apart := false, narrowed := true }
def FnExactClosedRoomsUptoSaid : Prop := fnExactClosedRoomsUptoRow.holds Try.pinned (OpenSpec.upto fnExactClosedRoomsSpec)

/-- 'laws.FnExactIsBoard', WHERE WHAT IT READS IS OF BULK AT MOST 1048576: true; the input reads as it did. -/
def fnExactIsBoardUptoRow : OpenClaim := { program := "ythkohenobbhhmaa", sum := "4a0bdac0e4fa32569f9347557605c45571b9be6fb61c3a999d9659044ad7d340", func := "loop.example/g01160/laws.FnExactIsBoard", spec := "fnExactIsBoard", apart := false, narrowed := true }
def FnExactIsBoardUptoSaid : Prop := fnExactIsBoardUptoRow.holds Try.pinned (OpenSpec.upto fnExactIsBoardSpec)

/-- 'laws.FnExactTurnBoard', WHERE WHAT IT READS IS OF BULK AT MOST 1048576: true; the input reads as it did. -/
def fnExactTurnBoardUptoRow : OpenClaim := { program := "ythkohenobbhhmaa", sum := "4a0bdac0e4fa32569f9347557605c45571b9be6fb61c3a999d9659044ad7d340", func := "loop.example/g01160/laws.FnExactTurnBoard", spec := "fnExactTurnBoard", apart := false, narrowed := true }
def FnExactTurnBoardUptoSaid : Prop := fnExactTurnBoardUptoRow.holds Try.pinned (OpenSpec.upto fnExactTurnBoardSpec)

/-- 'laws.FnExactHalfTurn', WHERE WHAT IT READS IS OF BULK AT MOST 1048576: true; the input reads as it did. -/
def fnExactHalfTurnUptoRow : OpenClaim := { program := "ythkohenobbhhmaa", sum := "4a0bdac0e4fa32569f9347557605c45571b9be6fb61c3a999d9659044ad7d340", func := "loop.example/g01160/laws.FnExactHalfTurn", spec := "fnExactHalfTurn", apart := false, narrowed := true }
def FnExactHalfTurnUptoSaid : Prop := fnExactHalfTurnUptoRow.holds Try.pinned (OpenSpec.upto fnExactHalfTurnSpec)

end Rows
end Go.Proofs.Ythkohenobbhhmaa
