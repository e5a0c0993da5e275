/-
  DERIVED. GIVEN WITH THE SEED: THE CARDS: each row of YtianmmjjcegkjaaDoorRows.lean that lists a variable, with what it lists TIED to the program's text (the seventh form; the later family's looks); each row that meets fmt, with fmt's text TOLD by the authors' own Lean function (tested against real Go, not proved from fmt's source: count such statements apart). THE CARD IS WHAT COUNTS. Prove the row's statement (the work); the ties are given (YtianmmjjcegkjaaDoorTie.lean); close each card by the builder's one call (the guide's Derived/Test/ToyasCard.lean, 'card_holds'). Laid BY PROGRAM, IN A SANDBOX (cutbox-door.mjs). By AI agents, Wed Nov 11 2026. No macro, syntax, notation, axiom, sorry.
-/
import Derived.Test.YtianmmjjcegkjaaDoorRows
import GoSem.ClaimSeven
namespace Go.Proofs.YtianmmjjcegkjaaDoor
namespace Rows

/-- THE TIED CARD OF 'laws.FnExactCountWins'. -/
def fnExactCountWinsCard : Claim7 := { stood := { row := fnExactCountWinsRow, standIns := [], harness := (true, "a8f7d135d6bacbc32b16f233bab0817b0937ae946248de494da65c6391a2456f"), looks := false }, kinds := [], alts := [], laidByText := true, laidKinds := [.data], laidTests := true, laidLooks := .later }
def FnExactCountWinsCardSaid : Prop := Claim7.holds Tryd.pinned (.plain (OpenSpec.ofChange fnExactCountWinsSpec)) fnExactCountWinsCard

/-- THE SECOND FORM's CARD OF 'laws.FnExactCountWins'. -/
def fnExactCountWinsUptoCard : Claim7 := { stood := { row := fnExactCountWinsUptoRow, standIns := [], harness := (true, "a8f7d135d6bacbc32b16f233bab0817b0937ae946248de494da65c6391a2456f"), looks := false }, kinds := [], alts := [], laidByText := true, laidKinds := [.data], laidTests := true, laidLooks := .later }
def FnExactCountWinsUptoCardSaid : Prop := Claim7.holds Tryd.pinned (.plain (OpenSpec.upto fnExactCountWinsSpec)) fnExactCountWinsUptoCard
end Rows
end Go.Proofs.YtianmmjjcegkjaaDoor
