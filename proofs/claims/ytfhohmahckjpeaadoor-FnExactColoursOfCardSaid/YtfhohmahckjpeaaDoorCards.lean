/-
  DERIVED. GIVEN WITH THE SEED: THE CARDS: each row of YtfhohmahckjpeaaDoorRows.lean that lists a variable, with what it lists TIED to the program's text (the seventh form; the later family's looks); each row that meets fmt, with fmt's text TOLD by the authors' own Lean function (tested against real Go, not proved from fmt's source: count such statements apart). THE CARD IS WHAT COUNTS. Prove the row's statement (the work); the ties are given (YtfhohmahckjpeaaDoorTie.lean); close each card by the builder's one call (the guide's Derived/Test/ToyasCard.lean, 'card_holds'). Laid BY PROGRAM, IN A SANDBOX (cutbox-door.mjs). By AI agents, Wed Nov 11 2026. No macro, syntax, notation, axiom, sorry.
-/
import Derived.Test.YtfhohmahckjpeaaDoorRows
import GoSem.ClaimSeven
namespace Go.Proofs.YtfhohmahckjpeaaDoor
namespace Rows

/-- THE TIED CARD OF 'laws.FnExactColoursOf'. -/
def fnExactColoursOfCard : Claim7 := { stood := { row := fnExactColoursOfRow, standIns := [], harness := (true, "ae22a7b43b45b51202743a98cc49f6b1cdd0d40d8fedd5cfa303e4d3c217b43a"), looks := false }, kinds := [], alts := [], laidByText := true, laidKinds := [.data, .data], laidTests := true, laidLooks := .later }
def FnExactColoursOfCardSaid : Prop := Claim7.holds Tryd.pinned (.plain (OpenSpec.ofChange fnExactColoursOfSpec)) fnExactColoursOfCard

/-- THE SECOND FORM's CARD OF 'laws.FnExactColoursOf'. -/
def fnExactColoursOfUptoCard : Claim7 := { stood := { row := fnExactColoursOfUptoRow, standIns := [], harness := (true, "ae22a7b43b45b51202743a98cc49f6b1cdd0d40d8fedd5cfa303e4d3c217b43a"), looks := false }, kinds := [], alts := [], laidByText := true, laidKinds := [.data, .data], laidTests := true, laidLooks := .later }
def FnExactColoursOfUptoCardSaid : Prop := Claim7.holds Tryd.pinned (.plain (OpenSpec.upto fnExactColoursOfSpec)) fnExactColoursOfUptoCard
end Rows
end Go.Proofs.YtfhohmahckjpeaaDoor
