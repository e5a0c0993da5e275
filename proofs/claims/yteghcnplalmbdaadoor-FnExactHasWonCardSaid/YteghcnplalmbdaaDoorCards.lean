/-
  DERIVED. GIVEN WITH THE SEED: THE CARDS: each row of YteghcnplalmbdaaDoorRows.lean that lists a variable, with what it lists TIED to the program's text (the seventh form; the later family's looks); each row that meets fmt, with fmt's text TOLD by the authors' own Lean function (tested against real Go, not proved from fmt's source: count such statements apart). THE CARD IS WHAT COUNTS. Prove the row's statement (the work); the ties are given (YteghcnplalmbdaaDoorTie.lean); close each card by the builder's one call (the guide's Derived/Test/ToyasCard.lean, 'card_holds'). Laid BY PROGRAM, IN A SANDBOX (cutbox-door.mjs). By AI agents, Wed Nov 11 2026. No macro, syntax, notation, axiom, sorry.
-/
import Derived.Test.YteghcnplalmbdaaDoorRows
import GoSem.ClaimSeven
namespace Go.Proofs.YteghcnplalmbdaaDoor
namespace Rows

/-- THE TIED CARD OF 'laws.FnExactNeedOf'. -/
def fnExactNeedOfCard : Claim7 := { stood := { row := fnExactNeedOfRow, standIns := [], harness := (true, "a5c9292fdbad03ba38a133ab1c71d28a31c2c59dd9879d56063044346632230d"), looks := false }, kinds := [], alts := [], laidByText := true, laidKinds := [.data], laidTests := true, laidLooks := .later }
def FnExactNeedOfCardSaid : Prop := Claim7.holds Tryd.pinned (.plain (OpenSpec.ofChange fnExactNeedOfSpec)) fnExactNeedOfCard

/-- THE TIED CARD OF 'laws.FnExactHasWon'. -/
def fnExactHasWonCard : Claim7 := { stood := { row := fnExactHasWonRow, standIns := [], harness := (true, "a5c9292fdbad03ba38a133ab1c71d28a31c2c59dd9879d56063044346632230d"), looks := false }, kinds := [], alts := [], laidByText := true, laidKinds := [.data], laidTests := true, laidLooks := .later }
def FnExactHasWonCardSaid : Prop := Claim7.holds Tryd.pinned (.plain (OpenSpec.ofChange fnExactHasWonSpec)) fnExactHasWonCard

/-- THE TIED CARD OF 'laws.FnExactWinnerOf'. -/
def fnExactWinnerOfCard : Claim7 := { stood := { row := fnExactWinnerOfRow, standIns := [], harness := (true, "a5c9292fdbad03ba38a133ab1c71d28a31c2c59dd9879d56063044346632230d"), looks := false }, kinds := [], alts := [], laidByText := true, laidKinds := [.data], laidTests := true, laidLooks := .later }
def FnExactWinnerOfCardSaid : Prop := Claim7.holds Tryd.pinned (.plain (OpenSpec.ofChange fnExactWinnerOfSpec)) fnExactWinnerOfCard

/-- THE SECOND FORM's CARD OF 'laws.FnExactNeedOf'. -/
def fnExactNeedOfUptoCard : Claim7 := { stood := { row := fnExactNeedOfUptoRow, standIns := [], harness := (true, "a5c9292fdbad03ba38a133ab1c71d28a31c2c59dd9879d56063044346632230d"), looks := false }, kinds := [], alts := [], laidByText := true, laidKinds := [.data], laidTests := true, laidLooks := .later }
def FnExactNeedOfUptoCardSaid : Prop := Claim7.holds Tryd.pinned (.plain (OpenSpec.upto fnExactNeedOfSpec)) fnExactNeedOfUptoCard

/-- THE SECOND FORM's CARD OF 'laws.FnExactHasWon'. -/
def fnExactHasWonUptoCard : Claim7 := { stood := { row := fnExactHasWonUptoRow, standIns := [], harness := (true, "a5c9292fdbad03ba38a133ab1c71d28a31c2c59dd9879d56063044346632230d"), looks := false }, kinds := [], alts := [], laidByText := true, laidKinds := [.data], laidTests := true, laidLooks := .later }
def FnExactHasWonUptoCardSaid : Prop := Claim7.holds Tryd.pinned (.plain (OpenSpec.upto fnExactHasWonSpec)) fnExactHasWonUptoCard

/-- THE SECOND FORM's CARD OF 'laws.FnExactWinnerOf'. -/
def fnExactWinnerOfUptoCard : Claim7 := { stood := { row := fnExactWinnerOfUptoRow, standIns := [], harness := (true, "a5c9292fdbad03ba38a133ab1c71d28a31c2c59dd9879d56063044346632230d"), looks := false }, kinds := [], alts := [], laidByText := true, laidKinds := [.data], laidTests := true, laidLooks := .later }
def FnExactWinnerOfUptoCardSaid : Prop := Claim7.holds Tryd.pinned (.plain (OpenSpec.upto fnExactWinnerOfSpec)) fnExactWinnerOfUptoCard
end Rows
end Go.Proofs.YteghcnplalmbdaaDoor
