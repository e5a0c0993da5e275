/-
  DERIVED. GIVEN WITH THE SEED: THE CARDS: each row of YtncpnkcdjfohgaaDoorRows.lean that lists a variable, with what it lists TIED to the program's text (the seventh form; the later family's looks); each row that meets fmt, with fmt's text TOLD by the authors' own Lean function (tested against real Go, not proved from fmt's source: count such statements apart). THE CARD IS WHAT COUNTS. Prove the row's statement (the work); the ties are given (YtncpnkcdjfohgaaDoorTie.lean); close each card by the builder's one call (the guide's Derived/Test/ToyasCard.lean, 'card_holds'). Laid BY PROGRAM, IN A SANDBOX (cutbox-door.mjs). By AI agents, Wed Nov 11 2026. No macro, syntax, notation, axiom, sorry.
-/
import Derived.Test.YtncpnkcdjfohgaaDoorRows
import GoSem.ClaimSeven
namespace Go.Proofs.YtncpnkcdjfohgaaDoor
namespace Rows

/-- THE TIED CARD OF 'laws.FnExactLeastEnvy'. -/
def fnExactLeastEnvyCard : Claim7 := { stood := { row := fnExactLeastEnvyRow, standIns := [], harness := (true, "4d6e222ce09606b53fa7e875d4d9803018d50df81e9ee188f550255a399276ac"), looks := false }, kinds := [], alts := [], laidByText := true, laidKinds := [.data], laidTests := true, laidLooks := .later }
def FnExactLeastEnvyCardSaid : Prop := Claim7.holds Tryd.pinned (.plain (OpenSpec.ofChange fnExactLeastEnvySpec)) fnExactLeastEnvyCard

/-- THE TIED CARD OF 'laws.FnExactBestCut'. -/
def fnExactBestCutCard : Claim7 := { stood := { row := fnExactBestCutRow, standIns := [], harness := (true, "4d6e222ce09606b53fa7e875d4d9803018d50df81e9ee188f550255a399276ac"), looks := false }, kinds := [], alts := [], laidByText := true, laidKinds := [.data], laidTests := true, laidLooks := .later }
def FnExactBestCutCardSaid : Prop := Claim7.holds Tryd.pinned (.plain (OpenSpec.ofChange fnExactBestCutSpec)) fnExactBestCutCard

/-- THE TIED CARD OF 'laws.FnExactFairRent'. -/
def fnExactFairRentCard : Claim7 := { stood := { row := fnExactFairRentRow, standIns := [], harness := (true, "4d6e222ce09606b53fa7e875d4d9803018d50df81e9ee188f550255a399276ac"), looks := false }, kinds := [], alts := [], laidByText := true, laidKinds := [.data], laidTests := true, laidLooks := .later }
def FnExactFairRentCardSaid : Prop := Claim7.holds Tryd.pinned (.plain (OpenSpec.ofChange fnExactFairRentSpec)) fnExactFairRentCard

/-- THE TIED CARD OF 'laws.FnLeastEnvy'. -/
def fnLeastEnvyCard : Claim7 := { stood := { row := fnLeastEnvyRow, standIns := [], harness := (true, "4d6e222ce09606b53fa7e875d4d9803018d50df81e9ee188f550255a399276ac"), looks := false }, kinds := [], alts := [], laidByText := true, laidKinds := [.data], laidTests := true, laidLooks := .later }
def FnLeastEnvyCardSaid : Prop := Claim7.holds Tryd.pinned (.plain (OpenSpec.ofChange fnLeastEnvySpec)) fnLeastEnvyCard

/-- THE TIED CARD OF 'laws.FnRentsAreFair'. -/
def fnRentsAreFairCard : Claim7 := { stood := { row := fnRentsAreFairRow, standIns := [], harness := (true, "4d6e222ce09606b53fa7e875d4d9803018d50df81e9ee188f550255a399276ac"), looks := false }, kinds := [], alts := [], laidByText := true, laidKinds := [.data], laidTests := true, laidLooks := .later }
def FnRentsAreFairCardSaid : Prop := Claim7.holds Tryd.pinned (.plain (OpenSpec.ofChange fnRentsAreFairSpec)) fnRentsAreFairCard

/-- THE SECOND FORM's CARD OF 'laws.FnExactLeastEnvy'. -/
def fnExactLeastEnvyUptoCard : Claim7 := { stood := { row := fnExactLeastEnvyUptoRow, standIns := [], harness := (true, "4d6e222ce09606b53fa7e875d4d9803018d50df81e9ee188f550255a399276ac"), looks := false }, kinds := [], alts := [], laidByText := true, laidKinds := [.data], laidTests := true, laidLooks := .later }
def FnExactLeastEnvyUptoCardSaid : Prop := Claim7.holds Tryd.pinned (.plain (OpenSpec.upto fnExactLeastEnvySpec)) fnExactLeastEnvyUptoCard

/-- THE SECOND FORM's CARD OF 'laws.FnExactBestCut'. -/
def fnExactBestCutUptoCard : Claim7 := { stood := { row := fnExactBestCutUptoRow, standIns := [], harness := (true, "4d6e222ce09606b53fa7e875d4d9803018d50df81e9ee188f550255a399276ac"), looks := false }, kinds := [], alts := [], laidByText := true, laidKinds := [.data], laidTests := true, laidLooks := .later }
def FnExactBestCutUptoCardSaid : Prop := Claim7.holds Tryd.pinned (.plain (OpenSpec.upto fnExactBestCutSpec)) fnExactBestCutUptoCard

/-- THE SECOND FORM's CARD OF 'laws.FnExactFairRent'. -/
def fnExactFairRentUptoCard : Claim7 := { stood := { row := fnExactFairRentUptoRow, standIns := [], harness := (true, "4d6e222ce09606b53fa7e875d4d9803018d50df81e9ee188f550255a399276ac"), looks := false }, kinds := [], alts := [], laidByText := true, laidKinds := [.data], laidTests := true, laidLooks := .later }
def FnExactFairRentUptoCardSaid : Prop := Claim7.holds Tryd.pinned (.plain (OpenSpec.upto fnExactFairRentSpec)) fnExactFairRentUptoCard

/-- THE SECOND FORM's CARD OF 'laws.FnLeastEnvy'. -/
def fnLeastEnvyUptoCard : Claim7 := { stood := { row := fnLeastEnvyUptoRow, standIns := [], harness := (true, "4d6e222ce09606b53fa7e875d4d9803018d50df81e9ee188f550255a399276ac"), looks := false }, kinds := [], alts := [], laidByText := true, laidKinds := [.data], laidTests := true, laidLooks := .later }
def FnLeastEnvyUptoCardSaid : Prop := Claim7.holds Tryd.pinned (.plain (OpenSpec.upto fnLeastEnvySpec)) fnLeastEnvyUptoCard

/-- THE SECOND FORM's CARD OF 'laws.FnRentsAreFair'. -/
def fnRentsAreFairUptoCard : Claim7 := { stood := { row := fnRentsAreFairUptoRow, standIns := [], harness := (true, "4d6e222ce09606b53fa7e875d4d9803018d50df81e9ee188f550255a399276ac"), looks := false }, kinds := [], alts := [], laidByText := true, laidKinds := [.data], laidTests := true, laidLooks := .later }
def FnRentsAreFairUptoCardSaid : Prop := Claim7.holds Tryd.pinned (.plain (OpenSpec.upto fnRentsAreFairSpec)) fnRentsAreFairUptoCard
end Rows
end Go.Proofs.YtncpnkcdjfohgaaDoor
