/-
  DERIVED. GIVEN WITH THE SEED: THE CARDS: each row of YtfpadepeanejeaaDoorRows.lean that lists a variable, with what it lists TIED to the program's text (the seventh form; the later family's looks); each row that meets fmt, with fmt's text TOLD by the authors' own Lean function (tested against real Go, not proved from fmt's source: count such statements apart). THE CARD IS WHAT COUNTS. Prove the row's statement (the work); the ties are given (YtfpadepeanejeaaDoorTie.lean); close each card by the builder's one call (the guide's Derived/Test/ToyasCard.lean, 'card_holds'). Laid BY PROGRAM, IN A SANDBOX (cutbox-door.mjs). By AI agents, Wed Nov 11 2026. No macro, syntax, notation, axiom, sorry.
-/
import Derived.Test.YtfpadepeanejeaaDoorRows
import GoSem.ClaimSeven
namespace Go.Proofs.YtfpadepeanejeaaDoor
namespace Rows

/-- THE TIED CARD OF 'laws.FnExactEnvyAt'. -/
def fnExactEnvyAtCard : Claim7 := { stood := { row := fnExactEnvyAtRow, standIns := [], harness := (true, "9e83ed5e8648aa061a956a7e22809a034af76c511398d51c69a94b08d075f2db"), looks := false }, kinds := [], alts := [], laidByText := true, laidKinds := [.data], laidTests := true, laidLooks := .later }
def FnExactEnvyAtCardSaid : Prop := Claim7.holds Tryd.pinned (.plain (OpenSpec.ofChange fnExactEnvyAtSpec)) fnExactEnvyAtCard

/-- THE TIED CARD OF 'laws.FnExactSumAt'. -/
def fnExactSumAtCard : Claim7 := { stood := { row := fnExactSumAtRow, standIns := [], harness := (true, "9e83ed5e8648aa061a956a7e22809a034af76c511398d51c69a94b08d075f2db"), looks := false }, kinds := [], alts := [], laidByText := true, laidKinds := [.data], laidTests := true, laidLooks := .later }
def FnExactSumAtCardSaid : Prop := Claim7.holds Tryd.pinned (.plain (OpenSpec.ofChange fnExactSumAtSpec)) fnExactSumAtCard

/-- THE TIED CARD OF 'laws.FnExactRentEnvy'. -/
def fnExactRentEnvyCard : Claim7 := { stood := { row := fnExactRentEnvyRow, standIns := [], harness := (true, "9e83ed5e8648aa061a956a7e22809a034af76c511398d51c69a94b08d075f2db"), looks := false }, kinds := [], alts := [], laidByText := true, laidKinds := [.data], laidTests := true, laidLooks := .later }
def FnExactRentEnvyCardSaid : Prop := Claim7.holds Tryd.pinned (.plain (OpenSpec.ofChange fnExactRentEnvySpec)) fnExactRentEnvyCard

/-- THE TIED CARD OF 'laws.FnExactBestRooms'. -/
def fnExactBestRoomsCard : Claim7 := { stood := { row := fnExactBestRoomsRow, standIns := [], harness := (true, "9e83ed5e8648aa061a956a7e22809a034af76c511398d51c69a94b08d075f2db"), looks := false }, kinds := [], alts := [], laidByText := true, laidKinds := [.data], laidTests := true, laidLooks := .later }
def FnExactBestRoomsCardSaid : Prop := Claim7.holds Tryd.pinned (.plain (OpenSpec.ofChange fnExactBestRoomsSpec)) fnExactBestRoomsCard

/-- THE SECOND FORM's CARD OF 'laws.FnExactEnvyAt'. -/
def fnExactEnvyAtUptoCard : Claim7 := { stood := { row := fnExactEnvyAtUptoRow, standIns := [], harness := (true, "9e83ed5e8648aa061a956a7e22809a034af76c511398d51c69a94b08d075f2db"), looks := false }, kinds := [], alts := [], laidByText := true, laidKinds := [.data], laidTests := true, laidLooks := .later }
def FnExactEnvyAtUptoCardSaid : Prop := Claim7.holds Tryd.pinned (.plain (OpenSpec.upto fnExactEnvyAtSpec)) fnExactEnvyAtUptoCard

/-- THE SECOND FORM's CARD OF 'laws.FnExactSumAt'. -/
def fnExactSumAtUptoCard : Claim7 := { stood := { row := fnExactSumAtUptoRow, standIns := [], harness := (true, "9e83ed5e8648aa061a956a7e22809a034af76c511398d51c69a94b08d075f2db"), looks := false }, kinds := [], alts := [], laidByText := true, laidKinds := [.data], laidTests := true, laidLooks := .later }
def FnExactSumAtUptoCardSaid : Prop := Claim7.holds Tryd.pinned (.plain (OpenSpec.upto fnExactSumAtSpec)) fnExactSumAtUptoCard

/-- THE SECOND FORM's CARD OF 'laws.FnExactRentEnvy'. -/
def fnExactRentEnvyUptoCard : Claim7 := { stood := { row := fnExactRentEnvyUptoRow, standIns := [], harness := (true, "9e83ed5e8648aa061a956a7e22809a034af76c511398d51c69a94b08d075f2db"), looks := false }, kinds := [], alts := [], laidByText := true, laidKinds := [.data], laidTests := true, laidLooks := .later }
def FnExactRentEnvyUptoCardSaid : Prop := Claim7.holds Tryd.pinned (.plain (OpenSpec.upto fnExactRentEnvySpec)) fnExactRentEnvyUptoCard

/-- THE SECOND FORM's CARD OF 'laws.FnExactBestRooms'. -/
def fnExactBestRoomsUptoCard : Claim7 := { stood := { row := fnExactBestRoomsUptoRow, standIns := [], harness := (true, "9e83ed5e8648aa061a956a7e22809a034af76c511398d51c69a94b08d075f2db"), looks := false }, kinds := [], alts := [], laidByText := true, laidKinds := [.data], laidTests := true, laidLooks := .later }
def FnExactBestRoomsUptoCardSaid : Prop := Claim7.holds Tryd.pinned (.plain (OpenSpec.upto fnExactBestRoomsSpec)) fnExactBestRoomsUptoCard
end Rows
end Go.Proofs.YtfpadepeanejeaaDoor
