/-
  DERIVED. GIVEN WITH THE SEED: THE CARDS: each row of YtcahecohjmahaaaDoorRows.lean that lists a variable, with what it lists TIED to the program's text (the seventh form; the later family's looks); each row that meets fmt, with fmt's text TOLD by the authors' own Lean function (tested against real Go, not proved from fmt's source: count such statements apart). THE CARD IS WHAT COUNTS. Prove the row's statement (the work); the ties are given (YtcahecohjmahaaaDoorTie.lean); close each card by the builder's one call (the guide's Derived/Test/ToyasCard.lean, 'card_holds'). Laid BY PROGRAM, IN A SANDBOX (cutbox-door.mjs). By AI agents, Wed Nov 11 2026. No macro, syntax, notation, axiom, sorry.
-/
import Derived.Test.YtcahecohjmahaaaDoorRows
import GoSem.ClaimSeven
namespace Go.Proofs.YtcahecohjmahaaaDoor
namespace Rows

/-- THE TIED CARD OF 'laws.FnExactOppositeEdges'. -/
def fnExactOppositeEdgesCard : Claim7 := { stood := { row := fnExactOppositeEdgesRow, standIns := [], harness := (true, "679591783757617f6aae11628870993a697ba4c4a3f6726ade61dba855f93e42"), looks := false }, kinds := [], alts := [], laidByText := true, laidKinds := [.data], laidTests := true, laidLooks := .later }
def FnExactOppositeEdgesCardSaid : Prop := Claim7.holds Tryd.pinned (.plain (OpenSpec.ofChange fnExactOppositeEdgesSpec)) fnExactOppositeEdgesCard

/-- THE TIED CARD OF 'laws.FnExactHexNear'. -/
def fnExactHexNearCard : Claim7 := { stood := { row := fnExactHexNearRow, standIns := [], harness := (true, "679591783757617f6aae11628870993a697ba4c4a3f6726ade61dba855f93e42"), looks := false }, kinds := [], alts := [], laidByText := true, laidKinds := [.data], laidTests := true, laidLooks := .later }
def FnExactHexNearCardSaid : Prop := Claim7.holds Tryd.pinned (.plain (OpenSpec.ofChange fnExactHexNearSpec)) fnExactHexNearCard

/-- THE TIED CARD OF 'laws.FnExactNeedOf'. -/
def fnExactNeedOfCard : Claim7 := { stood := { row := fnExactNeedOfRow, standIns := [], harness := (true, "679591783757617f6aae11628870993a697ba4c4a3f6726ade61dba855f93e42"), looks := false }, kinds := [], alts := [], laidByText := true, laidKinds := [.data], laidTests := true, laidLooks := .later }
def FnExactNeedOfCardSaid : Prop := Claim7.holds Tryd.pinned (.plain (OpenSpec.ofChange fnExactNeedOfSpec)) fnExactNeedOfCard

/-- THE TIED CARD OF 'laws.FnExactHexWalk'. -/
def fnExactHexWalkCard : Claim7 := { stood := { row := fnExactHexWalkRow, standIns := [], harness := (true, "679591783757617f6aae11628870993a697ba4c4a3f6726ade61dba855f93e42"), looks := false }, kinds := [], alts := [], laidByText := true, laidKinds := [.data], laidTests := true, laidLooks := .later }
def FnExactHexWalkCardSaid : Prop := Claim7.holds Tryd.pinned (.plain (OpenSpec.ofChange fnExactHexWalkSpec)) fnExactHexWalkCard

/-- THE TIED CARD OF 'laws.FnExactWinnerByWalk'. -/
def fnExactWinnerByWalkCard : Claim7 := { stood := { row := fnExactWinnerByWalkRow, standIns := [], harness := (true, "679591783757617f6aae11628870993a697ba4c4a3f6726ade61dba855f93e42"), looks := false }, kinds := [], alts := [], laidByText := true, laidKinds := [.data], laidTests := true, laidLooks := .later }
def FnExactWinnerByWalkCardSaid : Prop := Claim7.holds Tryd.pinned (.plain (OpenSpec.ofChange fnExactWinnerByWalkSpec)) fnExactWinnerByWalkCard

/-- THE TIED CARD OF 'laws.FnExactHasWon'. -/
def fnExactHasWonCard : Claim7 := { stood := { row := fnExactHasWonRow, standIns := [], harness := (true, "679591783757617f6aae11628870993a697ba4c4a3f6726ade61dba855f93e42"), looks := false }, kinds := [], alts := [], laidByText := true, laidKinds := [.data], laidTests := true, laidLooks := .later }
def FnExactHasWonCardSaid : Prop := Claim7.holds Tryd.pinned (.plain (OpenSpec.ofChange fnExactHasWonSpec)) fnExactHasWonCard

/-- THE TIED CARD OF 'laws.FnExactWinnerOf'. -/
def fnExactWinnerOfCard : Claim7 := { stood := { row := fnExactWinnerOfRow, standIns := [], harness := (true, "679591783757617f6aae11628870993a697ba4c4a3f6726ade61dba855f93e42"), looks := false }, kinds := [], alts := [], laidByText := true, laidKinds := [.data], laidTests := true, laidLooks := .later }
def FnExactWinnerOfCardSaid : Prop := Claim7.holds Tryd.pinned (.plain (OpenSpec.ofChange fnExactWinnerOfSpec)) fnExactWinnerOfCard

/-- THE TIED CARD OF 'laws.FnExactLabelsText'. -/
def fnExactLabelsTextCard : Claim7 := { stood := { row := fnExactLabelsTextRow, standIns := [], harness := (true, "679591783757617f6aae11628870993a697ba4c4a3f6726ade61dba855f93e42"), looks := false }, kinds := [], alts := [], laidByText := true, laidKinds := [.data, .data, .data], laidTests := true, laidLooks := .later }
def FnExactLabelsTextCardSaid : Prop := Claim7.holds Tryd.pinned (.plain (OpenSpec.ofChange fnExactLabelsTextSpec)) fnExactLabelsTextCard

/-- THE TIED CARD OF 'laws.FnOppositeEdgesFound'. -/
def fnOppositeEdgesFoundCard : Claim7 := { stood := { row := fnOppositeEdgesFoundRow, standIns := [], harness := (true, "679591783757617f6aae11628870993a697ba4c4a3f6726ade61dba855f93e42"), looks := false }, kinds := [], alts := [], laidByText := true, laidKinds := [.data], laidTests := true, laidLooks := .later }
def FnOppositeEdgesFoundCardSaid : Prop := Claim7.holds Tryd.pinned (.plain (OpenSpec.ofChange fnOppositeEdgesFoundSpec)) fnOppositeEdgesFoundCard

/-- THE SECOND FORM's CARD OF 'laws.FnExactOppositeEdges'. -/
def fnExactOppositeEdgesUptoCard : Claim7 := { stood := { row := fnExactOppositeEdgesUptoRow, standIns := [], harness := (true, "679591783757617f6aae11628870993a697ba4c4a3f6726ade61dba855f93e42"), looks := false }, kinds := [], alts := [], laidByText := true, laidKinds := [.data], laidTests := true, laidLooks := .later }
def FnExactOppositeEdgesUptoCardSaid : Prop := Claim7.holds Tryd.pinned (.plain (OpenSpec.upto fnExactOppositeEdgesSpec)) fnExactOppositeEdgesUptoCard

/-- THE SECOND FORM's CARD OF 'laws.FnExactHexNear'. -/
def fnExactHexNearUptoCard : Claim7 := { stood := { row := fnExactHexNearUptoRow, standIns := [], harness := (true, "679591783757617f6aae11628870993a697ba4c4a3f6726ade61dba855f93e42"), looks := false }, kinds := [], alts := [], laidByText := true, laidKinds := [.data], laidTests := true, laidLooks := .later }
def FnExactHexNearUptoCardSaid : Prop := Claim7.holds Tryd.pinned (.plain (OpenSpec.upto fnExactHexNearSpec)) fnExactHexNearUptoCard

/-- THE SECOND FORM's CARD OF 'laws.FnExactNeedOf'. -/
def fnExactNeedOfUptoCard : Claim7 := { stood := { row := fnExactNeedOfUptoRow, standIns := [], harness := (true, "679591783757617f6aae11628870993a697ba4c4a3f6726ade61dba855f93e42"), looks := false }, kinds := [], alts := [], laidByText := true, laidKinds := [.data], laidTests := true, laidLooks := .later }
def FnExactNeedOfUptoCardSaid : Prop := Claim7.holds Tryd.pinned (.plain (OpenSpec.upto fnExactNeedOfSpec)) fnExactNeedOfUptoCard

/-- THE SECOND FORM's CARD OF 'laws.FnExactHexWalk'. -/
def fnExactHexWalkUptoCard : Claim7 := { stood := { row := fnExactHexWalkUptoRow, standIns := [], harness := (true, "679591783757617f6aae11628870993a697ba4c4a3f6726ade61dba855f93e42"), looks := false }, kinds := [], alts := [], laidByText := true, laidKinds := [.data], laidTests := true, laidLooks := .later }
def FnExactHexWalkUptoCardSaid : Prop := Claim7.holds Tryd.pinned (.plain (OpenSpec.upto fnExactHexWalkSpec)) fnExactHexWalkUptoCard

/-- THE SECOND FORM's CARD OF 'laws.FnExactWinnerByWalk'. -/
def fnExactWinnerByWalkUptoCard : Claim7 := { stood := { row := fnExactWinnerByWalkUptoRow, standIns := [], harness := (true, "679591783757617f6aae11628870993a697ba4c4a3f6726ade61dba855f93e42"), looks := false }, kinds := [], alts := [], laidByText := true, laidKinds := [.data], laidTests := true, laidLooks := .later }
def FnExactWinnerByWalkUptoCardSaid : Prop := Claim7.holds Tryd.pinned (.plain (OpenSpec.upto fnExactWinnerByWalkSpec)) fnExactWinnerByWalkUptoCard

/-- THE SECOND FORM's CARD OF 'laws.FnExactHasWon'. -/
def fnExactHasWonUptoCard : Claim7 := { stood := { row := fnExactHasWonUptoRow, standIns := [], harness := (true, "679591783757617f6aae11628870993a697ba4c4a3f6726ade61dba855f93e42"), looks := false }, kinds := [], alts := [], laidByText := true, laidKinds := [.data], laidTests := true, laidLooks := .later }
def FnExactHasWonUptoCardSaid : Prop := Claim7.holds Tryd.pinned (.plain (OpenSpec.upto fnExactHasWonSpec)) fnExactHasWonUptoCard

/-- THE SECOND FORM's CARD OF 'laws.FnExactWinnerOf'. -/
def fnExactWinnerOfUptoCard : Claim7 := { stood := { row := fnExactWinnerOfUptoRow, standIns := [], harness := (true, "679591783757617f6aae11628870993a697ba4c4a3f6726ade61dba855f93e42"), looks := false }, kinds := [], alts := [], laidByText := true, laidKinds := [.data], laidTests := true, laidLooks := .later }
def FnExactWinnerOfUptoCardSaid : Prop := Claim7.holds Tryd.pinned (.plain (OpenSpec.upto fnExactWinnerOfSpec)) fnExactWinnerOfUptoCard

/-- THE SECOND FORM's CARD OF 'laws.FnExactLabelsText'. -/
def fnExactLabelsTextUptoCard : Claim7 := { stood := { row := fnExactLabelsTextUptoRow, standIns := [], harness := (true, "679591783757617f6aae11628870993a697ba4c4a3f6726ade61dba855f93e42"), looks := false }, kinds := [], alts := [], laidByText := true, laidKinds := [.data, .data, .data], laidTests := true, laidLooks := .later }
def FnExactLabelsTextUptoCardSaid : Prop := Claim7.holds Tryd.pinned (.plain (OpenSpec.upto fnExactLabelsTextSpec)) fnExactLabelsTextUptoCard

/-- THE SECOND FORM's CARD OF 'laws.FnOppositeEdgesFound'. -/
def fnOppositeEdgesFoundUptoCard : Claim7 := { stood := { row := fnOppositeEdgesFoundUptoRow, standIns := [], harness := (true, "679591783757617f6aae11628870993a697ba4c4a3f6726ade61dba855f93e42"), looks := false }, kinds := [], alts := [], laidByText := true, laidKinds := [.data], laidTests := true, laidLooks := .later }
def FnOppositeEdgesFoundUptoCardSaid : Prop := Claim7.holds Tryd.pinned (.plain (OpenSpec.upto fnOppositeEdgesFoundSpec)) fnOppositeEdgesFoundUptoCard
end Rows
end Go.Proofs.YtcahecohjmahaaaDoor
