/-
  No cell of these rows narrows 'for every input' (looked for: loops, veiled, ifaces, maps, wideKeys, modest, calm, conditions, laid).
  DERIVED. THE GIVEN ROWS OF THIS SEAT. 8 by the template 'for every input the law returns true; each argument reads behind the call as it read before'; 0 by the template 'total and deterministic' (their statements: YtfpadepeanejeaaTotals.lean).
  GIVEN WITH THE SEED: the statements are not yours to turn. If you find one false, say at which input.
  Laid BY PROGRAM, IN A SANDBOX (cutbox-rows.mjs): the forced cells as the released guide's own fill.sh prints them over the translation 0b1a59feafe00dd4… (all of the seat's roots in one cut). By AI agents, Wed Nov 11 2026. No macro, syntax, notation, axiom, sorry.
-/
import Derived.Test.YtfpadepeanejeaaChecked
import GoSem.Claim
import GoSem.ClaimJoined
import GoSem.ClaimMapViews
import Derived.JoinedTies
import Derived.KernelRfl
namespace Go.Proofs.Ytfpadepeanejeaa
/- THE CELL 'sum', in the pinned program and in every row, IS THE sha256 OF THE DUMP (.gsa) THAT YtfpadepeanejeaaProg.lean LOADS. Nothing in Lean hashes anything: it is a label: what it is worth is what the hold of that sum in a sandbox is worth. -/
noncomputable def Try.pinned : Pinned := { name := "ytfpadepeanejeaa", sum := "0b1a59feafe00dd41fa698a875de76c4e90533ed601ea552e600073e2f5d6c1f", checked := Try.checked }
namespace Rows
def none {H : Type} : Left H := { results := [], args := [] }

/-- 'laws.FnExactAreTastes': WHATEVER THE INPUT: true; the input reads as it did. -/
def fnExactAreTastesSpec : ChangeSpec := { name := "fnExactAreTastes", fn := fun _ => fun
  | [d1, d2] => { results := [.lit (.bool true)], args := [d1, d2] }
  | _ => none }
def fnExactAreTastesRow : OpenClaim := { program := "ytfpadepeanejeaa", sum := "0b1a59feafe00dd41fa698a875de76c4e90533ed601ea552e600073e2f5d6c1f", func := "loop.example/g01160/laws.FnExactAreTastes", spec := "fnExactAreTastes", unfollowed := true, recurses := true, apart := false }
def FnExactAreTastesSaid : Prop := fnExactAreTastesRow.holds Try.pinned (OpenSpec.ofChange fnExactAreTastesSpec)

/-- ITS FALSE NEIGHBOUR: 'it returns false'. Refute it at one input. -/
def fnExactAreTastesWrong : ChangeSpec := { name := "fnExactAreTastes", fn := fun _ => fun
  | [d1, d2] => { results := [.lit (.bool false)], args := [d1, d2] }
  | _ => none }
def FnExactAreTastesWrongFalsely : Prop := fnExactAreTastesRow.holds Try.pinned (OpenSpec.ofChange fnExactAreTastesWrong)

/-- 'laws.FnExactPiecesOf': WHATEVER THE INPUT: true; the input reads as it did. -/
def fnExactPiecesOfSpec : ChangeSpec := { name := "fnExactPiecesOf", fn := fun _ => fun
  | [d1, d2, d3, d4] => { results := [.lit (.bool true)], args := [d1, d2, d3, d4] }
  | _ => none }
def fnExactPiecesOfRow : OpenClaim := { program := "ytfpadepeanejeaa", sum := "0b1a59feafe00dd41fa698a875de76c4e90533ed601ea552e600073e2f5d6c1f", func := "loop.example/g01160/laws.FnExactPiecesOf", spec := "fnExactPiecesOf", unfollowed := true, recurses := true, apart := false }
def FnExactPiecesOfSaid : Prop := fnExactPiecesOfRow.holds Try.pinned (OpenSpec.ofChange fnExactPiecesOfSpec)

/-- ITS FALSE NEIGHBOUR: 'it returns false'. Refute it at one input. -/
def fnExactPiecesOfWrong : ChangeSpec := { name := "fnExactPiecesOf", fn := fun _ => fun
  | [d1, d2, d3, d4] => { results := [.lit (.bool false)], args := [d1, d2, d3, d4] }
  | _ => none }
def FnExactPiecesOfWrongFalsely : Prop := fnExactPiecesOfRow.holds Try.pinned (OpenSpec.ofChange fnExactPiecesOfWrong)

/-- 'laws.FnExactOwnerAt': WHATEVER THE INPUT: true; the input reads as it did. -/
def fnExactOwnerAtSpec : ChangeSpec := { name := "fnExactOwnerAt", fn := fun _ => fun
  | [d1, d2] => { results := [.lit (.bool true)], args := [d1, d2] }
  | _ => none }
def fnExactOwnerAtRow : OpenClaim := { program := "ytfpadepeanejeaa", sum := "0b1a59feafe00dd41fa698a875de76c4e90533ed601ea552e600073e2f5d6c1f", func := "loop.example/g01160/laws.FnExactOwnerAt", spec := "fnExactOwnerAt", apart := false }
def FnExactOwnerAtSaid : Prop := fnExactOwnerAtRow.holds Try.pinned (OpenSpec.ofChange fnExactOwnerAtSpec)

/-- ITS FALSE NEIGHBOUR: 'it returns false'. Refute it at one input. -/
def fnExactOwnerAtWrong : ChangeSpec := { name := "fnExactOwnerAt", fn := fun _ => fun
  | [d1, d2] => { results := [.lit (.bool false)], args := [d1, d2] }
  | _ => none }
def FnExactOwnerAtWrongFalsely : Prop := fnExactOwnerAtRow.holds Try.pinned (OpenSpec.ofChange fnExactOwnerAtWrong)

/-- 'laws.FnExactFavouriteOf': WHATEVER THE INPUT: true; the input reads as it did. -/
def fnExactFavouriteOfSpec : ChangeSpec := { name := "fnExactFavouriteOf", fn := fun _ => fun
  | [d1, d2, d3, d4] => { results := [.lit (.bool true)], args := [d1, d2, d3, d4] }
  | _ => none }
def fnExactFavouriteOfRow : OpenClaim := { program := "ytfpadepeanejeaa", sum := "0b1a59feafe00dd41fa698a875de76c4e90533ed601ea552e600073e2f5d6c1f", func := "loop.example/g01160/laws.FnExactFavouriteOf", spec := "fnExactFavouriteOf", unfollowed := true, recurses := true, apart := false }
def FnExactFavouriteOfSaid : Prop := fnExactFavouriteOfRow.holds Try.pinned (OpenSpec.ofChange fnExactFavouriteOfSpec)

/-- ITS FALSE NEIGHBOUR: 'it returns false'. Refute it at one input. -/
def fnExactFavouriteOfWrong : ChangeSpec := { name := "fnExactFavouriteOf", fn := fun _ => fun
  | [d1, d2, d3, d4] => { results := [.lit (.bool false)], args := [d1, d2, d3, d4] }
  | _ => none }
def FnExactFavouriteOfWrongFalsely : Prop := fnExactFavouriteOfRow.holds Try.pinned (OpenSpec.ofChange fnExactFavouriteOfWrong)

/-- 'laws.FnExactCakeLabels': WHATEVER THE INPUT: true; the input reads as it did. -/
def fnExactCakeLabelsSpec : ChangeSpec := { name := "fnExactCakeLabels", fn := fun _ => fun
  | [d1, d2] => { results := [.lit (.bool true)], args := [d1, d2] }
  | _ => none }
def fnExactCakeLabelsRow : OpenClaim := { program := "ytfpadepeanejeaa", sum := "0b1a59feafe00dd41fa698a875de76c4e90533ed601ea552e600073e2f5d6c1f", func := "loop.example/g01160/laws.FnExactCakeLabels", spec := "fnExactCakeLabels", unfollowed := true, recurses := true, apart := false }
def FnExactCakeLabelsSaid : Prop := fnExactCakeLabelsRow.holds Try.pinned (OpenSpec.ofChange fnExactCakeLabelsSpec)

/-- ITS FALSE NEIGHBOUR: 'it returns false'. Refute it at one input. -/
def fnExactCakeLabelsWrong : ChangeSpec := { name := "fnExactCakeLabels", fn := fun _ => fun
  | [d1, d2] => { results := [.lit (.bool false)], args := [d1, d2] }
  | _ => none }
def FnExactCakeLabelsWrongFalsely : Prop := fnExactCakeLabelsRow.holds Try.pinned (OpenSpec.ofChange fnExactCakeLabelsWrong)

/-- 'laws.FnExactFairCell': WHATEVER THE INPUT: true; the input reads as it did. -/
def fnExactFairCellSpec : ChangeSpec := { name := "fnExactFairCell", fn := fun _ => fun
  | [d1, d2] => { results := [.lit (.bool true)], args := [d1, d2] }
  | _ => none }
def fnExactFairCellRow : OpenClaim := { program := "ytfpadepeanejeaa", sum := "0b1a59feafe00dd41fa698a875de76c4e90533ed601ea552e600073e2f5d6c1f", func := "loop.example/g01160/laws.FnExactFairCell", spec := "fnExactFairCell", unfollowed := true, recurses := true, apart := false }
def FnExactFairCellSaid : Prop := fnExactFairCellRow.holds Try.pinned (OpenSpec.ofChange fnExactFairCellSpec)

/-- ITS FALSE NEIGHBOUR: 'it returns false'. Refute it at one input. -/
def fnExactFairCellWrong : ChangeSpec := { name := "fnExactFairCell", fn := fun _ => fun
  | [d1, d2] => { results := [.lit (.bool false)], args := [d1, d2] }
  | _ => none }
def FnExactFairCellWrongFalsely : Prop := fnExactFairCellRow.holds Try.pinned (OpenSpec.ofChange fnExactFairCellWrong)

/-- 'laws.FnExactFairCut': WHATEVER THE INPUT: true; the input reads as it did. -/
def fnExactFairCutSpec : ChangeSpec := { name := "fnExactFairCut", fn := fun _ => fun
  | [d1, d2] => { results := [.lit (.bool true)], args := [d1, d2] }
  | _ => none }
def fnExactFairCutRow : OpenClaim := { program := "ytfpadepeanejeaa", sum := "0b1a59feafe00dd41fa698a875de76c4e90533ed601ea552e600073e2f5d6c1f", func := "loop.example/g01160/laws.FnExactFairCut", spec := "fnExactFairCut", unfollowed := true, recurses := true, apart := false }
def FnExactFairCutSaid : Prop := fnExactFairCutRow.holds Try.pinned (OpenSpec.ofChange fnExactFairCutSpec)

/-- ITS FALSE NEIGHBOUR: 'it returns false'. Refute it at one input. -/
def fnExactFairCutWrong : ChangeSpec := { name := "fnExactFairCut", fn := fun _ => fun
  | [d1, d2] => { results := [.lit (.bool false)], args := [d1, d2] }
  | _ => none }
def FnExactFairCutWrongFalsely : Prop := fnExactFairCutRow.holds Try.pinned (OpenSpec.ofChange fnExactFairCutWrong)

/-- 'laws.FnExactGreatestTaste': WHATEVER THE INPUT: true; the input reads as it did. -/
def fnExactGreatestTasteSpec : ChangeSpec := { name := "fnExactGreatestTaste", fn := fun _ => fun
  | [d1, d2] => { results := [.lit (.bool true)], args := [d1, d2] }
  | _ => none }
def fnExactGreatestTasteRow : OpenClaim := { program := "ytfpadepeanejeaa", sum := "0b1a59feafe00dd41fa698a875de76c4e90533ed601ea552e600073e2f5d6c1f", func := "loop.example/g01160/laws.FnExactGreatestTaste", spec := "fnExactGreatestTaste", unfollowed := true, recurses := true, apart := false }
def FnExactGreatestTasteSaid : Prop := fnExactGreatestTasteRow.holds Try.pinned (OpenSpec.ofChange fnExactGreatestTasteSpec)

/-- ITS FALSE NEIGHBOUR: 'it returns false'. Refute it at one input. -/
def fnExactGreatestTasteWrong : ChangeSpec := { name := "fnExactGreatestTaste", fn := fun _ => fun
  | [d1, d2] => { results := [.lit (.bool false)], args := [d1, d2] }
  | _ => none }
def FnExactGreatestTasteWrongFalsely : Prop := fnExactGreatestTasteRow.holds Try.pinned (OpenSpec.ofChange fnExactGreatestTasteWrong)

/- THE SECOND FORM. 'bulk': how many values and letters a reading holds, each counted each time it is reached (what is shared counts as often as it is met; a slice's spare places count too). A statement '..UptoSaid' is the law's where the arguments, and the package variables that the reading takes, are together of bulk at most 1048576: NARROWER than '..Said'. Prove '..Said' where nothing that the law and all that it calls make is longer than what came in: it says more and counts as full. Else prove '..UptoSaid'. A law counts once. -/
mutual
def uptoBulk {H : Type} : DataW H → Nat
  | .lit (.string bytes) => bytes.length + 1
  | .lit _ => 1
  | .nil => 1
  | .ptr d => uptoBulk d + 1
  | .slice elems spare => uptoBulkAll elems + uptoBulkAll spare + 1
  | .agg parts => uptoBulkAll parts + 1
  | .iface _ d => uptoBulk d + 1
  | .map entries => uptoBulkEntries entries + 1
  | .held _ => 1
def uptoBulkAll {H : Type} : List (DataW H) → Nat
  | [] => 0
  | d :: r => uptoBulk d + uptoBulkAll r
def uptoBulkEntries {H : Type} : List (Lit × DataW H) → Nat
  | [] => 0
  | x :: r => uptoBulkEntry x + uptoBulkEntries r
def uptoBulkEntry {H : Type} : Lit × DataW H → Nat
  | (.string bytes, d) => bytes.length + uptoBulk d + 1
  | (_, d) => uptoBulk d + 1
 end
def uptoSmall : (H : Type) → List (DataW H) → Bool := fun _ ds => decide (uptoBulkAll ds ≤ 1048576)
def OpenSpec.upto (s : _root_.Go.ChangeSpec) : _root_.Go.OpenSpec := { _root_.Go.OpenSpec.ofChange s with cond := some uptoSmall }

/-- 'laws.FnExactAreTastes', WHERE WHAT IT READS IS OF BULK AT MOST 1048576: true; the input reads as it did. -/
def fnExactAreTastesUptoRow : OpenClaim := { program := "ytfpadepeanejeaa", sum := "0b1a59feafe00dd41fa698a875de76c4e90533ed601ea552e600073e2f5d6c1f", func := "loop.example/g01160/laws.FnExactAreTastes", spec := "fnExactAreTastes", unfollowed := true, recurses := true, apart := false, narrowed := true }
def FnExactAreTastesUptoSaid : Prop := fnExactAreTastesUptoRow.holds Try.pinned (OpenSpec.upto fnExactAreTastesSpec)

/-- 'laws.FnExactPiecesOf', WHERE WHAT IT READS IS OF BULK AT MOST 1048576: true; the input reads as it did. -/
def fnExactPiecesOfUptoRow : OpenClaim := { program := "ytfpadepeanejeaa", sum := "0b1a59feafe00dd41fa698a875de76c4e90533ed601ea552e600073e2f5d6c1f", func := "loop.example/g01160/laws.FnExactPiecesOf", spec := "fnExactPiecesOf", unfollowed := true, recurses := true, apart := false, narrowed := true }
def FnExactPiecesOfUptoSaid : Prop := fnExactPiecesOfUptoRow.holds Try.pinned (OpenSpec.upto fnExactPiecesOfSpec)

/-- 'laws.FnExactOwnerAt', WHERE WHAT IT READS IS OF BULK AT MOST 1048576: true; the input reads as it did. -/
def fnExactOwnerAtUptoRow : OpenClaim := { program := "ytfpadepeanejeaa", sum := "0b1a59feafe00dd41fa698a875de76c4e90533ed601ea552e600073e2f5d6c1f", func := "loop.example/g01160/laws.FnExactOwnerAt", spec := "fnExactOwnerAt", apart := false, narrowed := true }
def FnExactOwnerAtUptoSaid : Prop := fnExactOwnerAtUptoRow.holds Try.pinned (OpenSpec.upto fnExactOwnerAtSpec)

/-- 'laws.FnExactFavouriteOf', WHERE WHAT IT READS IS OF BULK AT MOST 1048576: true; the input reads as it did. -/
def fnExactFavouriteOfUptoRow : OpenClaim := { program := "ytfpadepeanejeaa", sum := "0b1a59feafe00dd41fa698a875de76c4e90533ed601ea552e600073e2f5d6c1f", func := "loop.example/g01160/laws.FnExactFavouriteOf", spec := "fnExactFavouriteOf", unfollowed := true, recurses := true, apart := false, narrowed := true }
def FnExactFavouriteOfUptoSaid : Prop := fnExactFavouriteOfUptoRow.holds Try.pinned (OpenSpec.upto fnExactFavouriteOfSpec)

/-- 'laws.FnExactCakeLabels', WHERE WHAT IT READS IS OF BULK AT MOST 1048576: true; the input reads as it did. -/
def fnExactCakeLabelsUptoRow : OpenClaim := { program := "ytfpadepeanejeaa", sum := "0b1a59feafe00dd41fa698a875de76c4e90533ed601ea552e600073e2f5d6c1f", func := "loop.example/g01160/laws.FnExactCakeLabels", spec := "fnExactCakeLabels", unfollowed := true, recurses := true, apart := false, narrowed := true }
def FnExactCakeLabelsUptoSaid : Prop := fnExactCakeLabelsUptoRow.holds Try.pinned (OpenSpec.upto fnExactCakeLabelsSpec)

/-- 'laws.FnExactFairCell', WHERE WHAT IT READS IS OF BULK AT MOST 1048576: true; the input reads as it did. -/
def fnExactFairCellUptoRow : OpenClaim := { program := "ytfpadepeanejeaa", sum := "0b1a59feafe00dd41fa698a875de76c4e90533ed601ea552e600073e2f5d6c1f", func := "loop.example/g01160/laws.FnExactFairCell", spec := "fnExactFairCell", unfollowed := true, recurses := true, apart := false, narrowed := true }
def FnExactFairCellUptoSaid : Prop := fnExactFairCellUptoRow.holds Try.pinned (OpenSpec.upto fnExactFairCellSpec)

/-- 'laws.FnExactFairCut', WHERE WHAT IT READS IS OF BULK AT MOST 1048576: true; the input reads as it did. -/
def fnExactFairCutUptoRow : OpenClaim := { program := "ytfpadepeanejeaa", sum := "0b1a59feafe00dd41fa698a875de76c4e90533ed601ea552e600073e2f5d6c1f", func := "loop.example/g01160/laws.FnExactFairCut", spec := "fnExactFairCut", unfollowed := true, recurses := true, apart := false, narrowed := true }
def FnExactFairCutUptoSaid : Prop := fnExactFairCutUptoRow.holds Try.pinned (OpenSpec.upto fnExactFairCutSpec)

/-- 'laws.FnExactGreatestTaste', WHERE WHAT IT READS IS OF BULK AT MOST 1048576: true; the input reads as it did. -/
def fnExactGreatestTasteUptoRow : OpenClaim := { program := "ytfpadepeanejeaa", sum := "0b1a59feafe00dd41fa698a875de76c4e90533ed601ea552e600073e2f5d6c1f", func := "loop.example/g01160/laws.FnExactGreatestTaste", spec := "fnExactGreatestTaste", unfollowed := true, recurses := true, apart := false, narrowed := true }
def FnExactGreatestTasteUptoSaid : Prop := fnExactGreatestTasteUptoRow.holds Try.pinned (OpenSpec.upto fnExactGreatestTasteSpec)

end Rows
end Go.Proofs.Ytfpadepeanejeaa
