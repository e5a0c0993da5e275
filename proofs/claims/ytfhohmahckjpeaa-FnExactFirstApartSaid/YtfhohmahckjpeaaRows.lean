/-
  No cell of these rows narrows 'for every input' (looked for: loops, veiled, ifaces, maps, wideKeys, modest, calm, conditions, laid).
  DERIVED. THE GIVEN ROWS OF THIS SEAT. 11 by the template 'for every input the law returns true; each argument reads behind the call as it read before'; 0 by the template 'total and deterministic' (their statements: YtfhohmahckjpeaaTotals.lean).
  GIVEN WITH THE SEED: the statements are not yours to turn. If you find one false, say at which input.
  Laid BY PROGRAM, IN A SANDBOX (cutbox-rows.mjs): the forced cells as the released guide's own fill.sh prints them over the translation 294358525448e02b… (all of the seat's roots in one cut). By AI agents, Wed Nov 11 2026. No macro, syntax, notation, axiom, sorry.
-/
import Derived.Test.YtfhohmahckjpeaaChecked
import GoSem.Claim
import GoSem.ClaimJoined
import GoSem.ClaimMapViews
import Derived.JoinedTies
import Derived.KernelRfl
namespace Go.Proofs.Ytfhohmahckjpeaa
/- THE CELL 'sum', in the pinned program and in every row, IS THE sha256 OF THE DUMP (.gsa) THAT YtfhohmahckjpeaaProg.lean LOADS. Nothing in Lean hashes anything: it is a label: what it is worth is what the hold of that sum in a sandbox is worth. -/
noncomputable def Try.pinned : Pinned := { name := "ytfhohmahckjpeaa", sum := "294358525448e02b5a7c1a746b4393ac8fc69becbbb2e93539df77c134e39349", checked := Try.checked }
namespace Rows
def none {H : Type} : Left H := { results := [], args := [] }

/-- 'laws.FnExactSetsOf': WHATEVER THE INPUT: true; the input reads as it did. -/
def fnExactSetsOfSpec : ChangeSpec := { name := "fnExactSetsOf", fn := fun _ => fun
  | [d1, d2] => { results := [.lit (.bool true)], args := [d1, d2] }
  | _ => none }
def fnExactSetsOfRow : OpenClaim := { program := "ytfhohmahckjpeaa", sum := "294358525448e02b5a7c1a746b4393ac8fc69becbbb2e93539df77c134e39349", func := "loop.example/g01160/laws.FnExactSetsOf", spec := "fnExactSetsOf", unfollowed := true, recurses := true, apart := false }
def FnExactSetsOfSaid : Prop := fnExactSetsOfRow.holds Try.pinned (OpenSpec.ofChange fnExactSetsOfSpec)

/-- ITS FALSE NEIGHBOUR: 'it returns false'. Refute it at one input. -/
def fnExactSetsOfWrong : ChangeSpec := { name := "fnExactSetsOf", fn := fun _ => fun
  | [d1, d2] => { results := [.lit (.bool false)], args := [d1, d2] }
  | _ => none }
def FnExactSetsOfWrongFalsely : Prop := fnExactSetsOfRow.holds Try.pinned (OpenSpec.ofChange fnExactSetsOfWrong)

/-- 'laws.FnExactCountSets': WHATEVER THE INPUT: true; the input reads as it did. -/
def fnExactCountSetsSpec : ChangeSpec := { name := "fnExactCountSets", fn := fun _ => fun
  | [d1, d2] => { results := [.lit (.bool true)], args := [d1, d2] }
  | _ => none }
def fnExactCountSetsRow : OpenClaim := { program := "ytfhohmahckjpeaa", sum := "294358525448e02b5a7c1a746b4393ac8fc69becbbb2e93539df77c134e39349", func := "loop.example/g01160/laws.FnExactCountSets", spec := "fnExactCountSets", apart := false }
def FnExactCountSetsSaid : Prop := fnExactCountSetsRow.holds Try.pinned (OpenSpec.ofChange fnExactCountSetsSpec)

/-- ITS FALSE NEIGHBOUR: 'it returns false'. Refute it at one input. -/
def fnExactCountSetsWrong : ChangeSpec := { name := "fnExactCountSets", fn := fun _ => fun
  | [d1, d2] => { results := [.lit (.bool false)], args := [d1, d2] }
  | _ => none }
def FnExactCountSetsWrongFalsely : Prop := fnExactCountSetsRow.holds Try.pinned (OpenSpec.ofChange fnExactCountSetsWrong)

/-- 'laws.FnExactAreApart': WHATEVER THE INPUT: true; the input reads as it did. -/
def fnExactAreApartSpec : ChangeSpec := { name := "fnExactAreApart", fn := fun _ => fun
  | [d1, d2] => { results := [.lit (.bool true)], args := [d1, d2] }
  | _ => none }
def fnExactAreApartRow : OpenClaim := { program := "ytfhohmahckjpeaa", sum := "294358525448e02b5a7c1a746b4393ac8fc69becbbb2e93539df77c134e39349", func := "loop.example/g01160/laws.FnExactAreApart", spec := "fnExactAreApart", apart := false }
def FnExactAreApartSaid : Prop := fnExactAreApartRow.holds Try.pinned (OpenSpec.ofChange fnExactAreApartSpec)

/-- ITS FALSE NEIGHBOUR: 'it returns false'. Refute it at one input. -/
def fnExactAreApartWrong : ChangeSpec := { name := "fnExactAreApart", fn := fun _ => fun
  | [d1, d2] => { results := [.lit (.bool false)], args := [d1, d2] }
  | _ => none }
def FnExactAreApartWrongFalsely : Prop := fnExactAreApartRow.holds Try.pinned (OpenSpec.ofChange fnExactAreApartWrong)

/-- 'laws.FnExactDegreeOfSet': WHATEVER THE INPUT: true; the input reads as it did. -/
def fnExactDegreeOfSetSpec : ChangeSpec := { name := "fnExactDegreeOfSet", fn := fun _ => fun
  | [d1, d2] => { results := [.lit (.bool true)], args := [d1, d2] }
  | _ => none }
def fnExactDegreeOfSetRow : OpenClaim := { program := "ytfhohmahckjpeaa", sum := "294358525448e02b5a7c1a746b4393ac8fc69becbbb2e93539df77c134e39349", func := "loop.example/g01160/laws.FnExactDegreeOfSet", spec := "fnExactDegreeOfSet", unfollowed := true, recurses := true, apart := false }
def FnExactDegreeOfSetSaid : Prop := fnExactDegreeOfSetRow.holds Try.pinned (OpenSpec.ofChange fnExactDegreeOfSetSpec)

/-- ITS FALSE NEIGHBOUR: 'it returns false'. Refute it at one input. -/
def fnExactDegreeOfSetWrong : ChangeSpec := { name := "fnExactDegreeOfSet", fn := fun _ => fun
  | [d1, d2] => { results := [.lit (.bool false)], args := [d1, d2] }
  | _ => none }
def FnExactDegreeOfSetWrongFalsely : Prop := fnExactDegreeOfSetRow.holds Try.pinned (OpenSpec.ofChange fnExactDegreeOfSetWrong)

/-- 'laws.FnExactFewestColours': WHATEVER THE INPUT: true; the input reads as it did. -/
def fnExactFewestColoursSpec : ChangeSpec := { name := "fnExactFewestColours", fn := fun _ => fun
  | [d1, d2] => { results := [.lit (.bool true)], args := [d1, d2] }
  | _ => none }
def fnExactFewestColoursRow : OpenClaim := { program := "ytfhohmahckjpeaa", sum := "294358525448e02b5a7c1a746b4393ac8fc69becbbb2e93539df77c134e39349", func := "loop.example/g01160/laws.FnExactFewestColours", spec := "fnExactFewestColours", apart := false }
def FnExactFewestColoursSaid : Prop := fnExactFewestColoursRow.holds Try.pinned (OpenSpec.ofChange fnExactFewestColoursSpec)

/-- ITS FALSE NEIGHBOUR: 'it returns false'. Refute it at one input. -/
def fnExactFewestColoursWrong : ChangeSpec := { name := "fnExactFewestColours", fn := fun _ => fun
  | [d1, d2] => { results := [.lit (.bool false)], args := [d1, d2] }
  | _ => none }
def FnExactFewestColoursWrongFalsely : Prop := fnExactFewestColoursRow.holds Try.pinned (OpenSpec.ofChange fnExactFewestColoursWrong)

/-- 'laws.FnExactIsColouring': WHATEVER THE INPUT: true; the input reads as it did. -/
def fnExactIsColouringSpec : ChangeSpec := { name := "fnExactIsColouring", fn := fun _ => fun
  | [d1, d2, d3] => { results := [.lit (.bool true)], args := [d1, d2, d3] }
  | _ => none }
def fnExactIsColouringRow : OpenClaim := { program := "ytfhohmahckjpeaa", sum := "294358525448e02b5a7c1a746b4393ac8fc69becbbb2e93539df77c134e39349", func := "loop.example/g01160/laws.FnExactIsColouring", spec := "fnExactIsColouring", unfollowed := true, recurses := true, apart := false }
def FnExactIsColouringSaid : Prop := fnExactIsColouringRow.holds Try.pinned (OpenSpec.ofChange fnExactIsColouringSpec)

/-- ITS FALSE NEIGHBOUR: 'it returns false'. Refute it at one input. -/
def fnExactIsColouringWrong : ChangeSpec := { name := "fnExactIsColouring", fn := fun _ => fun
  | [d1, d2, d3] => { results := [.lit (.bool false)], args := [d1, d2, d3] }
  | _ => none }
def FnExactIsColouringWrongFalsely : Prop := fnExactIsColouringRow.holds Try.pinned (OpenSpec.ofChange fnExactIsColouringWrong)

/-- 'laws.FnExactFirstApart': WHATEVER THE INPUT: true; the input reads as it did. -/
def fnExactFirstApartSpec : ChangeSpec := { name := "fnExactFirstApart", fn := fun _ => fun
  | [d1, d2, d3] => { results := [.lit (.bool true)], args := [d1, d2, d3] }
  | _ => none }
def fnExactFirstApartRow : OpenClaim := { program := "ytfhohmahckjpeaa", sum := "294358525448e02b5a7c1a746b4393ac8fc69becbbb2e93539df77c134e39349", func := "loop.example/g01160/laws.FnExactFirstApart", spec := "fnExactFirstApart", unfollowed := true, recurses := true, apart := false }
def FnExactFirstApartSaid : Prop := fnExactFirstApartRow.holds Try.pinned (OpenSpec.ofChange fnExactFirstApartSpec)

/-- ITS FALSE NEIGHBOUR: 'it returns false'. Refute it at one input. -/
def fnExactFirstApartWrong : ChangeSpec := { name := "fnExactFirstApart", fn := fun _ => fun
  | [d1, d2, d3] => { results := [.lit (.bool false)], args := [d1, d2, d3] }
  | _ => none }
def FnExactFirstApartWrongFalsely : Prop := fnExactFirstApartRow.holds Try.pinned (OpenSpec.ofChange fnExactFirstApartWrong)

/-- 'laws.FnExactMostMeeting': WHATEVER THE INPUT: true; the input reads as it did. -/
def fnExactMostMeetingSpec : ChangeSpec := { name := "fnExactMostMeeting", fn := fun _ => fun
  | [d1, d2] => { results := [.lit (.bool true)], args := [d1, d2] }
  | _ => none }
def fnExactMostMeetingRow : OpenClaim := { program := "ytfhohmahckjpeaa", sum := "294358525448e02b5a7c1a746b4393ac8fc69becbbb2e93539df77c134e39349", func := "loop.example/g01160/laws.FnExactMostMeeting", spec := "fnExactMostMeeting", unfollowed := true, recurses := true, apart := false }
def FnExactMostMeetingSaid : Prop := fnExactMostMeetingRow.holds Try.pinned (OpenSpec.ofChange fnExactMostMeetingSpec)

/-- ITS FALSE NEIGHBOUR: 'it returns false'. Refute it at one input. -/
def fnExactMostMeetingWrong : ChangeSpec := { name := "fnExactMostMeeting", fn := fun _ => fun
  | [d1, d2] => { results := [.lit (.bool false)], args := [d1, d2] }
  | _ => none }
def FnExactMostMeetingWrongFalsely : Prop := fnExactMostMeetingRow.holds Try.pinned (OpenSpec.ofChange fnExactMostMeetingWrong)

/-- 'laws.FnExactMeetingSets': WHATEVER THE INPUT: true; the input reads as it did. -/
def fnExactMeetingSetsSpec : ChangeSpec := { name := "fnExactMeetingSets", fn := fun _ => fun
  | [d1, d2] => { results := [.lit (.bool true)], args := [d1, d2] }
  | _ => none }
def fnExactMeetingSetsRow : OpenClaim := { program := "ytfhohmahckjpeaa", sum := "294358525448e02b5a7c1a746b4393ac8fc69becbbb2e93539df77c134e39349", func := "loop.example/g01160/laws.FnExactMeetingSets", spec := "fnExactMeetingSets", unfollowed := true, recurses := true, apart := false }
def FnExactMeetingSetsSaid : Prop := fnExactMeetingSetsRow.holds Try.pinned (OpenSpec.ofChange fnExactMeetingSetsSpec)

/-- ITS FALSE NEIGHBOUR: 'it returns false'. Refute it at one input. -/
def fnExactMeetingSetsWrong : ChangeSpec := { name := "fnExactMeetingSets", fn := fun _ => fun
  | [d1, d2] => { results := [.lit (.bool false)], args := [d1, d2] }
  | _ => none }
def FnExactMeetingSetsWrongFalsely : Prop := fnExactMeetingSetsRow.holds Try.pinned (OpenSpec.ofChange fnExactMeetingSetsWrong)

/-- 'laws.FnExactStableSets': WHATEVER THE INPUT: true; the input reads as it did. -/
def fnExactStableSetsSpec : ChangeSpec := { name := "fnExactStableSets", fn := fun _ => fun
  | [d1, d2] => { results := [.lit (.bool true)], args := [d1, d2] }
  | _ => none }
def fnExactStableSetsRow : OpenClaim := { program := "ytfhohmahckjpeaa", sum := "294358525448e02b5a7c1a746b4393ac8fc69becbbb2e93539df77c134e39349", func := "loop.example/g01160/laws.FnExactStableSets", spec := "fnExactStableSets", unfollowed := true, recurses := true, apart := false }
def FnExactStableSetsSaid : Prop := fnExactStableSetsRow.holds Try.pinned (OpenSpec.ofChange fnExactStableSetsSpec)

/-- ITS FALSE NEIGHBOUR: 'it returns false'. Refute it at one input. -/
def fnExactStableSetsWrong : ChangeSpec := { name := "fnExactStableSets", fn := fun _ => fun
  | [d1, d2] => { results := [.lit (.bool false)], args := [d1, d2] }
  | _ => none }
def FnExactStableSetsWrongFalsely : Prop := fnExactStableSetsRow.holds Try.pinned (OpenSpec.ofChange fnExactStableSetsWrong)

/-- 'laws.FnExactCountStable': WHATEVER THE INPUT: true; the input reads as it did. -/
def fnExactCountStableSpec : ChangeSpec := { name := "fnExactCountStable", fn := fun _ => fun
  | [d1, d2] => { results := [.lit (.bool true)], args := [d1, d2] }
  | _ => none }
def fnExactCountStableRow : OpenClaim := { program := "ytfhohmahckjpeaa", sum := "294358525448e02b5a7c1a746b4393ac8fc69becbbb2e93539df77c134e39349", func := "loop.example/g01160/laws.FnExactCountStable", spec := "fnExactCountStable", unfollowed := true, recurses := true, apart := false }
def FnExactCountStableSaid : Prop := fnExactCountStableRow.holds Try.pinned (OpenSpec.ofChange fnExactCountStableSpec)

/-- ITS FALSE NEIGHBOUR: 'it returns false'. Refute it at one input. -/
def fnExactCountStableWrong : ChangeSpec := { name := "fnExactCountStable", fn := fun _ => fun
  | [d1, d2] => { results := [.lit (.bool false)], args := [d1, d2] }
  | _ => none }
def FnExactCountStableWrongFalsely : Prop := fnExactCountStableRow.holds Try.pinned (OpenSpec.ofChange fnExactCountStableWrong)

/- THE SECOND FORM. 'bulk': how many values and letters a reading holds, each counted each time it is reached (what is shared counts as often as it is met; a slice's spare places count too). A statement '..UptoSaid' is the law's where the arguments, and the package variables that the reading takes, are together of bulk at most 1048576: NARROWER than '..Said'. Prove '..Said' where nothing that the law and all that it calls make is longer than what came in: it says more and counts as full. Else prove '..UptoSaid'. A law counts once. -/
mutual
def uptoBulk {H : Type} : DataW H → Nat
  | .lit (.string bytes) => bytes.length + 1
  | .lit _ => 1
  | .nil => 1
  | .ptr d => uptoBulk d + 1
  | .slice elems spare => uptoBulkAll elems + uptoBulkAll spare + 1
  | .agg parts => uptoBulkAll parts + 1
  | .iface _ d => uptoBulk d + 1
  | .map entries => uptoBulkEntries entries + 1
  | .held _ => 1
def uptoBulkAll {H : Type} : List (DataW H) → Nat
  | [] => 0
  | d :: r => uptoBulk d + uptoBulkAll r
def uptoBulkEntries {H : Type} : List (Lit × DataW H) → Nat
  | [] => 0
  | x :: r => uptoBulkEntry x + uptoBulkEntries r
def uptoBulkEntry {H : Type} : Lit × DataW H → Nat
  | (.string bytes, d) => bytes.length + uptoBulk d + 1
  | (_, d) => uptoBulk d + 1
 end
def uptoSmall : (H : Type) → List (DataW H) → Bool := fun _ ds => decide (uptoBulkAll ds ≤ 1048576)
def OpenSpec.upto (s : _root_.Go.ChangeSpec) : _root_.Go.OpenSpec := { _root_.Go.OpenSpec.ofChange s with cond := some uptoSmall }

/-- 'laws.FnExactSetsOf', WHERE WHAT IT READS IS OF BULK AT MOST 1048576: true; the input reads as it did. -/
def fnExactSetsOfUptoRow : OpenClaim := { program := "ytfhohmahckjpeaa", sum := "294358525448e02b5a7c1a746b4393ac8fc69becbbb2e93539df77c134e39349", func := "loop.example/g01160/laws.FnExactSetsOf", spec := "fnExactSetsOf", unfollowed := true, recurses := true, apart := false, narrowed := true }
def FnExactSetsOfUptoSaid : Prop := fnExactSetsOfUptoRow.holds Try.pinned (OpenSpec.upto fnExactSetsOfSpec)

/-- 'laws.FnExactCountSets', WHERE WHAT IT READS IS OF BULK AT MOST 1048576: true; the input reads as it did. -/
def fnExactCountSetsUptoRow : OpenClaim := { program := "ytfhohmahckjpeaa", sum := "294358525448e02b5a7c1a746b4393ac8fc69becbbb2e93539df77c134e39349", func := "loop.example/g01160/laws.FnExactCountSets", spec := "fnExactCountSets", apart := false, narrowed := true }
def FnExactCountSetsUptoSaid : Prop := fnExactCountSetsUptoRow.holds Try.pinned (OpenSpec.upto fnExactCountSetsSpec)

/-- 'laws.FnExactAreApart', WHERE WHAT IT READS IS OF BULK AT MOST 1048576: true; the input reads as it did. -/
def fnExactAreApartUptoRow : OpenClaim := { program := "ytfhohmahckjpeaa", sum := "294358525448e02b5a7c1a746b4393ac8fc69becbbb2e93539df77c134e39349", func := "loop.example/g01160/laws.FnExactAreApart", spec := "fnExactAreApart", apart := false, narrowed := true }
def FnExactAreApartUptoSaid : Prop := fnExactAreApartUptoRow.holds Try.pinned (OpenSpec.upto fnExactAreApartSpec)

/-- 'laws.FnExactDegreeOfSet', WHERE WHAT IT READS IS OF BULK AT MOST 1048576: true; the input reads as it did. -/
def fnExactDegreeOfSetUptoRow : OpenClaim := { program := "ytfhohmahckjpeaa", sum := "294358525448e02b5a7c1a746b4393ac8fc69becbbb2e93539df77c134e39349", func := "loop.example/g01160/laws.FnExactDegreeOfSet", spec := "fnExactDegreeOfSet", unfollowed := true, recurses := true, apart := false, narrowed := true }
def FnExactDegreeOfSetUptoSaid : Prop := fnExactDegreeOfSetUptoRow.holds Try.pinned (OpenSpec.upto fnExactDegreeOfSetSpec)

/-- 'laws.FnExactFewestColours', WHERE WHAT IT READS IS OF BULK AT MOST 1048576: true; the input reads as it did. -/
def fnExactFewestColoursUptoRow : OpenClaim := { program := "ytfhohmahckjpeaa", sum := "294358525448e02b5a7c1a746b4393ac8fc69becbbb2e93539df77c134e39349", func := "loop.example/g01160/laws.FnExactFewestColours", spec := "fnExactFewestColours", apart := false, narrowed := true }
def FnExactFewestColoursUptoSaid : Prop := fnExactFewestColoursUptoRow.holds Try.pinned (OpenSpec.upto fnExactFewestColoursSpec)

/-- 'laws.FnExactIsColouring', WHERE WHAT IT READS IS OF BULK AT MOST 1048576: true; the input reads as it did. -/
def fnExactIsColouringUptoRow : OpenClaim := { program := "ytfhohmahckjpeaa", sum := "294358525448e02b5a7c1a746b4393ac8fc69becbbb2e93539df77c134e39349", func := "loop.example/g01160/laws.FnExactIsColouring", spec := "fnExactIsColouring", unfollowed := true, recurses := true, apart := false, narrowed := true }
def FnExactIsColouringUptoSaid : Prop := fnExactIsColouringUptoRow.holds Try.pinned (OpenSpec.upto fnExactIsColouringSpec)

/-- 'laws.FnExactFirstApart', WHERE WHAT IT READS IS OF BULK AT MOST 1048576: true; the input reads as it did. -/
def fnExactFirstApartUptoRow : OpenClaim := { program := "ytfhohmahckjpeaa", sum := "294358525448e02b5a7c1a746b4393ac8fc69becbbb2e93539df77c134e39349", func := "loop.example/g01160/laws.FnExactFirstApart", spec := "fnExactFirstApart", unfollowed := true, recurses := true, apart := false, narrowed := true }
def FnExactFirstApartUptoSaid : Prop := fnExactFirstApartUptoRow.holds Try.pinned (OpenSpec.upto fnExactFirstApartSpec)

/-- 'laws.FnExactMostMeeting', WHERE WHAT IT READS IS OF BULK AT MOST 1048576: true; the input reads as it did. -/
def fnExactMostMeetingUptoRow : OpenClaim := { program := "ytfhohmahckjpeaa", sum := "294358525448e02b5a7c1a746b4393ac8fc69becbbb2e93539df77c134e39349", func := "loop.example/g01160/laws.FnExactMostMeeting", spec := "fnExactMostMeeting", unfollowed := true, recurses := true, apart := false, narrowed := true }
def FnExactMostMeetingUptoSaid : Prop := fnExactMostMeetingUptoRow.holds Try.pinned (OpenSpec.upto fnExactMostMeetingSpec)

/-- 'laws.FnExactMeetingSets', WHERE WHAT IT READS IS OF BULK AT MOST 1048576: true; the input reads as it did. -/
def fnExactMeetingSetsUptoRow : OpenClaim := { program := "ytfhohmahckjpeaa", sum := "294358525448e02b5a7c1a746b4393ac8fc69becbbb2e93539df77c134e39349", func := "loop.example/g01160/laws.FnExactMeetingSets", spec := "fnExactMeetingSets", unfollowed := true, recurses := true, apart := false, narrowed := true }
def FnExactMeetingSetsUptoSaid : Prop := fnExactMeetingSetsUptoRow.holds Try.pinned (OpenSpec.upto fnExactMeetingSetsSpec)

/-- 'laws.FnExactStableSets', WHERE WHAT IT READS IS OF BULK AT MOST 1048576: true; the input reads as it did. -/
def fnExactStableSetsUptoRow : OpenClaim := { program := "ytfhohmahckjpeaa", sum := "294358525448e02b5a7c1a746b4393ac8fc69becbbb2e93539df77c134e39349", func := "loop.example/g01160/laws.FnExactStableSets", spec := "fnExactStableSets", unfollowed := true, recurses := true, apart := false, narrowed := true }
def FnExactStableSetsUptoSaid : Prop := fnExactStableSetsUptoRow.holds Try.pinned (OpenSpec.upto fnExactStableSetsSpec)

/-- 'laws.FnExactCountStable', WHERE WHAT IT READS IS OF BULK AT MOST 1048576: true; the input reads as it did. -/
def fnExactCountStableUptoRow : OpenClaim := { program := "ytfhohmahckjpeaa", sum := "294358525448e02b5a7c1a746b4393ac8fc69becbbb2e93539df77c134e39349", func := "loop.example/g01160/laws.FnExactCountStable", spec := "fnExactCountStable", unfollowed := true, recurses := true, apart := false, narrowed := true }
def FnExactCountStableUptoSaid : Prop := fnExactCountStableUptoRow.holds Try.pinned (OpenSpec.upto fnExactCountStableSpec)

end Rows
end Go.Proofs.Ytfhohmahckjpeaa
