/-
  No cell of these rows narrows 'for every input' (looked for: loops, veiled, ifaces, maps, wideKeys, modest, calm, conditions, laid).
  DERIVED. THE GIVEN ROWS OF THIS SEAT. 12 by the template 'for every input the law returns true; each argument reads behind the call as it read before'; 0 by the template 'total and deterministic' (their statements: YtokhpchnnilbaaaTotals.lean).
  GIVEN WITH THE SEED: the statements are not yours to turn. If you find one false, say at which input.
  Laid BY PROGRAM, IN A SANDBOX (cutbox-rows.mjs): the forced cells as the released guide's own fill.sh prints them over the translation 9592270f45e4ffd9… (all of the seat's roots in one cut). By AI agents, Wed Nov 11 2026. No macro, syntax, notation, axiom, sorry.
-/
import Derived.Test.YtokhpchnnilbaaaChecked
import GoSem.Claim
import GoSem.ClaimJoined
import GoSem.ClaimMapViews
import Derived.JoinedTies
import Derived.KernelRfl
namespace Go.Proofs.Ytokhpchnnilbaaa
/- THE CELL 'sum', in the pinned program and in every row, IS THE sha256 OF THE DUMP (.gsa) THAT YtokhpchnnilbaaaProg.lean LOADS. Nothing in Lean hashes anything: it is a label: what it is worth is what the hold of that sum in a sandbox is worth. -/
noncomputable def Try.pinned : Pinned := { name := "ytokhpchnnilbaaa", sum := "9592270f45e4ffd974c04fcc2867109613ecd25cfe53a973d99c83ee56102ffa", checked := Try.checked }
namespace Rows
def none {H : Type} : Left H := { results := [], args := [] }

/-- 'laws.FnExactIsNecklace': WHATEVER THE INPUT: true; the input reads as it did. -/
def fnExactIsNecklaceSpec : ChangeSpec := { name := "fnExactIsNecklace", fn := fun _ => fun
  | [d] => { results := [.lit (.bool true)], args := [d] }
  | _ => none }
def fnExactIsNecklaceRow : OpenClaim := { program := "ytokhpchnnilbaaa", sum := "9592270f45e4ffd974c04fcc2867109613ecd25cfe53a973d99c83ee56102ffa", func := "loop.example/g01160/laws.FnExactIsNecklace", spec := "fnExactIsNecklace", inPlace := ["internal/bytealg.IndexByteString"], apart := false }
def FnExactIsNecklaceSaid : Prop := fnExactIsNecklaceRow.holds Try.pinned (OpenSpec.ofChange fnExactIsNecklaceSpec)

/-- ITS FALSE NEIGHBOUR: 'it returns false'. Refute it at one input. -/
def fnExactIsNecklaceWrong : ChangeSpec := { name := "fnExactIsNecklace", fn := fun _ => fun
  | [d] => { results := [.lit (.bool false)], args := [d] }
  | _ => none }
def FnExactIsNecklaceWrongFalsely : Prop := fnExactIsNecklaceRow.holds Try.pinned (OpenSpec.ofChange fnExactIsNecklaceWrong)

/-- 'laws.FnExactKindsOfBeads': WHATEVER THE INPUT: true; the input reads as it did. -/
def fnExactKindsOfBeadsSpec : ChangeSpec := { name := "fnExactKindsOfBeads", fn := fun _ => fun
  | [d] => { results := [.lit (.bool true)], args := [d] }
  | _ => none }
def fnExactKindsOfBeadsRow : OpenClaim := { program := "ytokhpchnnilbaaa", sum := "9592270f45e4ffd974c04fcc2867109613ecd25cfe53a973d99c83ee56102ffa", func := "loop.example/g01160/laws.FnExactKindsOfBeads", spec := "fnExactKindsOfBeads", inPlace := ["internal/bytealg.IndexByteString"], apart := false }
def FnExactKindsOfBeadsSaid : Prop := fnExactKindsOfBeadsRow.holds Try.pinned (OpenSpec.ofChange fnExactKindsOfBeadsSpec)

/-- ITS FALSE NEIGHBOUR: 'it returns false'. Refute it at one input. -/
def fnExactKindsOfBeadsWrong : ChangeSpec := { name := "fnExactKindsOfBeads", fn := fun _ => fun
  | [d] => { results := [.lit (.bool false)], args := [d] }
  | _ => none }
def FnExactKindsOfBeadsWrongFalsely : Prop := fnExactKindsOfBeadsRow.holds Try.pinned (OpenSpec.ofChange fnExactKindsOfBeadsWrong)

/-- 'laws.FnExactCountsOfBeads': WHATEVER THE INPUT: true; the input reads as it did. -/
def fnExactCountsOfBeadsSpec : ChangeSpec := { name := "fnExactCountsOfBeads", fn := fun _ => fun
  | [d] => { results := [.lit (.bool true)], args := [d] }
  | _ => none }
def fnExactCountsOfBeadsRow : OpenClaim := { program := "ytokhpchnnilbaaa", sum := "9592270f45e4ffd974c04fcc2867109613ecd25cfe53a973d99c83ee56102ffa", func := "loop.example/g01160/laws.FnExactCountsOfBeads", spec := "fnExactCountsOfBeads", inPlace := ["internal/bytealg.IndexByteString"], apart := false }
def FnExactCountsOfBeadsSaid : Prop := fnExactCountsOfBeadsRow.holds Try.pinned (OpenSpec.ofChange fnExactCountsOfBeadsSpec)

/-- ITS FALSE NEIGHBOUR: 'it returns false'. Refute it at one input. -/
def fnExactCountsOfBeadsWrong : ChangeSpec := { name := "fnExactCountsOfBeads", fn := fun _ => fun
  | [d] => { results := [.lit (.bool false)], args := [d] }
  | _ => none }
def FnExactCountsOfBeadsWrongFalsely : Prop := fnExactCountsOfBeadsRow.holds Try.pinned (OpenSpec.ofChange fnExactCountsOfBeadsWrong)

/-- 'laws.FnExactSharesOf': WHATEVER THE INPUT: true; the input reads as it did. -/
def fnExactSharesOfSpec : ChangeSpec := { name := "fnExactSharesOf", fn := fun _ => fun
  | [d1, d2] => { results := [.lit (.bool true)], args := [d1, d2] }
  | _ => none }
def fnExactSharesOfRow : OpenClaim := { program := "ytokhpchnnilbaaa", sum := "9592270f45e4ffd974c04fcc2867109613ecd25cfe53a973d99c83ee56102ffa", func := "loop.example/g01160/laws.FnExactSharesOf", spec := "fnExactSharesOf", inPlace := ["internal/bytealg.IndexByteString"], apart := false }
def FnExactSharesOfSaid : Prop := fnExactSharesOfRow.holds Try.pinned (OpenSpec.ofChange fnExactSharesOfSpec)

/-- ITS FALSE NEIGHBOUR: 'it returns false'. Refute it at one input. -/
def fnExactSharesOfWrong : ChangeSpec := { name := "fnExactSharesOf", fn := fun _ => fun
  | [d1, d2] => { results := [.lit (.bool false)], args := [d1, d2] }
  | _ => none }
def FnExactSharesOfWrongFalsely : Prop := fnExactSharesOfRow.holds Try.pinned (OpenSpec.ofChange fnExactSharesOfWrong)

/-- 'laws.FnExactIsFairSplit': WHATEVER THE INPUT: true; the input reads as it did. -/
def fnExactIsFairSplitSpec : ChangeSpec := { name := "fnExactIsFairSplit", fn := fun _ => fun
  | [d1, d2] => { results := [.lit (.bool true)], args := [d1, d2] }
  | _ => none }
def fnExactIsFairSplitRow : OpenClaim := { program := "ytokhpchnnilbaaa", sum := "9592270f45e4ffd974c04fcc2867109613ecd25cfe53a973d99c83ee56102ffa", func := "loop.example/g01160/laws.FnExactIsFairSplit", spec := "fnExactIsFairSplit", inPlace := ["internal/bytealg.IndexByteString"], apart := false }
def FnExactIsFairSplitSaid : Prop := fnExactIsFairSplitRow.holds Try.pinned (OpenSpec.ofChange fnExactIsFairSplitSpec)

/-- ITS FALSE NEIGHBOUR: 'it returns false'. Refute it at one input. -/
def fnExactIsFairSplitWrong : ChangeSpec := { name := "fnExactIsFairSplit", fn := fun _ => fun
  | [d1, d2] => { results := [.lit (.bool false)], args := [d1, d2] }
  | _ => none }
def FnExactIsFairSplitWrongFalsely : Prop := fnExactIsFairSplitRow.holds Try.pinned (OpenSpec.ofChange fnExactIsFairSplitWrong)

/-- 'laws.FnExactSignsOf': WHATEVER THE INPUT: true; the input reads as it did. -/
def fnExactSignsOfSpec : ChangeSpec := { name := "fnExactSignsOf", fn := fun _ => fun
  | [d1, d2] => { results := [.lit (.bool true)], args := [d1, d2] }
  | _ => none }
def fnExactSignsOfRow : OpenClaim := { program := "ytokhpchnnilbaaa", sum := "9592270f45e4ffd974c04fcc2867109613ecd25cfe53a973d99c83ee56102ffa", func := "loop.example/g01160/laws.FnExactSignsOf", spec := "fnExactSignsOf", inPlace := ["internal/bytealg.IndexByteString"], apart := false }
def FnExactSignsOfSaid : Prop := fnExactSignsOfRow.holds Try.pinned (OpenSpec.ofChange fnExactSignsOfSpec)

/-- ITS FALSE NEIGHBOUR: 'it returns false'. Refute it at one input. -/
def fnExactSignsOfWrong : ChangeSpec := { name := "fnExactSignsOf", fn := fun _ => fun
  | [d1, d2] => { results := [.lit (.bool false)], args := [d1, d2] }
  | _ => none }
def FnExactSignsOfWrongFalsely : Prop := fnExactSignsOfRow.holds Try.pinned (OpenSpec.ofChange fnExactSignsOfWrong)

/-- 'laws.FnExactCutsOfSigns': WHATEVER THE INPUT: true; the input reads as it did. -/
def fnExactCutsOfSignsSpec : ChangeSpec := { name := "fnExactCutsOfSigns", fn := fun _ => fun
  | [d1, d2] => { results := [.lit (.bool true)], args := [d1, d2] }
  | _ => none }
def fnExactCutsOfSignsRow : OpenClaim := { program := "ytokhpchnnilbaaa", sum := "9592270f45e4ffd974c04fcc2867109613ecd25cfe53a973d99c83ee56102ffa", func := "loop.example/g01160/laws.FnExactCutsOfSigns", spec := "fnExactCutsOfSigns", inPlace := ["internal/bytealg.IndexByteString"], unfollowed := true, recurses := true, apart := false }
def FnExactCutsOfSignsSaid : Prop := fnExactCutsOfSignsRow.holds Try.pinned (OpenSpec.ofChange fnExactCutsOfSignsSpec)

/-- ITS FALSE NEIGHBOUR: 'it returns false'. Refute it at one input. -/
def fnExactCutsOfSignsWrong : ChangeSpec := { name := "fnExactCutsOfSigns", fn := fun _ => fun
  | [d1, d2] => { results := [.lit (.bool false)], args := [d1, d2] }
  | _ => none }
def FnExactCutsOfSignsWrongFalsely : Prop := fnExactCutsOfSignsRow.holds Try.pinned (OpenSpec.ofChange fnExactCutsOfSignsWrong)

/-- 'laws.FnExactFewestCuts': WHATEVER THE INPUT: true; the input reads as it did. -/
def fnExactFewestCutsSpec : ChangeSpec := { name := "fnExactFewestCuts", fn := fun _ => fun
  | [d] => { results := [.lit (.bool true)], args := [d] }
  | _ => none }
def fnExactFewestCutsRow : OpenClaim := { program := "ytokhpchnnilbaaa", sum := "9592270f45e4ffd974c04fcc2867109613ecd25cfe53a973d99c83ee56102ffa", func := "loop.example/g01160/laws.FnExactFewestCuts", spec := "fnExactFewestCuts", inPlace := ["internal/bytealg.IndexByteString"], unfollowed := true, recurses := true, apart := false }
def FnExactFewestCutsSaid : Prop := fnExactFewestCutsRow.holds Try.pinned (OpenSpec.ofChange fnExactFewestCutsSpec)

/-- ITS FALSE NEIGHBOUR: 'it returns false'. Refute it at one input. -/
def fnExactFewestCutsWrong : ChangeSpec := { name := "fnExactFewestCuts", fn := fun _ => fun
  | [d] => { results := [.lit (.bool false)], args := [d] }
  | _ => none }
def FnExactFewestCutsWrongFalsely : Prop := fnExactFewestCutsRow.holds Try.pinned (OpenSpec.ofChange fnExactFewestCutsWrong)

/-- 'laws.FnExactFirstSplit': WHATEVER THE INPUT: true; the input reads as it did. -/
def fnExactFirstSplitSpec : ChangeSpec := { name := "fnExactFirstSplit", fn := fun _ => fun
  | [d] => { results := [.lit (.bool true)], args := [d] }
  | _ => none }
def fnExactFirstSplitRow : OpenClaim := { program := "ytokhpchnnilbaaa", sum := "9592270f45e4ffd974c04fcc2867109613ecd25cfe53a973d99c83ee56102ffa", func := "loop.example/g01160/laws.FnExactFirstSplit", spec := "fnExactFirstSplit", inPlace := ["internal/bytealg.IndexByteString"], unfollowed := true, recurses := true, apart := false }
def FnExactFirstSplitSaid : Prop := fnExactFirstSplitRow.holds Try.pinned (OpenSpec.ofChange fnExactFirstSplitSpec)

/-- ITS FALSE NEIGHBOUR: 'it returns false'. Refute it at one input. -/
def fnExactFirstSplitWrong : ChangeSpec := { name := "fnExactFirstSplit", fn := fun _ => fun
  | [d] => { results := [.lit (.bool false)], args := [d] }
  | _ => none }
def FnExactFirstSplitWrongFalsely : Prop := fnExactFirstSplitRow.holds Try.pinned (OpenSpec.ofChange fnExactFirstSplitWrong)

/-- 'laws.FnExactCountSplits': WHATEVER THE INPUT: true; the input reads as it did. -/
def fnExactCountSplitsSpec : ChangeSpec := { name := "fnExactCountSplits", fn := fun _ => fun
  | [d1, d2] => { results := [.lit (.bool true)], args := [d1, d2] }
  | _ => none }
def fnExactCountSplitsRow : OpenClaim := { program := "ytokhpchnnilbaaa", sum := "9592270f45e4ffd974c04fcc2867109613ecd25cfe53a973d99c83ee56102ffa", func := "loop.example/g01160/laws.FnExactCountSplits", spec := "fnExactCountSplits", inPlace := ["internal/bytealg.IndexByteString"], unfollowed := true, recurses := true, apart := false }
def FnExactCountSplitsSaid : Prop := fnExactCountSplitsRow.holds Try.pinned (OpenSpec.ofChange fnExactCountSplitsSpec)

/-- ITS FALSE NEIGHBOUR: 'it returns false'. Refute it at one input. -/
def fnExactCountSplitsWrong : ChangeSpec := { name := "fnExactCountSplits", fn := fun _ => fun
  | [d1, d2] => { results := [.lit (.bool false)], args := [d1, d2] }
  | _ => none }
def FnExactCountSplitsWrongFalsely : Prop := fnExactCountSplitsRow.holds Try.pinned (OpenSpec.ofChange fnExactCountSplitsWrong)

/-- 'laws.FnExactHalfWindow': WHATEVER THE INPUT: true; the input reads as it did. -/
def fnExactHalfWindowSpec : ChangeSpec := { name := "fnExactHalfWindow", fn := fun _ => fun
  | [d] => { results := [.lit (.bool true)], args := [d] }
  | _ => none }
def fnExactHalfWindowRow : OpenClaim := { program := "ytokhpchnnilbaaa", sum := "9592270f45e4ffd974c04fcc2867109613ecd25cfe53a973d99c83ee56102ffa", func := "loop.example/g01160/laws.FnExactHalfWindow", spec := "fnExactHalfWindow", inPlace := ["internal/bytealg.IndexByteString"], apart := false }
def FnExactHalfWindowSaid : Prop := fnExactHalfWindowRow.holds Try.pinned (OpenSpec.ofChange fnExactHalfWindowSpec)

/-- ITS FALSE NEIGHBOUR: 'it returns false'. Refute it at one input. -/
def fnExactHalfWindowWrong : ChangeSpec := { name := "fnExactHalfWindow", fn := fun _ => fun
  | [d] => { results := [.lit (.bool false)], args := [d] }
  | _ => none }
def FnExactHalfWindowWrongFalsely : Prop := fnExactHalfWindowRow.holds Try.pinned (OpenSpec.ofChange fnExactHalfWindowWrong)

/-- 'laws.FnExactWindowCounts': WHATEVER THE INPUT: true; the input reads as it did. -/
def fnExactWindowCountsSpec : ChangeSpec := { name := "fnExactWindowCounts", fn := fun _ => fun
  | [d1, d2, d3] => { results := [.lit (.bool true)], args := [d1, d2, d3] }
  | _ => none }
def fnExactWindowCountsRow : OpenClaim := { program := "ytokhpchnnilbaaa", sum := "9592270f45e4ffd974c04fcc2867109613ecd25cfe53a973d99c83ee56102ffa", func := "loop.example/g01160/laws.FnExactWindowCounts", spec := "fnExactWindowCounts", inPlace := ["internal/bytealg.IndexByteString"], apart := false }
def FnExactWindowCountsSaid : Prop := fnExactWindowCountsRow.holds Try.pinned (OpenSpec.ofChange fnExactWindowCountsSpec)

/-- ITS FALSE NEIGHBOUR: 'it returns false'. Refute it at one input. -/
def fnExactWindowCountsWrong : ChangeSpec := { name := "fnExactWindowCounts", fn := fun _ => fun
  | [d1, d2, d3] => { results := [.lit (.bool false)], args := [d1, d2, d3] }
  | _ => none }
def FnExactWindowCountsWrongFalsely : Prop := fnExactWindowCountsRow.holds Try.pinned (OpenSpec.ofChange fnExactWindowCountsWrong)

/- THE SECOND FORM. 'bulk': how many values and letters a reading holds, each counted each time it is reached (what is shared counts as often as it is met; a slice's spare places count too). A statement '..UptoSaid' is the law's where the arguments, and the package variables that the reading takes, are together of bulk at most 1048576: NARROWER than '..Said'. Prove '..Said' where nothing that the law and all that it calls make is longer than what came in: it says more and counts as full. Else prove '..UptoSaid'. A law counts once. -/
mutual
def uptoBulk {H : Type} : DataW H → Nat
  | .lit (.string bytes) => bytes.length + 1
  | .lit _ => 1
  | .nil => 1
  | .ptr d => uptoBulk d + 1
  | .slice elems spare => uptoBulkAll elems + uptoBulkAll spare + 1
  | .agg parts => uptoBulkAll parts + 1
  | .iface _ d => uptoBulk d + 1
  | .map entries => uptoBulkEntries entries + 1
  | .held _ => 1
def uptoBulkAll {H : Type} : List (DataW H) → Nat
  | [] => 0
  | d :: r => uptoBulk d + uptoBulkAll r
def uptoBulkEntries {H : Type} : List (Lit × DataW H) → Nat
  | [] => 0
  | x :: r => uptoBulkEntry x + uptoBulkEntries r
def uptoBulkEntry {H : Type} : Lit × DataW H → Nat
  | (.string bytes, d) => bytes.length + uptoBulk d + 1
  | (_, d) => uptoBulk d + 1
 end
def uptoSmall : (H : Type) → List (DataW H) → Bool := fun _ ds => decide (uptoBulkAll ds ≤ 1048576)
def OpenSpec.upto (s : _root_.Go.ChangeSpec) : _root_.Go.OpenSpec := { _root_.Go.OpenSpec.ofChange s with cond := some uptoSmall }

/-- 'laws.FnExactIsNecklace', WHERE WHAT IT READS IS OF BULK AT MOST 1048576: true; the input reads as it did. -/
def fnExactIsNecklaceUptoRow : OpenClaim := { program := "ytokhpchnnilbaaa", sum := "9592270f45e4ffd974c04fcc2867109613ecd25cfe53a973d99c83ee56102ffa", func := "loop.example/g01160/laws.FnExactIsNecklace", spec := "fnExactIsNecklace", inPlace := ["internal/bytealg.IndexByteString"], apart := false, narrowed := true }
def FnExactIsNecklaceUptoSaid : Prop := fnExactIsNecklaceUptoRow.holds Try.pinned (OpenSpec.upto fnExactIsNecklaceSpec)

/-- 'laws.FnExactKindsOfBeads', WHERE WHAT IT READS IS OF BULK AT MOST 1048576: true; the input reads as it did. -/
def fnExactKindsOfBeadsUptoRow : OpenClaim := { program := "ytokhpchnnilbaaa", sum := "9592270f45e4ffd974c04fcc2867109613ecd25cfe53a973d99c83ee56102ffa", func := "loop.example/g01160/laws.FnExactKindsOfBeads", spec := "fnExactKindsOfBeads", inPlace := ["internal/bytealg.IndexByteString"], apart := false, narrowed := true }
def FnExactKindsOfBeadsUptoSaid : Prop := fnExactKindsOfBeadsUptoRow.holds Try.pinned (OpenSpec.upto fnExactKindsOfBeadsSpec)

/-- 'laws.FnExactCountsOfBeads', WHERE WHAT IT READS IS OF BULK AT MOST 1048576: true; the input reads as it did. -/
def fnExactCountsOfBeadsUptoRow : OpenClaim := { program := "ytokhpchnnilbaaa", sum := "9592270f45e4ffd974c04fcc2867109613ecd25cfe53a973d99c83ee56102ffa", func := "loop.example/g01160/laws.FnExactCountsOfBeads", spec := "fnExactCountsOfBeads", inPlace := ["internal/bytealg.IndexByteString"], apart := false, narrowed := true }
def FnExactCountsOfBeadsUptoSaid : Prop := fnExactCountsOfBeadsUptoRow.holds Try.pinned (OpenSpec.upto fnExactCountsOfBeadsSpec)

/-- 'laws.FnExactSharesOf', WHERE WHAT IT READS IS OF BULK AT MOST 1048576: true; the input reads as it did. -/
def fnExactSharesOfUptoRow : OpenClaim := { program := "ytokhpchnnilbaaa", sum := "9592270f45e4ffd974c04fcc2867109613ecd25cfe53a973d99c83ee56102ffa", func := "loop.example/g01160/laws.FnExactSharesOf", spec := "fnExactSharesOf", inPlace := ["internal/bytealg.IndexByteString"], apart := false, narrowed := true }
def FnExactSharesOfUptoSaid : Prop := fnExactSharesOfUptoRow.holds Try.pinned (OpenSpec.upto fnExactSharesOfSpec)

/-- 'laws.FnExactIsFairSplit', WHERE WHAT IT READS IS OF BULK AT MOST 1048576: true; the input reads as it did. -/
def fnExactIsFairSplitUptoRow : OpenClaim := { program := "ytokhpchnnilbaaa", sum := "9592270f45e4ffd974c04fcc2867109613ecd25cfe53a973d99c83ee56102ffa", func := "loop.example/g01160/laws.FnExactIsFairSplit", spec := "fnExactIsFairSplit", inPlace := ["internal/bytealg.IndexByteString"], apart := false, narrowed := true }
def FnExactIsFairSplitUptoSaid : Prop := fnExactIsFairSplitUptoRow.holds Try.pinned (OpenSpec.upto fnExactIsFairSplitSpec)

/-- 'laws.FnExactSignsOf', WHERE WHAT IT READS IS OF BULK AT MOST 1048576: true; the input reads as it did. -/
def fnExactSignsOfUptoRow : OpenClaim := { program := "ytokhpchnnilbaaa", sum := "9592270f45e4ffd974c04fcc2867109613ecd25cfe53a973d99c83ee56102ffa", func := "loop.example/g01160/laws.FnExactSignsOf", spec := "fnExactSignsOf", inPlace := ["internal/bytealg.IndexByteString"], apart := false, narrowed := true }
def FnExactSignsOfUptoSaid : Prop := fnExactSignsOfUptoRow.holds Try.pinned (OpenSpec.upto fnExactSignsOfSpec)

/-- 'laws.FnExactCutsOfSigns', WHERE WHAT IT READS IS OF BULK AT MOST 1048576: true; the input reads as it did. -/
def fnExactCutsOfSignsUptoRow : OpenClaim := { program := "ytokhpchnnilbaaa", sum := "9592270f45e4ffd974c04fcc2867109613ecd25cfe53a973d99c83ee56102ffa", func := "loop.example/g01160/laws.FnExactCutsOfSigns", spec := "fnExactCutsOfSigns", inPlace := ["internal/bytealg.IndexByteString"], unfollowed := true, recurses := true, apart := false, narrowed := true }
def FnExactCutsOfSignsUptoSaid : Prop := fnExactCutsOfSignsUptoRow.holds Try.pinned (OpenSpec.upto fnExactCutsOfSignsSpec)

/-- 'laws.FnExactFewestCuts', WHERE WHAT IT READS IS OF BULK AT MOST 1048576: true; the input reads as it did. -/
def fnExactFewestCutsUptoRow : OpenClaim := { program := "ytokhpchnnilbaaa", sum := "9592270f45e4ffd974c04fcc2867109613ecd25cfe53a973d99c83ee56102ffa", func := "loop.example/g01160/laws.FnExactFewestCuts", spec := "fnExactFewestCuts", inPlace := ["internal/bytealg.IndexByteString"], unfollowed := true, recurses := true, apart := false, narrowed := true }
def FnExactFewestCutsUptoSaid : Prop := fnExactFewestCutsUptoRow.holds Try.pinned (OpenSpec.upto fnExactFewestCutsSpec)

/-- 'laws.FnExactFirstSplit', WHERE WHAT IT READS IS OF BULK AT MOST 1048576: true; the input reads as it did. -/
def fnExactFirstSplitUptoRow : OpenClaim := { program := "ytokhpchnnilbaaa", sum := "9592270f45e4ffd974c04fcc2867109613ecd25cfe53a973d99c83ee56102ffa", func := "loop.example/g01160/laws.FnExactFirstSplit", spec := "fnExactFirstSplit", inPlace := ["internal/bytealg.IndexByteString"], unfollowed := true, recurses := true, apart := false, narrowed := true }
def FnExactFirstSplitUptoSaid : Prop := fnExactFirstSplitUptoRow.holds Try.pinned (OpenSpec.upto fnExactFirstSplitSpec)

/-- 'laws.FnExactCountSplits', WHERE WHAT IT READS IS OF BULK AT MOST 1048576: true; the input reads as it did. -/
def fnExactCountSplitsUptoRow : OpenClaim := { program := "ytokhpchnnilbaaa", sum := "9592270f45e4ffd974c04fcc2867109613ecd25cfe53a973d99c83ee56102ffa", func := "loop.example/g01160/laws.FnExactCountSplits", spec := "fnExactCountSplits", inPlace := ["internal/bytealg.IndexByteString"], unfollowed := true, recurses := true, apart := false, narrowed := true }
def FnExactCountSplitsUptoSaid : Prop := fnExactCountSplitsUptoRow.holds Try.pinned (OpenSpec.upto fnExactCountSplitsSpec)

/-- 'laws.FnExactHalfWindow', WHERE WHAT IT READS IS OF BULK AT MOST 1048576: true; the input reads as it did. -/
def fnExactHalfWindowUptoRow : OpenClaim := { program := "ytokhpchnnilbaaa", sum := "9592270f45e4ffd974c04fcc2867109613ecd25cfe53a973d99c83ee56102ffa", func := "loop.example/g01160/laws.FnExactHalfWindow", spec := "fnExactHalfWindow", inPlace := ["internal/bytealg.IndexByteString"], apart := false, narrowed := true }
def FnExactHalfWindowUptoSaid : Prop := fnExactHalfWindowUptoRow.holds Try.pinned (OpenSpec.upto fnExactHalfWindowSpec)

/-- 'laws.FnExactWindowCounts', WHERE WHAT IT READS IS OF BULK AT MOST 1048576: true; the input reads as it did. -/
def fnExactWindowCountsUptoRow : OpenClaim := { program := "ytokhpchnnilbaaa", sum := "9592270f45e4ffd974c04fcc2867109613ecd25cfe53a973d99c83ee56102ffa", func := "loop.example/g01160/laws.FnExactWindowCounts", spec := "fnExactWindowCounts", inPlace := ["internal/bytealg.IndexByteString"], apart := false, narrowed := true }
def FnExactWindowCountsUptoSaid : Prop := fnExactWindowCountsUptoRow.holds Try.pinned (OpenSpec.upto fnExactWindowCountsSpec)

end Rows
end Go.Proofs.Ytokhpchnnilbaaa
