/-
  No cell of these rows narrows 'for every input' (looked for: loops, veiled, ifaces, maps, wideKeys, modest, calm, conditions, laid).
  DERIVED. THE GIVEN ROWS OF THIS SEAT. 4 by the template 'for every input the law returns true; each argument reads behind the call as it read before'; 0 by the template 'total and deterministic' (their statements: YtjohjiknngagiaaTotals.lean).
  GIVEN WITH THE SEED: the statements are not yours to turn. If you find one false, say at which input.
  Laid BY PROGRAM, IN A SANDBOX (cutbox-rows.mjs): the forced cells as the released guide's own fill.sh prints them over the translation e564ccb6ac6c4767… (all of the seat's roots in one cut). By AI agents, Wed Nov 11 2026. No macro, syntax, notation, axiom, sorry.
-/
import Derived.Test.YtjohjiknngagiaaChecked
import GoSem.Claim
import GoSem.ClaimJoined
import GoSem.ClaimMapViews
import Derived.JoinedTies
import Derived.KernelRfl
namespace Go.Proofs.Ytjohjiknngagiaa
/- THE CELL 'sum', in the pinned program and in every row, IS THE sha256 OF THE DUMP (.gsa) THAT YtjohjiknngagiaaProg.lean LOADS. Nothing in Lean hashes anything: it is a label: what it is worth is what the hold of that sum in a sandbox is worth. -/
noncomputable def Try.pinned : Pinned := { name := "ytjohjiknngagiaa", sum := "e564ccb6ac6c476798646b47538f0ecb072dcd6cf16c218d50097dc394d97c34", checked := Try.checked }
namespace Rows
def none {H : Type} : Left H := { results := [], args := [] }

/-- 'laws.FnExactColourWith': WHATEVER THE INPUT: true; the input reads as it did. -/
def fnExactColourWithSpec : ChangeSpec := { name := "fnExactColourWith", fn := fun _ => fun
  | [d1, d2, d3] => { results := [.lit (.bool true)], args := [d1, d2, d3] }
  | _ => none }
def fnExactColourWithRow : OpenClaim := { program := "ytjohjiknngagiaa", sum := "e564ccb6ac6c476798646b47538f0ecb072dcd6cf16c218d50097dc394d97c34", func := "loop.example/g01160/laws.FnExactColourWith", spec := "fnExactColourWith", unfollowed := true, recurses := true, apart := false }
def FnExactColourWithSaid : Prop := fnExactColourWithRow.holds Try.pinned (OpenSpec.ofChange fnExactColourWithSpec)

/-- ITS FALSE NEIGHBOUR: 'it returns false'. Refute it at one input. -/
def fnExactColourWithWrong : ChangeSpec := { name := "fnExactColourWith", fn := fun _ => fun
  | [d1, d2, d3] => { results := [.lit (.bool false)], args := [d1, d2, d3] }
  | _ => none }
def FnExactColourWithWrongFalsely : Prop := fnExactColourWithRow.holds Try.pinned (OpenSpec.ofChange fnExactColourWithWrong)

/-- 'laws.FnExactColourStableWith': WHATEVER THE INPUT: true; the input reads as it did. -/
def fnExactColourStableWithSpec : ChangeSpec := { name := "fnExactColourStableWith", fn := fun _ => fun
  | [d1, d2, d3] => { results := [.lit (.bool true)], args := [d1, d2, d3] }
  | _ => none }
def fnExactColourStableWithRow : OpenClaim := { program := "ytjohjiknngagiaa", sum := "e564ccb6ac6c476798646b47538f0ecb072dcd6cf16c218d50097dc394d97c34", func := "loop.example/g01160/laws.FnExactColourStableWith", spec := "fnExactColourStableWith", unfollowed := true, recurses := true, apart := false }
def FnExactColourStableWithSaid : Prop := fnExactColourStableWithRow.holds Try.pinned (OpenSpec.ofChange fnExactColourStableWithSpec)

/-- ITS FALSE NEIGHBOUR: 'it returns false'. Refute it at one input. -/
def fnExactColourStableWithWrong : ChangeSpec := { name := "fnExactColourStableWith", fn := fun _ => fun
  | [d1, d2, d3] => { results := [.lit (.bool false)], args := [d1, d2, d3] }
  | _ => none }
def FnExactColourStableWithWrongFalsely : Prop := fnExactColourStableWithRow.holds Try.pinned (OpenSpec.ofChange fnExactColourStableWithWrong)

/-- 'laws.FnColouringsAreLeast': WHATEVER THE INPUT: true; the input reads as it did. -/
def fnColouringsAreLeastSpec : ChangeSpec := { name := "fnColouringsAreLeast", fn := fun _ => fun
  | [d1, d2] => { results := [.lit (.bool true)], args := [d1, d2] }
  | _ => none }
def fnColouringsAreLeastRow : OpenClaim := { program := "ytjohjiknngagiaa", sum := "e564ccb6ac6c476798646b47538f0ecb072dcd6cf16c218d50097dc394d97c34", func := "loop.example/g01160/laws.FnColouringsAreLeast", spec := "fnColouringsAreLeast", unfollowed := true, recurses := true, apart := false }
def FnColouringsAreLeastSaid : Prop := fnColouringsAreLeastRow.holds Try.pinned (OpenSpec.ofChange fnColouringsAreLeastSpec)

/-- ITS FALSE NEIGHBOUR: 'it returns false'. Refute it at one input. -/
def fnColouringsAreLeastWrong : ChangeSpec := { name := "fnColouringsAreLeast", fn := fun _ => fun
  | [d1, d2] => { results := [.lit (.bool false)], args := [d1, d2] }
  | _ => none }
def FnColouringsAreLeastWrongFalsely : Prop := fnColouringsAreLeastRow.holds Try.pinned (OpenSpec.ofChange fnColouringsAreLeastWrong)

/-- 'laws.FnMeetingSets': WHATEVER THE INPUT: true; the input reads as it did. -/
def fnMeetingSetsSpec : ChangeSpec := { name := "fnMeetingSets", fn := fun _ => fun
  | [d1, d2] => { results := [.lit (.bool true)], args := [d1, d2] }
  | _ => none }
def fnMeetingSetsRow : OpenClaim := { program := "ytjohjiknngagiaa", sum := "e564ccb6ac6c476798646b47538f0ecb072dcd6cf16c218d50097dc394d97c34", func := "loop.example/g01160/laws.FnMeetingSets", spec := "fnMeetingSets", unfollowed := true, recurses := true, apart := false }
def FnMeetingSetsSaid : Prop := fnMeetingSetsRow.holds Try.pinned (OpenSpec.ofChange fnMeetingSetsSpec)

/-- ITS FALSE NEIGHBOUR: 'it returns false'. Refute it at one input. -/
def fnMeetingSetsWrong : ChangeSpec := { name := "fnMeetingSets", fn := fun _ => fun
  | [d1, d2] => { results := [.lit (.bool false)], args := [d1, d2] }
  | _ => none }
def FnMeetingSetsWrongFalsely : Prop := fnMeetingSetsRow.holds Try.pinned (OpenSpec.ofChange fnMeetingSetsWrong)

/- THE SECOND FORM. 'bulk': how many values and letters a reading holds, each counted each time it is reached (what is shared counts as often as it is met; a slice's spare places count too). A statement '..UptoSaid' is the law's where the arguments, and the package variables that the reading takes, are together of bulk at most 1048576: NARROWER than '..Said'. Prove '..Said' where nothing that the law and all that it calls make is longer than what came in: it says more and counts as full. Else prove '..UptoSaid'. A law counts once. -/
mutual
def uptoBulk {H : Type} : DataW H → Nat
  | .lit (.string bytes) => bytes.length + 1
  | .lit _ => 1
  | .nil => 1
  | .ptr d => uptoBulk d + 1
  | .slice elems spare => uptoBulkAll elems + uptoBulkAll spare + 1
  | .agg parts => uptoBulkAll parts + 1
  | .iface _ d => uptoBulk d + 1
  | .map entries => uptoBulkEntries entries + 1
  | .held _ => 1
def uptoBulkAll {H : Type} : List (DataW H) → Nat
  | [] => 0
  | d :: r => uptoBulk d + uptoBulkAll r
def uptoBulkEntries {H : Type} : List (Lit × DataW H) → Nat
  | [] => 0
  | x :: r => uptoBulkEntry x + uptoBulkEntries r
def uptoBulkEntry {H : Type} : Lit × DataW H → Nat
  | (.string bytes, d) => bytes.length + uptoBulk d + 1
  | (_, d) => uptoBulk d + 1
 end
def uptoSmall : (H : Type) → List (DataW H) → Bool := fun _ ds => decide (uptoBulkAll ds ≤ 1048576)
def OpenSpec.upto (s : _root_.Go.ChangeSpec) : _root_.Go.OpenSpec := { _root_.Go.OpenSpec.ofChange s with cond := some uptoSmall }

/-- 'laws.FnExactColourWith', WHERE WHAT IT READS IS OF BULK AT MOST 1048576: true; the input reads as it did. -/
def fnExactColourWithUptoRow : OpenClaim := { program := "ytjohjiknngagiaa", sum := "e564ccb6ac6c476798646b47538f0ecb072dcd6cf16c218d50097dc394d97c34", func := "loop.example/g01160/laws.FnExactColourWith", spec := "fnExactColourWith", unfollowed := true, recurses := true, apart := false, narrowed := true }
def FnExactColourWithUptoSaid : Prop := fnExactColourWithUptoRow.holds Try.pinned (OpenSpec.upto fnExactColourWithSpec)

/-- 'laws.FnExactColourStableWith', WHERE WHAT IT READS IS OF BULK AT MOST 1048576: true; the input reads as it did. -/
def fnExactColourStableWithUptoRow : OpenClaim := { program := "ytjohjiknngagiaa", sum := "e564ccb6ac6c476798646b47538f0ecb072dcd6cf16c218d50097dc394d97c34", func := "loop.example/g01160/laws.FnExactColourStableWith", spec := "fnExactColourStableWith", unfollowed := true, recurses := true, apart := false, narrowed := true }
def FnExactColourStableWithUptoSaid : Prop := fnExactColourStableWithUptoRow.holds Try.pinned (OpenSpec.upto fnExactColourStableWithSpec)

/-- 'laws.FnColouringsAreLeast', WHERE WHAT IT READS IS OF BULK AT MOST 1048576: true; the input reads as it did. -/
def fnColouringsAreLeastUptoRow : OpenClaim := { program := "ytjohjiknngagiaa", sum := "e564ccb6ac6c476798646b47538f0ecb072dcd6cf16c218d50097dc394d97c34", func := "loop.example/g01160/laws.FnColouringsAreLeast", spec := "fnColouringsAreLeast", unfollowed := true, recurses := true, apart := false, narrowed := true }
def FnColouringsAreLeastUptoSaid : Prop := fnColouringsAreLeastUptoRow.holds Try.pinned (OpenSpec.upto fnColouringsAreLeastSpec)

/-- 'laws.FnMeetingSets', WHERE WHAT IT READS IS OF BULK AT MOST 1048576: true; the input reads as it did. -/
def fnMeetingSetsUptoRow : OpenClaim := { program := "ytjohjiknngagiaa", sum := "e564ccb6ac6c476798646b47538f0ecb072dcd6cf16c218d50097dc394d97c34", func := "loop.example/g01160/laws.FnMeetingSets", spec := "fnMeetingSets", unfollowed := true, recurses := true, apart := false, narrowed := true }
def FnMeetingSetsUptoSaid : Prop := fnMeetingSetsUptoRow.holds Try.pinned (OpenSpec.upto fnMeetingSetsSpec)

end Rows
end Go.Proofs.Ytjohjiknngagiaa
