/-
  No cell of these rows narrows 'for every input' (looked for: loops, veiled, ifaces, maps, wideKeys, modest, calm, conditions, laid).
  DERIVED. THE GIVEN ROWS OF THIS SEAT. 6 by the template 'for every input the law returns true; each argument reads behind the call as it read before'; 0 by the template 'total and deterministic' (their statements: YtaiocplkhhlndaaTotals.lean).
  GIVEN WITH THE SEED: the statements are not yours to turn. If you find one false, say at which input.
  Laid BY PROGRAM, IN A SANDBOX (cutbox-rows.mjs): the forced cells as the released guide's own fill.sh prints them over the translation 0f5b1a180a603434… (all of the seat's roots in one cut). By AI agents, Wed Nov 11 2026. No macro, syntax, notation, axiom, sorry.
-/
import Derived.Test.YtaiocplkhhlndaaChecked
import GoSem.Claim
import GoSem.ClaimJoined
import GoSem.ClaimMapViews
import Derived.JoinedTies
import Derived.KernelRfl
namespace Go.Proofs.Ytaiocplkhhlndaa
/- THE CELL 'sum', in the pinned program and in every row, IS THE sha256 OF THE DUMP (.gsa) THAT YtaiocplkhhlndaaProg.lean LOADS. Nothing in Lean hashes anything: it is a label: what it is worth is what the hold of that sum in a sandbox is worth. -/
noncomputable def Try.pinned : Pinned := { name := "ytaiocplkhhlndaa", sum := "0f5b1a180a603434bd11198c8492fc7a44e5ac7d781f2e35a69bc54a6847666b", checked := Try.checked }
namespace Rows
def none {H : Type} : Left H := { results := [], args := [] }

/-- 'laws.FnExactReverseBeads': WHATEVER THE INPUT: true; the input reads as it did. -/
def fnExactReverseBeadsSpec : ChangeSpec := { name := "fnExactReverseBeads", fn := fun _ => fun
  | [d] => { results := [.lit (.bool true)], args := [d] }
  | _ => none }
def fnExactReverseBeadsRow : OpenClaim := { program := "ytaiocplkhhlndaa", sum := "0f5b1a180a603434bd11198c8492fc7a44e5ac7d781f2e35a69bc54a6847666b", func := "loop.example/g01160/laws.FnExactReverseBeads", spec := "fnExactReverseBeads", inPlace := ["internal/bytealg.IndexByteString"], apart := false }
def FnExactReverseBeadsSaid : Prop := fnExactReverseBeadsRow.holds Try.pinned (OpenSpec.ofChange fnExactReverseBeadsSpec)

/-- ITS FALSE NEIGHBOUR: 'it returns false'. Refute it at one input. -/
def fnExactReverseBeadsWrong : ChangeSpec := { name := "fnExactReverseBeads", fn := fun _ => fun
  | [d] => { results := [.lit (.bool false)], args := [d] }
  | _ => none }
def FnExactReverseBeadsWrongFalsely : Prop := fnExactReverseBeadsRow.holds Try.pinned (OpenSpec.ofChange fnExactReverseBeadsWrong)

/-- 'laws.FnExactRenameBeads': WHATEVER THE INPUT: true; the input reads as it did. -/
def fnExactRenameBeadsSpec : ChangeSpec := { name := "fnExactRenameBeads", fn := fun _ => fun
  | [d1, d2] => { results := [.lit (.bool true)], args := [d1, d2] }
  | _ => none }
def fnExactRenameBeadsRow : OpenClaim := { program := "ytaiocplkhhlndaa", sum := "0f5b1a180a603434bd11198c8492fc7a44e5ac7d781f2e35a69bc54a6847666b", func := "loop.example/g01160/laws.FnExactRenameBeads", spec := "fnExactRenameBeads", inPlace := ["internal/bytealg.IndexByteString"], unfollowed := true, recurses := true, apart := false }
def FnExactRenameBeadsSaid : Prop := fnExactRenameBeadsRow.holds Try.pinned (OpenSpec.ofChange fnExactRenameBeadsSpec)

/-- ITS FALSE NEIGHBOUR: 'it returns false'. Refute it at one input. -/
def fnExactRenameBeadsWrong : ChangeSpec := { name := "fnExactRenameBeads", fn := fun _ => fun
  | [d1, d2] => { results := [.lit (.bool false)], args := [d1, d2] }
  | _ => none }
def FnExactRenameBeadsWrongFalsely : Prop := fnExactRenameBeadsRow.holds Try.pinned (OpenSpec.ofChange fnExactRenameBeadsWrong)

/-- 'laws.FnExactSortedBeads': WHATEVER THE INPUT: true; the input reads as it did. -/
def fnExactSortedBeadsSpec : ChangeSpec := { name := "fnExactSortedBeads", fn := fun _ => fun
  | [d] => { results := [.lit (.bool true)], args := [d] }
  | _ => none }
def fnExactSortedBeadsRow : OpenClaim := { program := "ytaiocplkhhlndaa", sum := "0f5b1a180a603434bd11198c8492fc7a44e5ac7d781f2e35a69bc54a6847666b", func := "loop.example/g01160/laws.FnExactSortedBeads", spec := "fnExactSortedBeads", inPlace := ["internal/abi.NoEscape", "internal/bytealg.MakeNoZero"], unfollowed := true, recurses := true, apart := false }
def FnExactSortedBeadsSaid : Prop := fnExactSortedBeadsRow.holds Try.pinned (OpenSpec.ofChange fnExactSortedBeadsSpec)

/-- ITS FALSE NEIGHBOUR: 'it returns false'. Refute it at one input. -/
def fnExactSortedBeadsWrong : ChangeSpec := { name := "fnExactSortedBeads", fn := fun _ => fun
  | [d] => { results := [.lit (.bool false)], args := [d] }
  | _ => none }
def FnExactSortedBeadsWrongFalsely : Prop := fnExactSortedBeadsRow.holds Try.pinned (OpenSpec.ofChange fnExactSortedBeadsWrong)

/-- 'laws.FnExactFewestForThree': WHATEVER THE INPUT: true; the input reads as it did. -/
def fnExactFewestForThreeSpec : ChangeSpec := { name := "fnExactFewestForThree", fn := fun _ => fun
  | [d] => { results := [.lit (.bool true)], args := [d] }
  | _ => none }
def fnExactFewestForThreeRow : OpenClaim := { program := "ytaiocplkhhlndaa", sum := "0f5b1a180a603434bd11198c8492fc7a44e5ac7d781f2e35a69bc54a6847666b", func := "loop.example/g01160/laws.FnExactFewestForThree", spec := "fnExactFewestForThree", inPlace := ["internal/bytealg.IndexByteString", "maps.clone"], recurses := true, apart := false }
def FnExactFewestForThreeSaid : Prop := fnExactFewestForThreeRow.holds Try.pinned (OpenSpec.ofChange fnExactFewestForThreeSpec)

/-- ITS FALSE NEIGHBOUR: 'it returns false'. Refute it at one input. -/
def fnExactFewestForThreeWrong : ChangeSpec := { name := "fnExactFewestForThree", fn := fun _ => fun
  | [d] => { results := [.lit (.bool false)], args := [d] }
  | _ => none }
def FnExactFewestForThreeWrongFalsely : Prop := fnExactFewestForThreeRow.holds Try.pinned (OpenSpec.ofChange fnExactFewestForThreeWrong)

/-- 'laws.FnSignsOfShares': WHATEVER THE INPUT: true; the input reads as it did. -/
def fnSignsOfSharesSpec : ChangeSpec := { name := "fnSignsOfShares", fn := fun _ => fun
  | [d1, d2] => { results := [.lit (.bool true)], args := [d1, d2] }
  | _ => none }
def fnSignsOfSharesRow : OpenClaim := { program := "ytaiocplkhhlndaa", sum := "0f5b1a180a603434bd11198c8492fc7a44e5ac7d781f2e35a69bc54a6847666b", func := "loop.example/g01160/laws.FnSignsOfShares", spec := "fnSignsOfShares", inPlace := ["internal/bytealg.IndexByteString"], unfollowed := true, recurses := true, apart := false }
def FnSignsOfSharesSaid : Prop := fnSignsOfSharesRow.holds Try.pinned (OpenSpec.ofChange fnSignsOfSharesSpec)

/-- ITS FALSE NEIGHBOUR: 'it returns false'. Refute it at one input. -/
def fnSignsOfSharesWrong : ChangeSpec := { name := "fnSignsOfShares", fn := fun _ => fun
  | [d1, d2] => { results := [.lit (.bool false)], args := [d1, d2] }
  | _ => none }
def FnSignsOfSharesWrongFalsely : Prop := fnSignsOfSharesRow.holds Try.pinned (OpenSpec.ofChange fnSignsOfSharesWrong)

/-- 'laws.FnHalfWindows': WHATEVER THE INPUT: true; the input reads as it did. -/
def fnHalfWindowsSpec : ChangeSpec := { name := "fnHalfWindows", fn := fun _ => fun
  | [d1, d2] => { results := [.lit (.bool true)], args := [d1, d2] }
  | _ => none }
def fnHalfWindowsRow : OpenClaim := { program := "ytaiocplkhhlndaa", sum := "0f5b1a180a603434bd11198c8492fc7a44e5ac7d781f2e35a69bc54a6847666b", func := "loop.example/g01160/laws.FnHalfWindows", spec := "fnHalfWindows", inPlace := ["internal/bytealg.IndexByteString", "maps.clone"], unfollowed := true, recurses := true, apart := false }
def FnHalfWindowsSaid : Prop := fnHalfWindowsRow.holds Try.pinned (OpenSpec.ofChange fnHalfWindowsSpec)

/-- ITS FALSE NEIGHBOUR: 'it returns false'. Refute it at one input. -/
def fnHalfWindowsWrong : ChangeSpec := { name := "fnHalfWindows", fn := fun _ => fun
  | [d1, d2] => { results := [.lit (.bool false)], args := [d1, d2] }
  | _ => none }
def FnHalfWindowsWrongFalsely : Prop := fnHalfWindowsRow.holds Try.pinned (OpenSpec.ofChange fnHalfWindowsWrong)

/- THE SECOND FORM. 'bulk': how many values and letters a reading holds, each counted each time it is reached (what is shared counts as often as it is met; a slice's spare places count too). A statement '..UptoSaid' is the law's where the arguments, and the package variables that the reading takes, are together of bulk at most 1048576: NARROWER than '..Said'. Prove '..Said' where nothing that the law and all that it calls make is longer than what came in: it says more and counts as full. Else prove '..UptoSaid'. A law counts once. -/
mutual
def uptoBulk {H : Type} : DataW H → Nat
  | .lit (.string bytes) => bytes.length + 1
  | .lit _ => 1
  | .nil => 1
  | .ptr d => uptoBulk d + 1
  | .slice elems spare => uptoBulkAll elems + uptoBulkAll spare + 1
  | .agg parts => uptoBulkAll parts + 1
  | .iface _ d => uptoBulk d + 1
  | .map entries => uptoBulkEntries entries + 1
  | .held _ => 1
def uptoBulkAll {H : Type} : List (DataW H) → Nat
  | [] => 0
  | d :: r => uptoBulk d + uptoBulkAll r
def uptoBulkEntries {H : Type} : List (Lit × DataW H) → Nat
  | [] => 0
  | x :: r => uptoBulkEntry x + uptoBulkEntries r
def uptoBulkEntry {H : Type} : Lit × DataW H → Nat
  | (.string bytes, d) => bytes.length + uptoBulk d + 1
  | (_, d) => uptoBulk d + 1
 end
def uptoSmall : (H : Type) → List (DataW H) → Bool := fun _ ds => decide (uptoBulkAll ds ≤ 1048576)
def OpenSpec.upto (s : _root_.Go.ChangeSpec) : _root_.Go.OpenSpec := { _root_.Go.OpenSpec.ofChange s with cond := some uptoSmall }

/-- 'laws.FnExactReverseBeads', WHERE WHAT IT READS IS OF BULK AT MOST 1048576: true; the input reads as it did. -/
def fnExactReverseBeadsUptoRow : OpenClaim := { program := "ytaiocplkhhlndaa", sum := "0f5b1a180a603434bd11198c8492fc7a44e5ac7d781f2e35a69bc54a6847666b", func := "loop.example/g01160/laws.FnExactReverseBeads", spec := "fnExactReverseBeads", inPlace := ["internal/bytealg.IndexByteString"], apart := false, narrowed := true }
def FnExactReverseBeadsUptoSaid : Prop := fnExactReverseBeadsUptoRow.holds Try.pinned (OpenSpec.upto fnExactReverseBeadsSpec)

/-- 'laws.FnExactRenameBeads', WHERE WHAT IT READS IS OF BULK AT MOST 1048576: true; the input reads as it did. -/
def fnExactRenameBeadsUptoRow : OpenClaim := { program := "ytaiocplkhhlndaa", sum := "0f5b1a180a603434bd11198c8492fc7a44e5ac7d781f2e35a69bc54a6847666b", func := "loop.example/g01160/laws.FnExactRenameBeads", spec := "fnExactRenameBeads", inPlace := ["internal/bytealg.IndexByteString"], unfollowed := true, recurses := true, apart := false, narrowed := true }
def FnExactRenameBeadsUptoSaid : Prop := fnExactRenameBeadsUptoRow.holds Try.pinned (OpenSpec.upto fnExactRenameBeadsSpec)

/-- 'laws.FnExactSortedBeads', WHERE WHAT IT READS IS OF BULK AT MOST 1048576: true; the input reads as it did. -/
def fnExactSortedBeadsUptoRow : OpenClaim := { program := "ytaiocplkhhlndaa", sum := "0f5b1a180a603434bd11198c8492fc7a44e5ac7d781f2e35a69bc54a6847666b", func := "loop.example/g01160/laws.FnExactSortedBeads", spec := "fnExactSortedBeads", inPlace := ["internal/abi.NoEscape", "internal/bytealg.MakeNoZero"], unfollowed := true, recurses := true, apart := false, narrowed := true }
def FnExactSortedBeadsUptoSaid : Prop := fnExactSortedBeadsUptoRow.holds Try.pinned (OpenSpec.upto fnExactSortedBeadsSpec)

/-- 'laws.FnExactFewestForThree', WHERE WHAT IT READS IS OF BULK AT MOST 1048576: true; the input reads as it did. -/
def fnExactFewestForThreeUptoRow : OpenClaim := { program := "ytaiocplkhhlndaa", sum := "0f5b1a180a603434bd11198c8492fc7a44e5ac7d781f2e35a69bc54a6847666b", func := "loop.example/g01160/laws.FnExactFewestForThree", spec := "fnExactFewestForThree", inPlace := ["internal/bytealg.IndexByteString", "maps.clone"], recurses := true, apart := false, narrowed := true }
def FnExactFewestForThreeUptoSaid : Prop := fnExactFewestForThreeUptoRow.holds Try.pinned (OpenSpec.upto fnExactFewestForThreeSpec)

/-- 'laws.FnSignsOfShares', WHERE WHAT IT READS IS OF BULK AT MOST 1048576: true; the input reads as it did. -/
def fnSignsOfSharesUptoRow : OpenClaim := { program := "ytaiocplkhhlndaa", sum := "0f5b1a180a603434bd11198c8492fc7a44e5ac7d781f2e35a69bc54a6847666b", func := "loop.example/g01160/laws.FnSignsOfShares", spec := "fnSignsOfShares", inPlace := ["internal/bytealg.IndexByteString"], unfollowed := true, recurses := true, apart := false, narrowed := true }
def FnSignsOfSharesUptoSaid : Prop := fnSignsOfSharesUptoRow.holds Try.pinned (OpenSpec.upto fnSignsOfSharesSpec)

/-- 'laws.FnHalfWindows', WHERE WHAT IT READS IS OF BULK AT MOST 1048576: true; the input reads as it did. -/
def fnHalfWindowsUptoRow : OpenClaim := { program := "ytaiocplkhhlndaa", sum := "0f5b1a180a603434bd11198c8492fc7a44e5ac7d781f2e35a69bc54a6847666b", func := "loop.example/g01160/laws.FnHalfWindows", spec := "fnHalfWindows", inPlace := ["internal/bytealg.IndexByteString", "maps.clone"], unfollowed := true, recurses := true, apart := false, narrowed := true }
def FnHalfWindowsUptoSaid : Prop := fnHalfWindowsUptoRow.holds Try.pinned (OpenSpec.upto fnHalfWindowsSpec)

end Rows
end Go.Proofs.Ytaiocplkhhlndaa
