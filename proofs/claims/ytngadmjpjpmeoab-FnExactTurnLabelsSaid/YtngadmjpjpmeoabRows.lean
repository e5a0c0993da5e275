/-
  No cell of these rows narrows 'for every input' (looked for: loops, veiled, ifaces, maps, wideKeys, modest, calm, conditions, laid).
  DERIVED. THE GIVEN ROWS OF THIS SEAT. 5 by the template 'for every input the law returns true; each argument reads behind the call as it read before'; 0 by the template 'total and deterministic' (their statements: YtngadmjpjpmeoabTotals.lean).
  GIVEN WITH THE SEED: the statements are not yours to turn. If you find one false, say at which input.
  Laid BY PROGRAM, IN A SANDBOX (cutbox-rows.mjs): the forced cells as the released guide's own fill.sh prints them over the translation 771e2fd4f0f48a78… (all of the seat's roots in one cut). By AI agents, Wed Nov 11 2026. No macro, syntax, notation, axiom, sorry.
-/
import Derived.Test.YtngadmjpjpmeoabChecked
import GoSem.Claim
import GoSem.ClaimJoined
import GoSem.ClaimMapViews
import Derived.JoinedTies
import Derived.KernelRfl
namespace Go.Proofs.Ytngadmjpjpmeoab
/- THE CELL 'sum', in the pinned program and in every row, IS THE sha256 OF THE DUMP (.gsa) THAT YtngadmjpjpmeoabProg.lean LOADS. Nothing in Lean hashes anything: it is a label: what it is worth is what the hold of that sum in a sandbox is worth. -/
noncomputable def Try.pinned : Pinned := { name := "ytngadmjpjpmeoab", sum := "771e2fd4f0f48a782ba74d6be64138bd2f991d7e1ff9594bf40fc9d2b0aec1e0", checked := Try.checked }
namespace Rows
def none {H : Type} : Left H := { results := [], args := [] }

/-- 'laws.FnExactKeepsSides': WHATEVER THE INPUT: true; the input reads as it did. -/
def fnExactKeepsSidesSpec : ChangeSpec := { name := "fnExactKeepsSides", fn := fun _ => fun
  | [d1, d2] => { results := [.lit (.bool true)], args := [d1, d2] }
  | _ => none }
def fnExactKeepsSidesRow : OpenClaim := { program := "ytngadmjpjpmeoab", sum := "771e2fd4f0f48a782ba74d6be64138bd2f991d7e1ff9594bf40fc9d2b0aec1e0", func := "loop.example/g01160/laws.FnExactKeepsSides", spec := "fnExactKeepsSides", apart := false }
def FnExactKeepsSidesSaid : Prop := fnExactKeepsSidesRow.holds Try.pinned (OpenSpec.ofChange fnExactKeepsSidesSpec)

/-- ITS FALSE NEIGHBOUR: 'it returns false'. Refute it at one input. -/
def fnExactKeepsSidesWrong : ChangeSpec := { name := "fnExactKeepsSides", fn := fun _ => fun
  | [d1, d2] => { results := [.lit (.bool false)], args := [d1, d2] }
  | _ => none }
def FnExactKeepsSidesWrongFalsely : Prop := fnExactKeepsSidesRow.holds Try.pinned (OpenSpec.ofChange fnExactKeepsSidesWrong)

/-- 'laws.FnExactFirstBroken': WHATEVER THE INPUT: true; the input reads as it did. -/
def fnExactFirstBrokenSpec : ChangeSpec := { name := "fnExactFirstBroken", fn := fun _ => fun
  | [d1, d2] => { results := [.lit (.bool true)], args := [d1, d2] }
  | _ => none }
def fnExactFirstBrokenRow : OpenClaim := { program := "ytngadmjpjpmeoab", sum := "771e2fd4f0f48a782ba74d6be64138bd2f991d7e1ff9594bf40fc9d2b0aec1e0", func := "loop.example/g01160/laws.FnExactFirstBroken", spec := "fnExactFirstBroken", apart := false }
def FnExactFirstBrokenSaid : Prop := fnExactFirstBrokenRow.holds Try.pinned (OpenSpec.ofChange fnExactFirstBrokenSpec)

/-- ITS FALSE NEIGHBOUR: 'it returns false'. Refute it at one input. -/
def fnExactFirstBrokenWrong : ChangeSpec := { name := "fnExactFirstBroken", fn := fun _ => fun
  | [d1, d2] => { results := [.lit (.bool false)], args := [d1, d2] }
  | _ => none }
def FnExactFirstBrokenWrongFalsely : Prop := fnExactFirstBrokenRow.holds Try.pinned (OpenSpec.ofChange fnExactFirstBrokenWrong)

/-- 'laws.FnExactTurnLabels': WHATEVER THE INPUT: true; the input reads as it did. -/
def fnExactTurnLabelsSpec : ChangeSpec := { name := "fnExactTurnLabels", fn := fun _ => fun
  | [d1, d2] => { results := [.lit (.bool true)], args := [d1, d2] }
  | _ => none }
def fnExactTurnLabelsRow : OpenClaim := { program := "ytngadmjpjpmeoab", sum := "771e2fd4f0f48a782ba74d6be64138bd2f991d7e1ff9594bf40fc9d2b0aec1e0", func := "loop.example/g01160/laws.FnExactTurnLabels", spec := "fnExactTurnLabels", unfollowed := true, recurses := true, apart := false }
def FnExactTurnLabelsSaid : Prop := fnExactTurnLabelsRow.holds Try.pinned (OpenSpec.ofChange fnExactTurnLabelsSpec)

/-- ITS FALSE NEIGHBOUR: 'it returns false'. Refute it at one input. -/
def fnExactTurnLabelsWrong : ChangeSpec := { name := "fnExactTurnLabels", fn := fun _ => fun
  | [d1, d2] => { results := [.lit (.bool false)], args := [d1, d2] }
  | _ => none }
def FnExactTurnLabelsWrongFalsely : Prop := fnExactTurnLabelsRow.holds Try.pinned (OpenSpec.ofChange fnExactTurnLabelsWrong)

/-- 'laws.FnExactMirrorLabels': WHATEVER THE INPUT: true; the input reads as it did. -/
def fnExactMirrorLabelsSpec : ChangeSpec := { name := "fnExactMirrorLabels", fn := fun _ => fun
  | [d1, d2] => { results := [.lit (.bool true)], args := [d1, d2] }
  | _ => none }
def fnExactMirrorLabelsRow : OpenClaim := { program := "ytngadmjpjpmeoab", sum := "771e2fd4f0f48a782ba74d6be64138bd2f991d7e1ff9594bf40fc9d2b0aec1e0", func := "loop.example/g01160/laws.FnExactMirrorLabels", spec := "fnExactMirrorLabels", unfollowed := true, recurses := true, apart := false }
def FnExactMirrorLabelsSaid : Prop := fnExactMirrorLabelsRow.holds Try.pinned (OpenSpec.ofChange fnExactMirrorLabelsSpec)

/-- ITS FALSE NEIGHBOUR: 'it returns false'. Refute it at one input. -/
def fnExactMirrorLabelsWrong : ChangeSpec := { name := "fnExactMirrorLabels", fn := fun _ => fun
  | [d1, d2] => { results := [.lit (.bool false)], args := [d1, d2] }
  | _ => none }
def FnExactMirrorLabelsWrongFalsely : Prop := fnExactMirrorLabelsRow.holds Try.pinned (OpenSpec.ofChange fnExactMirrorLabelsWrong)

/-- 'laws.FnExactCountKeeping': WHATEVER THE INPUT: true; the input reads as it did. -/
def fnExactCountKeepingSpec : ChangeSpec := { name := "fnExactCountKeeping", fn := fun _ => fun
  | [d] => { results := [.lit (.bool true)], args := [d] }
  | _ => none }
def fnExactCountKeepingRow : OpenClaim := { program := "ytngadmjpjpmeoab", sum := "771e2fd4f0f48a782ba74d6be64138bd2f991d7e1ff9594bf40fc9d2b0aec1e0", func := "loop.example/g01160/laws.FnExactCountKeeping", spec := "fnExactCountKeeping", apart := false }
def FnExactCountKeepingSaid : Prop := fnExactCountKeepingRow.holds Try.pinned (OpenSpec.ofChange fnExactCountKeepingSpec)

/-- ITS FALSE NEIGHBOUR: 'it returns false'. Refute it at one input. -/
def fnExactCountKeepingWrong : ChangeSpec := { name := "fnExactCountKeeping", fn := fun _ => fun
  | [d] => { results := [.lit (.bool false)], args := [d] }
  | _ => none }
def FnExactCountKeepingWrongFalsely : Prop := fnExactCountKeepingRow.holds Try.pinned (OpenSpec.ofChange fnExactCountKeepingWrong)

/- THE SECOND FORM. 'bulk': how many values and letters a reading holds, each counted each time it is reached (what is shared counts as often as it is met; a slice's spare places count too). A statement '..UptoSaid' is the law's where the arguments, and the package variables that the reading takes, are together of bulk at most 1048576: NARROWER than '..Said'. Prove '..Said' where nothing that the law and all that it calls make is longer than what came in: it says more and counts as full. Else prove '..UptoSaid'. A law counts once. -/
mutual
def uptoBulk {H : Type} : DataW H → Nat
  | .lit (.string bytes) => bytes.length + 1
  | .lit _ => 1
  | .nil => 1
  | .ptr d => uptoBulk d + 1
  | .slice elems spare => uptoBulkAll elems + uptoBulkAll spare + 1
  | .agg parts => uptoBulkAll parts + 1
  | .iface _ d => uptoBulk d + 1
  | .map entries => uptoBulkEntries entries + 1
  | .held _ => 1
def uptoBulkAll {H : Type} : List (DataW H) → Nat
  | [] => 0
  | d :: r => uptoBulk d + uptoBulkAll r
def uptoBulkEntries {H : Type} : List (Lit × DataW H) → Nat
  | [] => 0
  | x :: r => uptoBulkEntry x + uptoBulkEntries r
def uptoBulkEntry {H : Type} : Lit × DataW H → Nat
  | (.string bytes, d) => bytes.length + uptoBulk d + 1
  | (_, d) => uptoBulk d + 1
 end
def uptoSmall : (H : Type) → List (DataW H) → Bool := fun _ ds => decide (uptoBulkAll ds ≤ 1048576)
def OpenSpec.upto (s : _root_.Go.ChangeSpec) : _root_.Go.OpenSpec := { _root_.Go.OpenSpec.ofChange s with cond := some uptoSmall }

/-- 'laws.FnExactKeepsSides', WHERE WHAT IT READS IS OF BULK AT MOST 1048576: true; the input reads as it did. -/
def fnExactKeepsSidesUptoRow : OpenClaim := { program := "ytngadmjpjpmeoab", sum := "771e2fd4f0f48a782ba74d6be64138bd2f991d7e1ff9594bf40fc9d2b0aec1e0", func := "loop.example/g01160/laws.FnExactKeepsSides", spec := "fnExactKeepsSides", apart := false, narrowed := true }
def FnExactKeepsSidesUptoSaid : Prop := fnExactKeepsSidesUptoRow.holds Try.pinned (OpenSpec.upto fnExactKeepsSidesSpec)

/-- 'laws.FnExactFirstBroken', WHERE WHAT IT READS IS OF BULK AT MOST 1048576: true; the input reads as it did. -/
def fnExactFirstBrokenUptoRow : OpenClaim := { program := "ytngadmjpjpmeoab", sum := "771e2fd4f0f48a782ba74d6be64138bd2f991d7e1ff9594bf40fc9d2b0aec1e0", func := "loop.example/g01160/laws.FnExactFirstBroken", spec := "fnExactFirstBroken", apart := false, narrowed := true }
def FnExactFirstBrokenUptoSaid : Prop := fnExactFirstBrokenUptoRow.holds Try.pinned (OpenSpec.upto fnExactFirstBrokenSpec)

/-- 'laws.FnExactTurnLabels', WHERE WHAT IT READS IS OF BULK AT MOST 1048576: true; the input reads as it did. -/
def fnExactTurnLabelsUptoRow : OpenClaim := { program := "ytngadmjpjpmeoab", sum := "771e2fd4f0f48a782ba74d6be64138bd2f991d7e1ff9594bf40fc9d2b0aec1e0", func := "loop.example/g01160/laws.FnExactTurnLabels", spec := "fnExactTurnLabels", unfollowed := true, recurses := true, apart := false, narrowed := true }
def FnExactTurnLabelsUptoSaid : Prop := fnExactTurnLabelsUptoRow.holds Try.pinned (OpenSpec.upto fnExactTurnLabelsSpec)

/-- 'laws.FnExactMirrorLabels', WHERE WHAT IT READS IS OF BULK AT MOST 1048576: true; the input reads as it did. -/
def fnExactMirrorLabelsUptoRow : OpenClaim := { program := "ytngadmjpjpmeoab", sum := "771e2fd4f0f48a782ba74d6be64138bd2f991d7e1ff9594bf40fc9d2b0aec1e0", func := "loop.example/g01160/laws.FnExactMirrorLabels", spec := "fnExactMirrorLabels", unfollowed := true, recurses := true, apart := false, narrowed := true }
def FnExactMirrorLabelsUptoSaid : Prop := fnExactMirrorLabelsUptoRow.holds Try.pinned (OpenSpec.upto fnExactMirrorLabelsSpec)

/-- 'laws.FnExactCountKeeping', WHERE WHAT IT READS IS OF BULK AT MOST 1048576: true; the input reads as it did. -/
def fnExactCountKeepingUptoRow : OpenClaim := { program := "ytngadmjpjpmeoab", sum := "771e2fd4f0f48a782ba74d6be64138bd2f991d7e1ff9594bf40fc9d2b0aec1e0", func := "loop.example/g01160/laws.FnExactCountKeeping", spec := "fnExactCountKeeping", apart := false, narrowed := true }
def FnExactCountKeepingUptoSaid : Prop := fnExactCountKeepingUptoRow.holds Try.pinned (OpenSpec.upto fnExactCountKeepingSpec)

end Rows
end Go.Proofs.Ytngadmjpjpmeoab
