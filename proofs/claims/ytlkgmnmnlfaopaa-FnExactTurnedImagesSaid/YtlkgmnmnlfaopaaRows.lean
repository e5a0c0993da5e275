/-
  No cell of these rows narrows 'for every input' (looked for: loops, veiled, ifaces, maps, wideKeys, modest, calm, conditions, laid).
  DERIVED. THE GIVEN ROWS OF THIS SEAT. 12 by the template 'for every input the law returns true; each argument reads behind the call as it read before'; 0 by the template 'total and deterministic' (their statements: YtlkgmnmnlfaopaaTotals.lean).
  GIVEN WITH THE SEED: the statements are not yours to turn. If you find one false, say at which input.
  Laid BY PROGRAM, IN A SANDBOX (cutbox-rows.mjs): the forced cells as the released guide's own fill.sh prints them over the translation 82688d3d24e719d3… (all of the seat's roots in one cut). By AI agents, Wed Nov 11 2026. No macro, syntax, notation, axiom, sorry.
-/
import Derived.Test.YtlkgmnmnlfaopaaChecked
import GoSem.Claim
import GoSem.ClaimJoined
import GoSem.ClaimMapViews
import Derived.JoinedTies
import Derived.KernelRfl
namespace Go.Proofs.Ytlkgmnmnlfaopaa
/- THE CELL 'sum', in the pinned program and in every row, IS THE sha256 OF THE DUMP (.gsa) THAT YtlkgmnmnlfaopaaProg.lean LOADS. Nothing in Lean hashes anything: it is a label: what it is worth is what the hold of that sum in a sandbox is worth. -/
noncomputable def Try.pinned : Pinned := { name := "ytlkgmnmnlfaopaa", sum := "82688d3d24e719d374c892a6fc60bafdd1b5b10da626405a54f1026af414af17", checked := Try.checked }
namespace Rows
def none {H : Type} : Left H := { results := [], args := [] }

/-- 'laws.FnExactIsGame': WHATEVER THE INPUT: true; the input reads as it did. -/
def fnExactIsGameSpec : ChangeSpec := { name := "fnExactIsGame", fn := fun _ => fun
  | [d] => { results := [.lit (.bool true)], args := [d] }
  | _ => none }
def fnExactIsGameRow : OpenClaim := { program := "ytlkgmnmnlfaopaa", sum := "82688d3d24e719d374c892a6fc60bafdd1b5b10da626405a54f1026af414af17", func := "loop.example/g01160/laws.FnExactIsGame", spec := "fnExactIsGame", apart := false }
def FnExactIsGameSaid : Prop := fnExactIsGameRow.holds Try.pinned (OpenSpec.ofChange fnExactIsGameSpec)

/-- ITS FALSE NEIGHBOUR: 'it returns false'. Refute it at one input. -/
def fnExactIsGameWrong : ChangeSpec := { name := "fnExactIsGame", fn := fun _ => fun
  | [d] => { results := [.lit (.bool false)], args := [d] }
  | _ => none }
def FnExactIsGameWrongFalsely : Prop := fnExactIsGameRow.holds Try.pinned (OpenSpec.ofChange fnExactIsGameWrong)

/-- 'laws.FnExactAreWeights': WHATEVER THE INPUT: true; the input reads as it did. -/
def fnExactAreWeightsSpec : ChangeSpec := { name := "fnExactAreWeights", fn := fun _ => fun
  | [d1, d2] => { results := [.lit (.bool true)], args := [d1, d2] }
  | _ => none }
def fnExactAreWeightsRow : OpenClaim := { program := "ytlkgmnmnlfaopaa", sum := "82688d3d24e719d374c892a6fc60bafdd1b5b10da626405a54f1026af414af17", func := "loop.example/g01160/laws.FnExactAreWeights", spec := "fnExactAreWeights", apart := false }
def FnExactAreWeightsSaid : Prop := fnExactAreWeightsRow.holds Try.pinned (OpenSpec.ofChange fnExactAreWeightsSpec)

/-- ITS FALSE NEIGHBOUR: 'it returns false'. Refute it at one input. -/
def fnExactAreWeightsWrong : ChangeSpec := { name := "fnExactAreWeights", fn := fun _ => fun
  | [d1, d2] => { results := [.lit (.bool false)], args := [d1, d2] }
  | _ => none }
def FnExactAreWeightsWrongFalsely : Prop := fnExactAreWeightsRow.holds Try.pinned (OpenSpec.ofChange fnExactAreWeightsWrong)

/-- 'laws.FnExactRowReplies': WHATEVER THE INPUT: true; the input reads as it did. -/
def fnExactRowRepliesSpec : ChangeSpec := { name := "fnExactRowReplies", fn := fun _ => fun
  | [d1, d2] => { results := [.lit (.bool true)], args := [d1, d2] }
  | _ => none }
def fnExactRowRepliesRow : OpenClaim := { program := "ytlkgmnmnlfaopaa", sum := "82688d3d24e719d374c892a6fc60bafdd1b5b10da626405a54f1026af414af17", func := "loop.example/g01160/laws.FnExactRowReplies", spec := "fnExactRowReplies", apart := false }
def FnExactRowRepliesSaid : Prop := fnExactRowRepliesRow.holds Try.pinned (OpenSpec.ofChange fnExactRowRepliesSpec)

/-- ITS FALSE NEIGHBOUR: 'it returns false'. Refute it at one input. -/
def fnExactRowRepliesWrong : ChangeSpec := { name := "fnExactRowReplies", fn := fun _ => fun
  | [d1, d2] => { results := [.lit (.bool false)], args := [d1, d2] }
  | _ => none }
def FnExactRowRepliesWrongFalsely : Prop := fnExactRowRepliesRow.holds Try.pinned (OpenSpec.ofChange fnExactRowRepliesWrong)

/-- 'laws.FnExactColumnReplies': WHATEVER THE INPUT: true; the input reads as it did. -/
def fnExactColumnRepliesSpec : ChangeSpec := { name := "fnExactColumnReplies", fn := fun _ => fun
  | [d1, d2] => { results := [.lit (.bool true)], args := [d1, d2] }
  | _ => none }
def fnExactColumnRepliesRow : OpenClaim := { program := "ytlkgmnmnlfaopaa", sum := "82688d3d24e719d374c892a6fc60bafdd1b5b10da626405a54f1026af414af17", func := "loop.example/g01160/laws.FnExactColumnReplies", spec := "fnExactColumnReplies", unfollowed := true, recurses := true, apart := false }
def FnExactColumnRepliesSaid : Prop := fnExactColumnRepliesRow.holds Try.pinned (OpenSpec.ofChange fnExactColumnRepliesSpec)

/-- ITS FALSE NEIGHBOUR: 'it returns false'. Refute it at one input. -/
def fnExactColumnRepliesWrong : ChangeSpec := { name := "fnExactColumnReplies", fn := fun _ => fun
  | [d1, d2] => { results := [.lit (.bool false)], args := [d1, d2] }
  | _ => none }
def FnExactColumnRepliesWrongFalsely : Prop := fnExactColumnRepliesRow.holds Try.pinned (OpenSpec.ofChange fnExactColumnRepliesWrong)

/-- 'laws.FnExactPayOf': WHATEVER THE INPUT: true; the input reads as it did. -/
def fnExactPayOfSpec : ChangeSpec := { name := "fnExactPayOf", fn := fun _ => fun
  | [d1, d2, d3] => { results := [.lit (.bool true)], args := [d1, d2, d3] }
  | _ => none }
def fnExactPayOfRow : OpenClaim := { program := "ytlkgmnmnlfaopaa", sum := "82688d3d24e719d374c892a6fc60bafdd1b5b10da626405a54f1026af414af17", func := "loop.example/g01160/laws.FnExactPayOf", spec := "fnExactPayOf", unfollowed := true, recurses := true, apart := false }
def FnExactPayOfSaid : Prop := fnExactPayOfRow.holds Try.pinned (OpenSpec.ofChange fnExactPayOfSpec)

/-- ITS FALSE NEIGHBOUR: 'it returns false'. Refute it at one input. -/
def fnExactPayOfWrong : ChangeSpec := { name := "fnExactPayOf", fn := fun _ => fun
  | [d1, d2, d3] => { results := [.lit (.bool false)], args := [d1, d2, d3] }
  | _ => none }
def FnExactPayOfWrongFalsely : Prop := fnExactPayOfRow.holds Try.pinned (OpenSpec.ofChange fnExactPayOfWrong)

/-- 'laws.FnExactIsEquilibrium': WHATEVER THE INPUT: true; the input reads as it did. -/
def fnExactIsEquilibriumSpec : ChangeSpec := { name := "fnExactIsEquilibrium", fn := fun _ => fun
  | [d1, d2, d3] => { results := [.lit (.bool true)], args := [d1, d2, d3] }
  | _ => none }
def fnExactIsEquilibriumRow : OpenClaim := { program := "ytlkgmnmnlfaopaa", sum := "82688d3d24e719d374c892a6fc60bafdd1b5b10da626405a54f1026af414af17", func := "loop.example/g01160/laws.FnExactIsEquilibrium", spec := "fnExactIsEquilibrium", unfollowed := true, recurses := true, apart := false }
def FnExactIsEquilibriumSaid : Prop := fnExactIsEquilibriumRow.holds Try.pinned (OpenSpec.ofChange fnExactIsEquilibriumSpec)

/-- ITS FALSE NEIGHBOUR: 'it returns false'. Refute it at one input. -/
def fnExactIsEquilibriumWrong : ChangeSpec := { name := "fnExactIsEquilibrium", fn := fun _ => fun
  | [d1, d2, d3] => { results := [.lit (.bool false)], args := [d1, d2, d3] }
  | _ => none }
def FnExactIsEquilibriumWrongFalsely : Prop := fnExactIsEquilibriumRow.holds Try.pinned (OpenSpec.ofChange fnExactIsEquilibriumWrong)

/-- 'laws.FnExactPureEquilibria': WHATEVER THE INPUT: true; the input reads as it did. -/
def fnExactPureEquilibriaSpec : ChangeSpec := { name := "fnExactPureEquilibria", fn := fun _ => fun
  | [d] => { results := [.lit (.bool true)], args := [d] }
  | _ => none }
def fnExactPureEquilibriaRow : OpenClaim := { program := "ytlkgmnmnlfaopaa", sum := "82688d3d24e719d374c892a6fc60bafdd1b5b10da626405a54f1026af414af17", func := "loop.example/g01160/laws.FnExactPureEquilibria", spec := "fnExactPureEquilibria", unfollowed := true, recurses := true, apart := false }
def FnExactPureEquilibriaSaid : Prop := fnExactPureEquilibriaRow.holds Try.pinned (OpenSpec.ofChange fnExactPureEquilibriaSpec)

/-- ITS FALSE NEIGHBOUR: 'it returns false'. Refute it at one input. -/
def fnExactPureEquilibriaWrong : ChangeSpec := { name := "fnExactPureEquilibria", fn := fun _ => fun
  | [d] => { results := [.lit (.bool false)], args := [d] }
  | _ => none }
def FnExactPureEquilibriaWrongFalsely : Prop := fnExactPureEquilibriaRow.holds Try.pinned (OpenSpec.ofChange fnExactPureEquilibriaWrong)

/-- 'laws.FnExactSwapPlayers': WHATEVER THE INPUT: true; the input reads as it did. -/
def fnExactSwapPlayersSpec : ChangeSpec := { name := "fnExactSwapPlayers", fn := fun _ => fun
  | [d] => { results := [.lit (.bool true)], args := [d] }
  | _ => none }
def fnExactSwapPlayersRow : OpenClaim := { program := "ytlkgmnmnlfaopaa", sum := "82688d3d24e719d374c892a6fc60bafdd1b5b10da626405a54f1026af414af17", func := "loop.example/g01160/laws.FnExactSwapPlayers", spec := "fnExactSwapPlayers", unfollowed := true, recurses := true, apart := false }
def FnExactSwapPlayersSaid : Prop := fnExactSwapPlayersRow.holds Try.pinned (OpenSpec.ofChange fnExactSwapPlayersSpec)

/-- ITS FALSE NEIGHBOUR: 'it returns false'. Refute it at one input. -/
def fnExactSwapPlayersWrong : ChangeSpec := { name := "fnExactSwapPlayers", fn := fun _ => fun
  | [d] => { results := [.lit (.bool false)], args := [d] }
  | _ => none }
def FnExactSwapPlayersWrongFalsely : Prop := fnExactSwapPlayersRow.holds Try.pinned (OpenSpec.ofChange fnExactSwapPlayersWrong)

/-- 'laws.FnExactAddToColumn': WHATEVER THE INPUT: true; the input reads as it did. -/
def fnExactAddToColumnSpec : ChangeSpec := { name := "fnExactAddToColumn", fn := fun _ => fun
  | [d1, d2, d3] => { results := [.lit (.bool true)], args := [d1, d2, d3] }
  | _ => none }
def fnExactAddToColumnRow : OpenClaim := { program := "ytlkgmnmnlfaopaa", sum := "82688d3d24e719d374c892a6fc60bafdd1b5b10da626405a54f1026af414af17", func := "loop.example/g01160/laws.FnExactAddToColumn", spec := "fnExactAddToColumn", unfollowed := true, recurses := true, apart := false }
def FnExactAddToColumnSaid : Prop := fnExactAddToColumnRow.holds Try.pinned (OpenSpec.ofChange fnExactAddToColumnSpec)

/-- ITS FALSE NEIGHBOUR: 'it returns false'. Refute it at one input. -/
def fnExactAddToColumnWrong : ChangeSpec := { name := "fnExactAddToColumn", fn := fun _ => fun
  | [d1, d2, d3] => { results := [.lit (.bool false)], args := [d1, d2, d3] }
  | _ => none }
def FnExactAddToColumnWrongFalsely : Prop := fnExactAddToColumnRow.holds Try.pinned (OpenSpec.ofChange fnExactAddToColumnWrong)

/-- 'laws.FnExactZeroSum': WHATEVER THE INPUT: true; the input reads as it did. -/
def fnExactZeroSumSpec : ChangeSpec := { name := "fnExactZeroSum", fn := fun _ => fun
  | [d] => { results := [.lit (.bool true)], args := [d] }
  | _ => none }
def fnExactZeroSumRow : OpenClaim := { program := "ytlkgmnmnlfaopaa", sum := "82688d3d24e719d374c892a6fc60bafdd1b5b10da626405a54f1026af414af17", func := "loop.example/g01160/laws.FnExactZeroSum", spec := "fnExactZeroSum", unfollowed := true, recurses := true, apart := false }
def FnExactZeroSumSaid : Prop := fnExactZeroSumRow.holds Try.pinned (OpenSpec.ofChange fnExactZeroSumSpec)

/-- ITS FALSE NEIGHBOUR: 'it returns false'. Refute it at one input. -/
def fnExactZeroSumWrong : ChangeSpec := { name := "fnExactZeroSum", fn := fun _ => fun
  | [d] => { results := [.lit (.bool false)], args := [d] }
  | _ => none }
def FnExactZeroSumWrongFalsely : Prop := fnExactZeroSumRow.holds Try.pinned (OpenSpec.ofChange fnExactZeroSumWrong)

/-- 'laws.FnExactConstantImages': WHATEVER THE INPUT: true; the input reads as it did. -/
def fnExactConstantImagesSpec : ChangeSpec := { name := "fnExactConstantImages", fn := fun _ => fun
  | [d1, d2] => { results := [.lit (.bool true)], args := [d1, d2] }
  | _ => none }
def fnExactConstantImagesRow : OpenClaim := { program := "ytlkgmnmnlfaopaa", sum := "82688d3d24e719d374c892a6fc60bafdd1b5b10da626405a54f1026af414af17", func := "loop.example/g01160/laws.FnExactConstantImages", spec := "fnExactConstantImages", unfollowed := true, recurses := true, apart := false }
def FnExactConstantImagesSaid : Prop := fnExactConstantImagesRow.holds Try.pinned (OpenSpec.ofChange fnExactConstantImagesSpec)

/-- ITS FALSE NEIGHBOUR: 'it returns false'. Refute it at one input. -/
def fnExactConstantImagesWrong : ChangeSpec := { name := "fnExactConstantImages", fn := fun _ => fun
  | [d1, d2] => { results := [.lit (.bool false)], args := [d1, d2] }
  | _ => none }
def FnExactConstantImagesWrongFalsely : Prop := fnExactConstantImagesRow.holds Try.pinned (OpenSpec.ofChange fnExactConstantImagesWrong)

/-- 'laws.FnExactTurnedImages': WHATEVER THE INPUT: true; the input reads as it did. -/
def fnExactTurnedImagesSpec : ChangeSpec := { name := "fnExactTurnedImages", fn := fun _ => fun
  | [d1, d2] => { results := [.lit (.bool true)], args := [d1, d2] }
  | _ => none }
def fnExactTurnedImagesRow : OpenClaim := { program := "ytlkgmnmnlfaopaa", sum := "82688d3d24e719d374c892a6fc60bafdd1b5b10da626405a54f1026af414af17", func := "loop.example/g01160/laws.FnExactTurnedImages", spec := "fnExactTurnedImages", unfollowed := true, recurses := true, apart := false }
def FnExactTurnedImagesSaid : Prop := fnExactTurnedImagesRow.holds Try.pinned (OpenSpec.ofChange fnExactTurnedImagesSpec)

/-- ITS FALSE NEIGHBOUR: 'it returns false'. Refute it at one input. -/
def fnExactTurnedImagesWrong : ChangeSpec := { name := "fnExactTurnedImages", fn := fun _ => fun
  | [d1, d2] => { results := [.lit (.bool false)], args := [d1, d2] }
  | _ => none }
def FnExactTurnedImagesWrongFalsely : Prop := fnExactTurnedImagesRow.holds Try.pinned (OpenSpec.ofChange fnExactTurnedImagesWrong)

/- THE SECOND FORM. 'bulk': how many values and letters a reading holds, each counted each time it is reached (what is shared counts as often as it is met; a slice's spare places count too). A statement '..UptoSaid' is the law's where the arguments, and the package variables that the reading takes, are together of bulk at most 1048576: NARROWER than '..Said'. Prove '..Said' where nothing that the law and all that it calls make is longer than what came in: it says more and counts as full. Else prove '..UptoSaid'. A law counts once. -/
mutual
def uptoBulk {H : Type} : DataW H → Nat
  | .lit (.string bytes) => bytes.length + 1
  | .lit _ => 1
  | .nil => 1
  | .ptr d => uptoBulk d + 1
  | .slice elems spare => uptoBulkAll elems + uptoBulkAll spare + 1
  | .agg parts => uptoBulkAll parts + 1
  | .iface _ d => uptoBulk d + 1
  | .map entries => uptoBulkEntries entries + 1
  | .held _ => 1
def uptoBulkAll {H : Type} : List (DataW H) → Nat
  | [] => 0
  | d :: r => uptoBulk d + uptoBulkAll r
def uptoBulkEntries {H : Type} : List (Lit × DataW H) → Nat
  | [] => 0
  | x :: r => uptoBulkEntry x + uptoBulkEntries r
def uptoBulkEntry {H : Type} : Lit × DataW H → Nat
  | (.string bytes, d) => bytes.length + uptoBulk d + 1
  | (_, d) => uptoBulk d + 1
 end
def uptoSmall : (H : Type) → List (DataW H) → Bool := fun _ ds => decide (uptoBulkAll ds ≤ 1048576)
def OpenSpec.upto (s : _root_.Go.ChangeSpec) : _root_.Go.OpenSpec := { _root_.Go.OpenSpec.ofChange s with cond := some uptoSmall }

/-- 'laws.FnExactIsGame', WHERE WHAT IT READS IS OF BULK AT MOST 1048576: true; the input reads as it did. -/
def fnExactIsGameUptoRow : OpenClaim := { program := "ytlkgmnmnlfaopaa", sum := "82688d3d24e719d374c892a6fc60bafdd1b5b10da626405a54f1026af414af17", func := "loop.example/g01160/laws.FnExactIsGame", spec := "fnExactIsGame", apart := false, narrowed := true }
def FnExactIsGameUptoSaid : Prop := fnExactIsGameUptoRow.holds Try.pinned (OpenSpec.upto fnExactIsGameSpec)

/-- 'laws.FnExactAreWeights', WHERE WHAT IT READS IS OF BULK AT MOST 1048576: true; the input reads as it did. -/
def fnExactAreWeightsUptoRow : OpenClaim := { program := "ytlkgmnmnlfaopaa", sum := "82688d3d24e719d374c892a6fc60bafdd1b5b10da626405a54f1026af414af17", func := "loop.example/g01160/laws.FnExactAreWeights", spec := "fnExactAreWeights", apart := false, narrowed := true }
def FnExactAreWeightsUptoSaid : Prop := fnExactAreWeightsUptoRow.holds Try.pinned (OpenSpec.upto fnExactAreWeightsSpec)

/-- 'laws.FnExactRowReplies', WHERE WHAT IT READS IS OF BULK AT MOST 1048576: true; the input reads as it did. -/
def fnExactRowRepliesUptoRow : OpenClaim := { program := "ytlkgmnmnlfaopaa", sum := "82688d3d24e719d374c892a6fc60bafdd1b5b10da626405a54f1026af414af17", func := "loop.example/g01160/laws.FnExactRowReplies", spec := "fnExactRowReplies", apart := false, narrowed := true }
def FnExactRowRepliesUptoSaid : Prop := fnExactRowRepliesUptoRow.holds Try.pinned (OpenSpec.upto fnExactRowRepliesSpec)

/-- 'laws.FnExactColumnReplies', WHERE WHAT IT READS IS OF BULK AT MOST 1048576: true; the input reads as it did. -/
def fnExactColumnRepliesUptoRow : OpenClaim := { program := "ytlkgmnmnlfaopaa", sum := "82688d3d24e719d374c892a6fc60bafdd1b5b10da626405a54f1026af414af17", func := "loop.example/g01160/laws.FnExactColumnReplies", spec := "fnExactColumnReplies", unfollowed := true, recurses := true, apart := false, narrowed := true }
def FnExactColumnRepliesUptoSaid : Prop := fnExactColumnRepliesUptoRow.holds Try.pinned (OpenSpec.upto fnExactColumnRepliesSpec)

/-- 'laws.FnExactPayOf', WHERE WHAT IT READS IS OF BULK AT MOST 1048576: true; the input reads as it did. -/
def fnExactPayOfUptoRow : OpenClaim := { program := "ytlkgmnmnlfaopaa", sum := "82688d3d24e719d374c892a6fc60bafdd1b5b10da626405a54f1026af414af17", func := "loop.example/g01160/laws.FnExactPayOf", spec := "fnExactPayOf", unfollowed := true, recurses := true, apart := false, narrowed := true }
def FnExactPayOfUptoSaid : Prop := fnExactPayOfUptoRow.holds Try.pinned (OpenSpec.upto fnExactPayOfSpec)

/-- 'laws.FnExactIsEquilibrium', WHERE WHAT IT READS IS OF BULK AT MOST 1048576: true; the input reads as it did. -/
def fnExactIsEquilibriumUptoRow : OpenClaim := { program := "ytlkgmnmnlfaopaa", sum := "82688d3d24e719d374c892a6fc60bafdd1b5b10da626405a54f1026af414af17", func := "loop.example/g01160/laws.FnExactIsEquilibrium", spec := "fnExactIsEquilibrium", unfollowed := true, recurses := true, apart := false, narrowed := true }
def FnExactIsEquilibriumUptoSaid : Prop := fnExactIsEquilibriumUptoRow.holds Try.pinned (OpenSpec.upto fnExactIsEquilibriumSpec)

/-- 'laws.FnExactPureEquilibria', WHERE WHAT IT READS IS OF BULK AT MOST 1048576: true; the input reads as it did. -/
def fnExactPureEquilibriaUptoRow : OpenClaim := { program := "ytlkgmnmnlfaopaa", sum := "82688d3d24e719d374c892a6fc60bafdd1b5b10da626405a54f1026af414af17", func := "loop.example/g01160/laws.FnExactPureEquilibria", spec := "fnExactPureEquilibria", unfollowed := true, recurses := true, apart := false, narrowed := true }
def FnExactPureEquilibriaUptoSaid : Prop := fnExactPureEquilibriaUptoRow.holds Try.pinned (OpenSpec.upto fnExactPureEquilibriaSpec)

/-- 'laws.FnExactSwapPlayers', WHERE WHAT IT READS IS OF BULK AT MOST 1048576: true; the input reads as it did. -/
def fnExactSwapPlayersUptoRow : OpenClaim := { program := "ytlkgmnmnlfaopaa", sum := "82688d3d24e719d374c892a6fc60bafdd1b5b10da626405a54f1026af414af17", func := "loop.example/g01160/laws.FnExactSwapPlayers", spec := "fnExactSwapPlayers", unfollowed := true, recurses := true, apart := false, narrowed := true }
def FnExactSwapPlayersUptoSaid : Prop := fnExactSwapPlayersUptoRow.holds Try.pinned (OpenSpec.upto fnExactSwapPlayersSpec)

/-- 'laws.FnExactAddToColumn', WHERE WHAT IT READS IS OF BULK AT MOST 1048576: true; the input reads as it did. -/
def fnExactAddToColumnUptoRow : OpenClaim := { program := "ytlkgmnmnlfaopaa", sum := "82688d3d24e719d374c892a6fc60bafdd1b5b10da626405a54f1026af414af17", func := "loop.example/g01160/laws.FnExactAddToColumn", spec := "fnExactAddToColumn", unfollowed := true, recurses := true, apart := false, narrowed := true }
def FnExactAddToColumnUptoSaid : Prop := fnExactAddToColumnUptoRow.holds Try.pinned (OpenSpec.upto fnExactAddToColumnSpec)

/-- 'laws.FnExactZeroSum', WHERE WHAT IT READS IS OF BULK AT MOST 1048576: true; the input reads as it did. -/
def fnExactZeroSumUptoRow : OpenClaim := { program := "ytlkgmnmnlfaopaa", sum := "82688d3d24e719d374c892a6fc60bafdd1b5b10da626405a54f1026af414af17", func := "loop.example/g01160/laws.FnExactZeroSum", spec := "fnExactZeroSum", unfollowed := true, recurses := true, apart := false, narrowed := true }
def FnExactZeroSumUptoSaid : Prop := fnExactZeroSumUptoRow.holds Try.pinned (OpenSpec.upto fnExactZeroSumSpec)

/-- 'laws.FnExactConstantImages', WHERE WHAT IT READS IS OF BULK AT MOST 1048576: true; the input reads as it did. -/
def fnExactConstantImagesUptoRow : OpenClaim := { program := "ytlkgmnmnlfaopaa", sum := "82688d3d24e719d374c892a6fc60bafdd1b5b10da626405a54f1026af414af17", func := "loop.example/g01160/laws.FnExactConstantImages", spec := "fnExactConstantImages", unfollowed := true, recurses := true, apart := false, narrowed := true }
def FnExactConstantImagesUptoSaid : Prop := fnExactConstantImagesUptoRow.holds Try.pinned (OpenSpec.upto fnExactConstantImagesSpec)

/-- 'laws.FnExactTurnedImages', WHERE WHAT IT READS IS OF BULK AT MOST 1048576: true; the input reads as it did. -/
def fnExactTurnedImagesUptoRow : OpenClaim := { program := "ytlkgmnmnlfaopaa", sum := "82688d3d24e719d374c892a6fc60bafdd1b5b10da626405a54f1026af414af17", func := "loop.example/g01160/laws.FnExactTurnedImages", spec := "fnExactTurnedImages", unfollowed := true, recurses := true, apart := false, narrowed := true }
def FnExactTurnedImagesUptoSaid : Prop := fnExactTurnedImagesUptoRow.holds Try.pinned (OpenSpec.upto fnExactTurnedImagesSpec)

end Rows
end Go.Proofs.Ytlkgmnmnlfaopaa
