import Derived.Test.YtfpadepeanejeaaDoorMb4
namespace Go.Proofs.YtfpadepeanejeaaDoor
open Go.RowKit
set_option maxRecDepth 4000
def OutPiecesOf (w : World) (r0 : List Int) (r1 : Bool) (e : Ending) (w' : World) : Prop := ∃ v0, e = .returned (.tuple #[v0, .bool r1]) ∧ OI w' w.heap.size w'.heap.size v0 r0 ∧ Below w.heap.size w w'
def okC (n : Int) (ts : List (List Int)) (i : Int) : Prop := tstB n ts = true ∧ Pr.okPt n i
def okP (p : Int) : Prop := 0 ≤ p ∧ p ≤ 2
end Go.Proofs.YtfpadepeanejeaaDoor
