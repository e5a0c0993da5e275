import Derived.Test.YtcahecohjmahaaaDoorZa
namespace Go.Proofs.YtcahecohjmahaaaDoor
open Go.RowKit
set_option maxRecDepth 4000
theorem cells_keep {w w' : World} {base : Nat} {v : Value} {cs : List (List Int)} (h : CellsV w base v cs) (hk : ∀ k, base ≤ k → w'.heap[k]? = w.heap[k]?) : CellsV w' base v cs := by
  obtain ⟨vs, h1, h2, h3⟩ := h
  exact ⟨vs, own_keep h1 (fun k hk' => hk k (h1.lt k hk').1), fun i hi => own_keep (h2 i hi) (fun k hk' => hk k ((h2 i hi).lt k hk').1), h3⟩
end Go.Proofs.YtcahecohjmahaaaDoor
