import Derived.Test.YtgblcohgnagpcaaS16t
import Derived.Test.YtgblcohgnagpcaaZb
namespace Go.Proofs.Ytgblcohgnagpcaa
open Go.RowKit
set_option maxRecDepth 4000
theorem lists3_v (cs : List (List Int)) (base : Nat) (v : Value) (w : World) (hc : TrioV w base v cs) (h0 : 0 < cs.length) (hA : Thr cs) (hl : cs.length ≤ 100000) :
    Calls Try.prog 54 #[v] w fun e w' => ∃ v, e = .returned v ∧ CellsV w' w.heap.size v cs ∧ Below w.heap.size w w' := by
  obtain ⟨hfl, a, cap, b, rfl, hrd⟩ := trio_shape hc
  obtain ⟨rfl, -⟩ := hrd 0 (by omega)
  exact lists3_trio cs b cap w (own_lt hc b rfl) hfl (fun j hj => (hrd j hj).2) hA hl
end Go.Proofs.Ytgblcohgnagpcaa
