import Derived.Test.YtelchpdlfedleaaS15
import Derived.Test.YtelchpdlfedleaaS16
namespace Go.Proofs.Ytelchpdlfedleaa
open Go.RowKit
set_option maxRecDepth 4000
theorem lists9_move (x0 x1 x2 x3 x4 x5 x6 x7 x8 : Int) (b cap : Nat) (w : World) (hg : w.heap[b]? = some (.cells (n9 x0 x1 x2 x3 x4 x5 x6 x7 x8) 65 (0, 0))) :
    Calls Try.prog 61 #[.slice (some ⟨b, 0, none⟩) 3 cap] w fun e w' => ∃ v, e = .returned v ∧ CellsV w' w.heap.size v [[x0, x1, x2], [x3, x4, x5], [x6, x7, x8]] ∧ Below w.heap.size w w' := by
  refine lists3_move [[x0, x1, x2], [x3, x4, x5], [x6, x7, x8]] b cap w (Array.getElem?_eq_some_iff.1 hg).1 rfl (fun j hj => ?_) (fun k hk => ?_) (by simp)
  · have hj9 : j < 9 := hj
    rcases (by omega : j = 0 ∨ j = 1 ∨ j = 2 ∨ j = 3 ∨ j = 4 ∨ j = 5 ∨ j = 6 ∨ j = 7 ∨ j = 8) with rfl | rfl | rfl | rfl | rfl | rfl | rfl | rfl | rfl <;> exact blk_cell hg _ _ rfl
  · have hk3 : k < 3 := hk
    rcases (by omega : k = 0 ∨ k = 1 ∨ k = 2) with rfl | rfl | rfl <;> rfl
end Go.Proofs.Ytelchpdlfedleaa
