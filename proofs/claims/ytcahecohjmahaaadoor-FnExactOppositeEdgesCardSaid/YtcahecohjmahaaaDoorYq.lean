import Derived.Test.YtcahecohjmahaaaDoorYp
namespace Go.Proofs.YtcahecohjmahaaaDoor
open Go.RowKit
set_option maxRecDepth 4000
theorem map_take (g : Int → Int) (xs : List Int) (k : Nat) (hk : k < xs.length) : (xs.take (k + 1)).map g = (xs.take k).map g ++ [g (xs.getD k 0)] := by
  rw [List.take_add_one, List.map_append, List.getElem?_eq_getElem hk, List.getD_eq_getElem?_getD, List.getElem?_eq_getElem hk]; rfl
end Go.Proofs.YtcahecohjmahaaaDoor
