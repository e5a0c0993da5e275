import Derived.Test.YtcahecohjmahaaaDoorLb
import Derived.Test.YtcahecohjmahaaaDoorZa
import Derived.Test.YtcahecohjmahaaaDoorZc
import Derived.Laws.BytesArg
import Derived.Lib.SmallJoins
namespace Go.Proofs.YtcahecohjmahaaaDoor
open Go.RowKit
set_option maxRecDepth 4000
/-- A digit. -/
def dgt (x : Int) : UInt8 := UInt8.ofNat (48 + x.toNat)
theorem conv_one (c : Int) (w : World) : (convert 45 9 (.slice (some ⟨w.heap.size, 0, none⟩) 1 1)).run Tryd.prog (w.alloc (.cells #[.int .u8 c] 5)) = .ok (.string ⟨#[UInt8.ofNat c.toNat]⟩) (w.alloc (.cells #[.int .u8 c] 5)) :=
  run_convert_bytes_arg _ 45 5 Tryd.underlying45 Tryd.underlying5 w.heap.size 0 1 1 [c] rfl (fun i hi => by
    obtain rfl : i = 0 := by omega
    exact blk_cell (heap_alloc_new w _) 0 _ rfl) 9 Tryd.underlying9
theorem str_app (A B : List UInt8) : (⟨A.toArray⟩ : ByteArray) ++ ⟨B.toArray⟩ = ⟨(A ++ B).toArray⟩ := by
  have h := Go.Joins.data_append ⟨A.toArray⟩ ⟨B.toArray⟩
  cases hx : (⟨A.toArray⟩ : ByteArray) ++ ⟨B.toArray⟩ with
  | mk d =>
    rw [hx] at h
    simp only at h
    congr 1
    apply Array.ext'
    simpa using h
end Go.Proofs.YtcahecohjmahaaaDoor
