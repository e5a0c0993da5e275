import Derived.Test.YtianmmjjcegkjaaDoorHd
import Derived.Test.YtianmmjjcegkjaaDoorLy
import Derived.Test.YtianmmjjcegkjaaDoorZc
namespace Go.Proofs.YtianmmjjcegkjaaDoor
open Go.RowKit
set_option maxRecDepth 4000
theorem blkGrid : Blk 30 2 := ⟨.inl ⟨_, Tryd.underlying30⟩, by kernel_rfl⟩
theorem blkHex : Blk 36 32 := ⟨.inl ⟨_, Tryd.underlying36⟩, by kernel_rfl⟩
/-- The cells of a board. -/
theorem hb_at (n m : Nat) (xs : List Int) (k : Nat) (hk : k < xs.length) : (hbL n m xs).toArray[2 + k]? = some (.int .i64 (xs.getD k 0)) := by
  rw [List.getElem?_toArray, hbL, show 2 + k = k + 1 + 1 by omega, List.getElem?_cons_succ, List.getElem?_cons_succ, List.getElem?_append_left (by simpa using hk)]
  simp [List.getD, hk]
end Go.Proofs.YtianmmjjcegkjaaDoor
