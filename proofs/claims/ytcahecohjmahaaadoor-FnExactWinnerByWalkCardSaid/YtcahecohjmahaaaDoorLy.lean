import Derived.Test.YtcahecohjmahaaaDoorZa
import Derived.Shelf.Slices.Reverse
import Derived.Shelf.Slices.Clone
import Derived.Ground.Names2Prog
import Derived.Lib.OwnBridge
namespace Go.Proofs.YtcahecohjmahaaaDoor
open Go.RowKit
set_option maxRecDepth 4000
def renC : Go.Shelf.Ren := ⟨fun | 15 => 154 | n => n, fun | 22 => 22 | 3 => 3 | 4 => 4 | n => n, fun | n => n⟩
theorem laysC : Go.Proofs.Lays2.n15 Tryd.prog renC := {
  mixed := by kernel_rfl
  f15 := Tryd.func154.trans (congrArg some (by kernel_rfl))
  t3 := Tryd.underlying3
  a3 := Tryd.isAgg3
  z3 := Tryd.sizeOf3
  v3 := Tryd.zeroValue3
  t4 := Tryd.underlying4
  a4 := Tryd.isAgg4
  z4 := Tryd.sizeOf4
  v4 := Tryd.zeroValue4
  t22 := Tryd.underlying22
  a22 := Tryd.isAgg22
  z22 := Tryd.sizeOf22
  v22 := Tryd.zeroValue22
  i3 := by kernel_rfl }
theorem clone_rd (xs : List Int) (b off n c : Nat) (w : World) (hn : xs.length = n) (hs : n ≤ 1000) (hc : ∀ j, j < xs.length → w.cell? ⟨b, off + j, none⟩ = some (.int .i64 (xs.getD j 0))) :
    Calls Tryd.prog 154 #[.slice (some ⟨b, off, none⟩) n c] w fun e w' => ∃ v, e = .returned v ∧ w'.ownsRow w.heap.size 3 1 v n (xs.map (Value.int .i64)) ∧ v ≠ .slice none 0 0 ∧ Below w.heap.size w w' := by
  have h := Any.slices_Clone_int laysC b off n c xs w (by omega) (by omega) hc
  refine h.mono ?_
  rintro e w' ⟨v, he, ho, hv, hb⟩
  rw [← hn, List.take_length] at ho
  exact ⟨v, he, by rw [← hn]; exact ho, hv, hb⟩
end Go.Proofs.YtcahecohjmahaaaDoor
