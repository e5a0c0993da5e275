import Derived.Test.YtgblcohgnagpcaaZe
import Derived.Test.YtgblcohgnagpcaaLt
namespace Go.Proofs.Ytgblcohgnagpcaa
open Go.RowKit
set_option maxRecDepth 4000
theorem ci_pos : ∀ n, n < 9 → 1 ≤ n → 0 < (ci n).length := by decide +kernel
theorem ci_thr : ∀ n, n < 9 → (ci n).length ≤ 1000 ∧ ∀ k, k < (ci n).length → (ci n).getD k [] = [(ci n).flatten.getD (k * 3) 0, (ci n).flatten.getD (k * 3 + 1) 0, (ci n).flatten.getD (k * 3 + 2) 0] := by decide +kernel
set_option maxHeartbeats 800000 in
theorem impl_cells (n : Nat) (h1 : 1 ≤ n) (h2 : n ≤ 8) (w : World) :
    Calls Try.prog 26 #[.int .i64 n] w fun e w' => ∃ v, e = .returned (.tuple #[v, .bool true]) ∧ CellsV w' w.heap.size v (ci n) ∧ Below w.heap.size w w' := by
  have HT := Lib.hid (ci_thr n (by omega))
  have hp := ci_pos n (by omega) h1
  go_enter Try.func26, Try.ntmps26
  go_wp2_with fail
  refine (meshOf_yes n h1 h2 _).mono ?_
  rintro e w1 ⟨rfl, hb1⟩
  have hB1 := balloc hb1 (.cells #[.int .i64 n] 44)
  go_wp2_with fail
  refine (cells_any n h1 h2 _).mono ?_
  rintro e w2 ⟨v, rfl, hc2, hb2⟩
  obtain ⟨-, a, cap, b, rfl, -⟩ := trio_shape hc2
  have hB2 := bnext hB1 hb2
  go_wp2_with fail
  refine (lists3_v (ci n) _ _ w2 hc2 hp HT.out.2 (by have := HT.out.1; omega)).mono ?_
  rintro e w3 ⟨v, rfl, hc3, hb3⟩
  obtain ⟨sa, sn, sc, rfl⟩ := cells_shape hc3
  go_wp2_with fail
  go_ret2
  exact ⟨_, rfl, cells_base hc3 hB2.size, bnext hB2 hb3⟩
end Go.Proofs.Ytgblcohgnagpcaa
