import Derived.Test.YtgblcohgnagpcaaCz
import Derived.Test.YtgblcohgnagpcaaZb
import Derived.Test.YtgblcohgnagpcaaZa
namespace Go.Proofs.Ytgblcohgnagpcaa
open Go.RowKit
set_option maxRecDepth 4000
set_option maxHeartbeats 400000 in
theorem specCellsOf_yes (n : Nat) (h1 : 1 ≤ n) (h2 : n ≤ 8) (w : World) :
    Calls Try.prog 25 #[.int .i64 n] w (CGives w (ci n) true) := by
  have he := Lib.hid (ci_eq n (by omega) h1)
  go_enter Try.func25, Try.ntmps25
  go_wp2_with fail
  refine (meSide_yes n h1 h2 _).mono ?_
  rintro e w1 ⟨rfl, rfl⟩
  go_wp2_with fail
  refine (meCells_any n h1 h2 _).mono ?_
  rintro e w2 ⟨v, rfl, hc, hb⟩
  rw [← he.out] at hc
  obtain ⟨a, m, c, rfl⟩ := cells_shape hc
  go_wp2_with fail
  go_ret2
  exact ⟨_, rfl, hc, hb⟩
set_option maxHeartbeats 400000 in
theorem specCellsOf_no (n : Int) (h : ¬ (1 ≤ n ∧ n ≤ 8)) (w : World) :
    Calls Try.prog 25 #[.int .i64 n] w (CGives w [] false) := by
  go_enter Try.func25, Try.ntmps25
  go_wp2_with fail
  refine (meSide_no n h _).mono ?_
  rintro e w' ⟨rfl, rfl⟩
  go_wp2_with fail
  go_ret2
  exact cgives_none (Below.refl _ _)
set_option maxHeartbeats 400000 in
theorem implCellsOf_no (n : Int) (h : ¬ (1 ≤ n ∧ n ≤ 8)) (w : World) :
    Calls Try.prog 26 #[.int .i64 n] w (CGives w [] false) := by
  go_enter Try.func26, Try.ntmps26
  go_wp2_with fail
  refine (meshOf_no n h _).mono ?_
  rintro e w1 ⟨rfl, hb1⟩
  go_wp2_with fail
  go_ret2
  exact cgives_none (balloc hb1 _)
theorem ci_small : ∀ n, n < 9 → (ci n).length ≤ 100000 ∧ ∀ i, i < (ci n).length → ((ci n).getD i []).length ≤ 1000 := by decide +kernel
end Go.Proofs.Ytgblcohgnagpcaa
