import Derived.Test.YtngadmjpjpmeoaaBd
namespace Go.Proofs.Ytngadmjpjpmeoaa
open Go.RowKit
set_option maxHeartbeats 400000 in
theorem meSide_yes (n : Nat) (h1 : 1 ≤ n) (h2 : n ≤ 8) (w : World) :
    Calls Try.prog 70 #[.int .i64 n] w fun e w' => e = .returned (.bool true) ∧ w = w' := by
  go_enter Try.func70, Try.ntmps70
  go_wp2_with go_in
  go_ret
  exact ⟨ret_bool (by simp; omega), rfl⟩
set_option maxHeartbeats 400000 in
theorem specBorderOf_yes (n : Nat) (h1 : 1 ≤ n) (h2 : n ≤ 8) (w : World) :
    Calls Try.prog 49 #[.int .i64 n] w (Gives w 3 (bor n (3 * n)) true) := by
  go_enter Try.func49, Try.ntmps49
  go_wp2_with fail
  refine (meSide_yes n h1 h2 _).mono ?_
  rintro e w' ⟨rfl, rfl⟩
  go_wp2_with fail
  refine (meBorder_any n h2 _).mono ?_
  rintro e w1 ⟨v, rfl, ho, hb⟩
  obtain ⟨-, a, cap, b, rfl, -, -⟩ := own_shape ho
  go_wp2_with fail
  go_ret2
  exact ⟨_, rfl, ho, hb⟩
set_option maxHeartbeats 400000 in
theorem specBorderOf_no (n : Int) (h : ¬ (1 ≤ n ∧ n ≤ 8)) (w : World) :
    Calls Try.prog 49 #[.int .i64 n] w (Gives w 3 [] false) := by
  by_cases h1 : 1 ≤ n
  · have h2 : ¬ n ≤ 8 := fun h2 => h ⟨h1, h2⟩
    clear h
    go_enter Try.func49, Try.ntmps49
    go_wp2_with go_in
    go_ret2
    exact gives_none (Below.refl _ _)
  · clear h
    go_enter Try.func49, Try.ntmps49
    go_wp2_with go_in
    go_ret2
    exact gives_none (Below.refl _ _)
set_option maxHeartbeats 400000 in
theorem implBorderOf_yes (n : Nat) (h1 : 1 ≤ n) (h2 : n ≤ 8) (w : World) :
    Calls Try.prog 25 #[.int .i64 n] w (Gives w 3 (bor n (3 * n)) true) := by
  go_enter Try.func25, Try.ntmps25
  go_wp2_with fail
  refine (meshOf_yes n h1 h2 _).mono ?_
  rintro e w1 ⟨rfl, hb1⟩
  go_wp2_with fail
  refine (border_any n h1 h2 _).mono ?_
  rintro e w2 ⟨v, rfl, ho, hb2⟩
  obtain ⟨-, a, cap, b, rfl, -, -⟩ := own_shape ho
  go_wp2_with fail
  go_ret2
  have hB := balloc hb1 (.cells #[.int .i64 n] 62)
  exact ⟨_, rfl, own_base ho hB.size, bnext hB hb2⟩
set_option maxHeartbeats 400000 in
theorem implBorderOf_no (n : Int) (h : ¬ (1 ≤ n ∧ n ≤ 8)) (w : World) :
    Calls Try.prog 25 #[.int .i64 n] w (Gives w 3 [] false) := by
  go_enter Try.func25, Try.ntmps25
  go_wp2_with fail
  refine (meshOf_no n h _).mono ?_
  rintro e w1 ⟨rfl, hb1⟩
  go_wp2_with fail
  go_ret2
  exact gives_none (balloc hb1 _)
end Go.Proofs.Ytngadmjpjpmeoaa
