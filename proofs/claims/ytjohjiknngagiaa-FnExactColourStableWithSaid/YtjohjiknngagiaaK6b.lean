import Derived.Test.YtjohjiknngagiaaK6
namespace Go.Proofs.Ytjohjiknngagiaa
open Go.RowKit
set_option maxRecDepth 4000
set_option maxHeartbeats 400000 in
theorem l1Most8 (a b : Int) (w : World) :
    Calls Try.prog 47 #[.int .i64 a, .int .i64 b] w fun e w' => e = .returned (.int .i64 (if b < a then a else b)) ∧ w = w' := by
  by_cases h : b < a
  · have H : Hid ((if b < a then a else b) = a) := Lib.hid (if_pos h)
    rw [H.out]
    go_enter Try.func47, Try.ntmps47
    go_wp2_with fail
    go_ret
    exact ⟨rfl, rfl⟩
  · have H : Hid ((if b < a then a else b) = b) := Lib.hid (if_neg h)
    rw [H.out]
    go_enter Try.func47, Try.ntmps47
    go_wp2_with fail
    go_ret
    exact ⟨rfl, rfl⟩
theorem few_if (n k : Nat) : (if (n : Int) - 2 * (k : Int) + 2 < 1 then 1 else (n : Int) - 2 * (k : Int) + 2) = ((fewK n k : Nat) : Int) := by
  unfold fewK
  split <;> split <;> omega
set_option maxHeartbeats 400000 in
theorem knFewest_any (n k : Nat) (hn : n ≤ 8) (hk : k ≤ 8) (w : World) :
    Calls Try.prog 40 #[.int .i64 n, .int .i64 k] w fun e w' => e = .returned (.int .i64 (fewK n k : Nat)) ∧ w = w' := by
  have HM := Lib.hid (l1Most8 1 ((n : Int) - 2 * (k : Int) + 2))
  rw [few_if] at HM
  go_enter Try.func40, Try.ntmps40
  go_wp2_with fail
  refine (HM.out _).mono ?_
  rintro e w' ⟨rfl, rfl⟩
  go_wp2_with fail
  go_ret
  exact ⟨rfl, rfl⟩
end Go.Proofs.Ytjohjiknngagiaa
