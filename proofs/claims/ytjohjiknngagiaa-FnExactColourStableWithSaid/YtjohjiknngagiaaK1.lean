import Derived.Test.YtjohjiknngagiaaK0
namespace Go.Proofs.Ytjohjiknngagiaa
open Go.RowKit
set_option maxRecDepth 4000
set_option maxHeartbeats 1600000 in
theorem ones64_any (s : Nat) (hs : s < 256) (w : World) :
    Calls Try.prog 82 #[.int .u64 s] w fun e w' => e = .returned (.int .i64 (pop s : Nat)) ∧ w = w' := by
  go_enter Try.func82, Try.ntmps82
  go_wp2_with fail
  go_ret
  exact ⟨ret_int (by clear w; revert s; decide +kernel), rfl⟩
set_option maxHeartbeats 400000 in
theorem ones_any (s : Nat) (hs : s < 256) (w : World) :
    Calls Try.prog 75 #[.int .u64 s] w fun e w' => e = .returned (.int .i64 (pop s : Nat)) ∧ w = w' := by
  go_enter Try.func75, Try.ntmps75
  go_wp2_with fail
  refine (ones64_any s hs _).mono ?_
  rintro e w' ⟨rfl, rfl⟩
  go_wp2_with fail
  go_ret
  exact ⟨rfl, rfl⟩
set_option maxHeartbeats 400000 in
theorem size8_any (s : Nat) (hs : s < 256) (w : World) :
    Calls Try.prog 59 #[.int .i64 s] w fun e w' => e = .returned (.int .i64 (pop s : Nat)) ∧ w = w' := by
  have h : IntKind.u64.wrap (s : Int) = (s : Int) := by
    revert s; decide +kernel
  go_enter Try.func59, Try.ntmps59
  go_wp2_with fail
  refine (ones_any s hs _).mono ?_
  rintro e w' ⟨rfl, rfl⟩
  go_wp2_with fail
  go_ret
  exact ⟨rfl, rfl⟩
end Go.Proofs.Ytjohjiknngagiaa
