import Derived.Test.YtfhohmahckjpeaaDoorK0
namespace Go.Proofs.YtfhohmahckjpeaaDoor
open Go.RowKit
set_option maxRecDepth 4000
set_option maxHeartbeats 1600000 in
theorem ones64_any (s : Nat) (hs : s < 256) (w : World) :
    Calls Tryd.prog 26 #[.int .u64 s] w fun e w' => e = .returned (.int .i64 (pop s : Nat)) ∧ w = w' := by
  go_enter Tryd.func26, Tryd.ntmps26
  go_wp2_with fail
  go_ret
  exact ⟨ret_int (by clear w; revert s; decide +kernel), rfl⟩
set_option maxHeartbeats 400000 in
theorem ones_any (s : Nat) (hs : s < 256) (w : World) :
    Calls Tryd.prog 22 #[.int .u64 s] w fun e w' => e = .returned (.int .i64 (pop s : Nat)) ∧ w = w' := by
  go_enter Tryd.func22, Tryd.ntmps22
  go_wp2_with fail
  refine (ones64_any s hs _).mono ?_
  rintro e w' ⟨rfl, rfl⟩
  go_wp2_with fail
  go_ret
  exact ⟨rfl, rfl⟩
set_option maxHeartbeats 400000 in
theorem size8_any (s : Nat) (hs : s < 256) (w : World) :
    Calls Tryd.prog 19 #[.int .i64 s] w fun e w' => e = .returned (.int .i64 (pop s : Nat)) ∧ w = w' := by
  have h : IntKind.u64.wrap (s : Int) = (s : Int) := by
    revert s; decide +kernel
  go_enter Tryd.func19, Tryd.ntmps19
  go_wp2_with fail
  refine (ones_any s hs _).mono ?_
  rintro e w' ⟨rfl, rfl⟩
  go_wp2_with fail
  go_ret
  exact ⟨rfl, rfl⟩
end Go.Proofs.YtfhohmahckjpeaaDoor
