import Derived.Test.YtianmmjjcegkjaaDoorZa
namespace Go.Proofs.YtianmmjjcegkjaaDoor
open Go.RowKit
set_option maxRecDepth 4000
def lsJ (a b : Int) : Int := if a < b then a else b
theorem lsJ_nat (a b : Nat) : lsJ a b = ((min a b : Nat) : Int) := by
  unfold lsJ
  split <;> omega
set_option maxHeartbeats 400000 in
theorem l1LeastJ_any (a b : Int) (w : World) :
    Calls Tryd.prog 16 #[.int .i64 a, .int .i64 b] w fun e w' => e = .returned (.int .i64 (lsJ a b)) ∧ w = w' := by
  by_cases h : a < b
  · have H : Hid (lsJ a b = a) := Lib.hid (if_pos h)
    go_enter Tryd.func16, Tryd.ntmps16
    go_wp2_with fail
    go_ret
    exact ⟨by rw [H.out]; rfl, rfl⟩
  · have H : Hid (lsJ a b = b) := Lib.hid (if_neg h)
    go_enter Tryd.func16, Tryd.ntmps16
    go_wp2_with fail
    go_ret
    exact ⟨by rw [H.out]; rfl, rfl⟩
end Go.Proofs.YtianmmjjcegkjaaDoor
