import Derived.Test.YtncpnkcdjfohgaaDoorKb
import Derived.Test.YtncpnkcdjfohgaaDoorPoint
namespace Go.Proofs.YtncpnkcdjfohgaaDoor
open Go.RowKit
set_option maxRecDepth 4000
/-- The owner of a point. -/
def ownr (i : Nat) : Int := (((Pr.R i : Int) - (Pr.C i : Nat)) + 2 * (Pr.C i : Nat)) % 3
theorem ownr_bd (i : Nat) (h : i < 45) : 0 ≤ ownr i ∧ ownr i ≤ 2 := by
  have h1 := Pr.RC_bd i h
  unfold ownr
  omega
set_option maxHeartbeats 400000 in
theorem owner_any (n i : Nat) (hi : i < 45) (w : World) :
    Calls Tryd.prog 97 #[.agg #[.int .i64 ((n : Int) - (Pr.R i : Nat)), .int .i64 ((Pr.R i : Int) - (Pr.C i : Nat)), .int .i64 (Pr.C i : Nat)]] w fun e w' => e = .returned (.int .i64 (ownr i)) ∧ Below w.heap.size w w' := by
  have hb := Pr.RC_bd i hi
  have HN : Hid (ownr i = (((Pr.R i : Int) - (Pr.C i : Nat)) + 2 * (Pr.C i : Nat)) % 3) := Lib.hid rfl
  generalize Pr.R i = r at *
  generalize Pr.C i = c at *
  go_enter Tryd.func97, Tryd.ntmps97
  go_wp2_with fail
  go_ret
  exact ⟨ret_int (by rw [HN.out]), by go_grown⟩
end Go.Proofs.YtncpnkcdjfohgaaDoor
