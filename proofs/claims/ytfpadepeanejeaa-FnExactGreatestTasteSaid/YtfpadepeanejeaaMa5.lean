import Derived.Test.YtfpadepeanejeaaKb
import Derived.Test.YtfpadepeanejeaaPoint
namespace Go.Proofs.Ytfpadepeanejeaa
open Go.RowKit
set_option maxRecDepth 4000
/-- The owner of a point. -/
def ownr (i : Nat) : Int := (((Pr.R i : Int) - (Pr.C i : Nat)) + 2 * (Pr.C i : Nat)) % 3
theorem ownr_bd (i : Nat) (h : i < 45) : 0 ≤ ownr i ∧ ownr i ≤ 2 := by
  have h1 := Pr.RC_bd i h
  unfold ownr
  omega
set_option maxHeartbeats 400000 in
theorem ckOwner_any (n i : Nat) (h1 : 1 ≤ n) (h2 : n ≤ 8) (hi : i < 45) (w : World) :
    Calls Try.prog 46 #[.int .i64 n, .int .i64 i] w fun e w' => e = .returned (.int .i64 (ownr i)) ∧ Below w.heap.size w w' := by
  have hb := Pr.RC_bd i hi
  have HN : Hid (ownr i = (((Pr.R i : Int) - (Pr.C i : Nat)) + 2 * (Pr.C i : Nat)) % 3) := Lib.hid rfl
  have HM := Lib.hid (fun w => meAt_any n i h1 h2 hi w)
  generalize Pr.R i = r at *
  generalize Pr.C i = c at *
  go_enter Try.func46, Try.ntmps46
  go_wp2_with fail
  refine (HM.out _).mono ?_
  rintro e w1 ⟨rfl, rfl⟩
  go_wp2_with fail
  go_quiet (fail)
  go_wp2
  go_ret
  exact ⟨ret_int (by rw [HN.out]), (balloc (Below.refl _ _) _).trans ((Same.refl _).drewN _ _)⟩
set_option maxHeartbeats 400000 in
theorem owner_any (n i : Nat) (hi : i < 45) (w : World) :
    Calls Try.prog 49 #[.agg #[.int .i64 ((n : Int) - (Pr.R i : Nat)), .int .i64 ((Pr.R i : Int) - (Pr.C i : Nat)), .int .i64 (Pr.C i : Nat)]] w fun e w' => e = .returned (.int .i64 (ownr i)) ∧ Below w.heap.size w w' := by
  have hb := Pr.RC_bd i hi
  have HN : Hid (ownr i = (((Pr.R i : Int) - (Pr.C i : Nat)) + 2 * (Pr.C i : Nat)) % 3) := Lib.hid rfl
  generalize Pr.R i = r at *
  generalize Pr.C i = c at *
  go_enter Try.func49, Try.ntmps49
  go_wp2_with fail
  go_ret
  exact ⟨ret_int (by rw [HN.out]), by go_grown⟩
end Go.Proofs.Ytfpadepeanejeaa
