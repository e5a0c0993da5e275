import Derived.Test.YtgbfpmfennmebaaUs
namespace Go.Proofs.Ytgbfpmfennmebaa
open Go.RowKit
set_option maxRecDepth 4000
/-- The points of a cell of the list, and that both sides call it an up cell alike. -/
def cp (n k t : Nat) : Nat := ((ci n).flatten.getD (k * 3 + t) 0).toNat
theorem ci_up : ∀ n, n < 9 → (ci n).length = n * n ∧ ∀ k, k < (ci n).length → (ci n).getD k [] = [(cp n k 0 : Int), (cp n k 1 : Int), (cp n k 2 : Int)] ∧
    (ci n).flatten.getD (k * 3) 0 = (cp n k 0 : Int) ∧ (ci n).flatten.getD (k * 3 + 1) 0 = (cp n k 1 : Int) ∧ (ci n).flatten.getD (k * 3 + 2) 0 = (cp n k 2 : Int) ∧ cp n k 0 < 45 ∧ cp n k 1 < 45 ∧ cp n k 2 < 45 ∧
    upI n (cp n k 0) (cp n k 1) (cp n k 2) = upS n [cp n k 0, cp n k 1, cp n k 2] := by decide +kernel
theorem sqW (n : Nat) (h2 : n ≤ 8) : wrap64 ((n : Int) * (n : Int)) = ((n * n : Nat) : Int) := by
  have : n * n ≤ 8 * 8 := Nat.mul_le_mul h2 h2
  rw [IntWalk.wrap64_in _ ⟨by have : (0:Int) ≤ (n:Int) * (n:Int) := Int.mul_nonneg (by omega) (by omega); omega, by have : ((n * n : Nat) : Int) = (n:Int) * (n:Int) := Int.natCast_mul n n; omega⟩]
  exact (Int.natCast_mul n n).symm
end Go.Proofs.Ytgbfpmfennmebaa
