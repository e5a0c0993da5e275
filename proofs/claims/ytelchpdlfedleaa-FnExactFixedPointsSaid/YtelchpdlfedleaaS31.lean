import Derived.Test.YtelchpdlfedleaaS29
import Derived.Test.YtelchpdlfedleaaS30
namespace Go.Proofs.Ytelchpdlfedleaa
open Go.RowKit
set_option maxRecDepth 4000
theorem hasV_one {x y z : Int} (h : hasV x y z = 1) : 0 < x ∧ 0 < y ∧ 0 < z := by
  unfold hasV at h
  by_cases a1 : 0 < x ∧ 0 < y ∧ 0 < z
  · exact a1
  · rw [if_neg a1] at h
    split at h
    · cases h
    · split at h <;> cases h
theorem hasV_neg {x y z : Int} (h : hasV x y z = -1) : x < 0 ∧ y < 0 ∧ z < 0 := by
  unfold hasV at h
  by_cases a1 : 0 < x ∧ 0 < y ∧ 0 < z
  · rw [if_pos a1] at h; cases h
  · rw [if_neg a1] at h
    by_cases a2 : x < 0 ∧ y < 0 ∧ z < 0
    · exact a2
    · rw [if_neg a2] at h
      split at h <;> cases h
def wtA3 (X Y Z : Nat) : Array Value := spA3 ((X / Nat.gcd (Nat.gcd X Y) Z : Nat) : Int) ((Y / Nat.gcd (Nat.gcd X Y) Z : Nat) : Int) ((Z / Nat.gcd (Nat.gcd X Y) Z : Nat) : Int)
/-- The weights of a cell as they lie in memory. -/
def wtA (im : List (List Int)) (n k : Nat) : Array Value := wtA3 (ar im n (cq n k 1) (cq n k 2)).natAbs (ar im n (cq n k 2) (cq n k 0)).natAbs (ar im n (cq n k 0) (cq n k 1)).natAbs
theorem wtA_size (im : List (List Int)) (n k : Nat) : (wtA im n k).size = 3 := rfl
theorem wtA_one (im : List (List Int)) (n k : Nat) : (wtA im n k).all (·.oneCell') = true := spA3_one _ _ _
theorem wtA_list (im : List (List Int)) (n k : Nat) : (wtA im n k).toList = (wtK im n k).map (Value.int .i64) := rfl
theorem wtK_len (im : List (List Int)) (n k : Nat) : (wtK im n k).length = 3 := rfl
theorem weights_three (x y z : Int) (hx : -450 ≤ x ∧ x ≤ 450) (hy : -450 ≤ y ∧ y ≤ 450) (hz : -450 ≤ z ∧ z ≤ 450) (h : hasV x y z = 1 ∨ hasV x y z = -1) (w : World) :
    Calls Try.prog 67 #[.agg (spA3 x y z)] w fun e w' => e = .returned (.agg (wtA3 x.natAbs y.natAbs z.natAbs)) ∧ Below w.heap.size w w' := by
  rcases h with h | h
  · obtain ⟨h1, h2, h3⟩ := hasV_one h
    have := weights_pos x.natAbs y.natAbs z.natAbs _ rfl (by omega) (by omega) (by omega) (by omega) w
    rwa [show ((x.natAbs : Nat) : Int) = x by omega, show ((y.natAbs : Nat) : Int) = y by omega, show ((z.natAbs : Nat) : Int) = z by omega] at this
  · obtain ⟨h1, h2, h3⟩ := hasV_neg h
    have := weights_neg x.natAbs y.natAbs z.natAbs _ rfl (by omega) (by omega) (by omega) (by omega) w
    rwa [show -((x.natAbs : Nat) : Int) = x by omega, show -((y.natAbs : Nat) : Int) = y by omega, show -((z.natAbs : Nat) : Int) = z by omega] at this
theorem weights_cell (n k : Nat) (h2 : n ≤ 5) (hk : k < (ci n).length) (im : List (List Int)) (hy : imB n im = true) (hg : agK im n k = true) (w : World) :
    Calls Try.prog 67 #[.agg (arK im n k)] w fun e w' => e = .returned (.agg (wtA im n k)) ∧ Below w.heap.size w w' := by
  have hp := cl_lt n k (by omega) hk 0 (by omega)
  have hq := cl_lt n k (by omega) hk 1 (by omega)
  have hr := cl_lt n k (by omega) hk 2 (by omega)
  exact weights_three _ _ _ (ar_bd hy h2 _ _ hq hr) (ar_bd hy h2 _ _ hr hp) (ar_bd hy h2 _ _ hp hq) (show hasK im n k = 1 ∨ hasK im n k = -1 by simpa [agK] using hg) w
end Go.Proofs.Ytelchpdlfedleaa
