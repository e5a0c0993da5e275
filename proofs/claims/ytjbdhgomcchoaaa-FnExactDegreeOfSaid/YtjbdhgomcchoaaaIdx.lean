import Derived.Test.YtjbdhgomcchoaaaBase
namespace Go.Proofs.Ytjbdhgomcchoaaa
open Go.RowKit
theorem TW : ∀ r : Nat, r < 9 → wrap64 ((wrap64 ((r : Int) * ((r : Int) + 1))).tdiv 2) = (Pr.T r : Nat) := by decide +kernel
theorem T_small : ∀ r : Nat, r < 9 → Pr.T r ≤ 36 := by decide
set_option maxHeartbeats 400000 in
theorem meIndex_any (n x z : Int) (b cap : Nat) (h2 : n ≤ 8) (x0 : 0 ≤ x) (x1 : x ≤ n) (z0 : 0 ≤ z) (z1 : z ≤ 8) (w : World)
    (c0 : w.cell? ⟨b, 0, none⟩ = some (.int .i64 x)) (c2 : w.cell? ⟨b, 2, none⟩ = some (.int .i64 z)) :
    Calls Try.prog 96 #[.int .i64 n, .slice (some ⟨b, 0, none⟩) 3 cap] w fun e w' => e = .returned (.int .i64 ((Pr.T (n - x).toNat : Nat) + z)) ∧ w = w' := by
  have hT := TW (n - x).toNat (by omega)
  have hS := T_small (n - x).toNat (by omega)
  rw [Int.toNat_of_nonneg (by omega)] at hT
  have HT := Lib.hid hT
  have HS := Lib.hid hS
  clear hT hS
  go_enter Try.func96, Try.ntmps96
  go_wp2
  go_ret
  refine ⟨ret_int ?_, rfl⟩
  rw [HT.out]
  have := HS.out
  exact IntWalk.wrap64_in _ ⟨by omega, by omega⟩
set_option maxHeartbeats 400000 in
theorem indexOf_any (n x y z : Int) (h2 : n ≤ 8) (x0 : 0 ≤ x) (x1 : x ≤ n) (z0 : 0 ≤ z) (z1 : z ≤ 8) (w : World) :
    Calls Try.prog 98 #[.agg #[.int .i64 n], .agg #[.int .i64 x, .int .i64 y, .int .i64 z]] w fun e w' => e = .returned (.int .i64 ((Pr.T (n - x).toNat : Nat) + z)) ∧ Below w.heap.size w w' := by
  have hT := TW (n - x).toNat (by omega)
  have hS := T_small (n - x).toNat (by omega)
  rw [Int.toNat_of_nonneg (by omega)] at hT
  have HT := Lib.hid hT
  have HS := Lib.hid hS
  clear hT hS
  go_enter Try.func98, Try.ntmps98
  go_wp2
  go_ret
  refine ⟨ret_int ?_, by go_grown⟩
  rw [HT.out]
  have := HS.out
  exact IntWalk.wrap64_in _ ⟨by omega, by omega⟩
end Go.Proofs.Ytjbdhgomcchoaaa
