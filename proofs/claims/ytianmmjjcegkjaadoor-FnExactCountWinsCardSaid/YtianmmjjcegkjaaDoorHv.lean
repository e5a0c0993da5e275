import Derived.Test.YtianmmjjcegkjaaDoorHd
namespace Go.Proofs.YtianmmjjcegkjaaDoor
open Go.RowKit
set_option maxRecDepth 4000
def tv (x : Int) : Int := if x = 0 then 0 else 3 - x
theorem tv_of (x : Int) (h0 : 0 ≤ x) (h2 : x ≤ 2) : (0 < x → tv x = 3 - x) ∧ (¬ 0 < x → tv x = x) := by
  unfold tv
  constructor <;> intro h <;> split <;> omega
set_option maxHeartbeats 400000 in
theorem gridColumn_any (n m k r : Nat) (h2 : 1 ≤ m) (hr : r = k % m) (w : World) :
    Calls Tryd.prog 24 #[.agg #[.int .i64 n, .int .i64 m], .int .i64 k] w fun e w' => e = .returned (.int .i64 r) ∧ Below w.heap.size w w' := by
  have e1 : Int.tmod (k : Int) (m : Int) = (r : Int) := by rw [hr]; exact (Int.ofNat_tmod k m).symm
  have hrk : r ≤ k := by rw [hr]; exact Nat.mod_le _ _
  have hm0 : (m : Int) ≠ 0 := by omega
  have hm0n : ¬ m = 0 := by omega
  clear hr
  go_enter Tryd.func24, Tryd.ntmps24
  go_wp2_with fail
  go_ret
  exact ⟨ret_int (by first | rfl | exact e1), by go_grown⟩
set_option maxHeartbeats 400000 in
theorem gridRow_any (n m k d : Nat) (h2 : 1 ≤ m) (hd : d = k / m) (hk : k ≤ 1000) (w : World) :
    Calls Tryd.prog 20 #[.agg #[.int .i64 n, .int .i64 m], .int .i64 k] w fun e w' => e = .returned (.int .i64 d) ∧ Below w.heap.size w w' := by
  have e1 : Int.tdiv (k : Int) (m : Int) = (d : Int) := by rw [hd]; exact (Int.ofNat_tdiv k m).symm
  have hdk : d ≤ k := by rw [hd]; exact Nat.div_le_self _ _
  have hm0 : (m : Int) ≠ 0 := by omega
  have hm0n : ¬ m = 0 := by omega
  clear hd
  go_enter Tryd.func20, Tryd.ntmps20
  go_wp2_with fail
  go_ret
  exact ⟨ret_int (by first | rfl | exact e1), by go_grown⟩
set_option maxHeartbeats 400000 in
theorem gridPlace_any (n m r d p j : Nat) (hp : p = m * r) (hj : j = p + d) (h : j ≤ 1000) (w : World) :
    Calls Tryd.prog 29 #[.agg #[.int .i64 n, .int .i64 m], .int .i64 r, .int .i64 d] w fun e w' => e = .returned (.int .i64 j) ∧ Below w.heap.size w w' := by
  have e3 : (m : Int) * (r : Int) = (p : Int) := by rw [hp]; exact (Int.natCast_mul m r).symm
  have e4 : wrap64 ((m : Int) * (r : Int)) = (p : Int) := by rw [e3, IntWalk.wrap64_in _ ⟨by omega, by omega⟩]
  have e5 : wrap64 ((p : Int) + (d : Int)) = (j : Int) := by rw [IntWalk.wrap64_in _ ⟨by omega, by omega⟩]; omega
  have E3 := Lib.hid e3
  have E5 : Hid ((p : Int) + (d : Int) = (j : Int)) := Lib.hid (by omega)
  clear hp hj e3
  go_enter Tryd.func29, Tryd.ntmps29
  go_wp2_with fail
  go_ret
  exact ⟨ret_int (by first | rfl | exact e5 | exact E5.out | (rw [E3.out]; exact E5.out)), by go_grown⟩
set_option maxHeartbeats 400000 in
theorem rival_any (x : Int) (h0 : 0 ≤ x) (h2 : x ≤ 2) (w : World) :
    Calls Tryd.prog 22 #[.int .i64 x] w fun e w' => e = .returned (.int .i64 (tv x)) ∧ w = w' := by
  obtain ⟨k, rfl⟩ := Int.eq_ofNat_of_zero_le h0
  match k, h2 with
  | 0, _ | 1, _ | 2, _ =>
    go_enter Tryd.func22, Tryd.ntmps22
    go_wp2_with fail
    go_ret
    exact ⟨ret_int (by decide), rfl⟩
  | k + 3, h => exact absurd h (by omega)
end Go.Proofs.YtianmmjjcegkjaaDoor
