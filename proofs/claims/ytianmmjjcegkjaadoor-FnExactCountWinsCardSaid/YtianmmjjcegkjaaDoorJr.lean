import Derived.Test.YtianmmjjcegkjaaDoorHe
import Derived.Test.YtianmmjjcegkjaaDoorJp
namespace Go.Proofs.YtianmmjjcegkjaaDoor
open Go.RowKit
set_option maxRecDepth 4000
set_option maxHeartbeats 400000 in
theorem hxCol_any (n m k r : Nat) (h2 : 1 ≤ m) (hr : r = k % m) (w : World) :
    Calls Tryd.prog 24 #[.agg #[.int .i64 n, .int .i64 m], .int .i64 k] w fun e w' => e = .returned (.int .i64 r) ∧ Below w.heap.size w w' := by
  have e1 : Int.tmod (k : Int) (m : Int) = (r : Int) := by rw [hr]; exact (Int.ofNat_tmod k m).symm
  have hrk : r ≤ k := by rw [hr]; exact Nat.mod_le _ _
  have hm0 : (m : Int) ≠ 0 := by omega
  have hm0n : ¬ m = 0 := by omega
  clear hr
  go_enter Tryd.func24, Tryd.ntmps24
  go_wp2_with fail
  go_ret
  exact ⟨ret_int (by first | rfl | exact e1), by go_grown⟩
set_option maxHeartbeats 400000 in
theorem hxRow_any (n m k d : Nat) (h2 : 1 ≤ m) (hd : d = k / m) (hk : k ≤ 1000) (w : World) :
    Calls Tryd.prog 20 #[.agg #[.int .i64 n, .int .i64 m], .int .i64 k] w fun e w' => e = .returned (.int .i64 d) ∧ Below w.heap.size w w' := by
  have e1 : Int.tdiv (k : Int) (m : Int) = (d : Int) := by rw [hd]; exact (Int.ofNat_tdiv k m).symm
  have hdk : d ≤ k := by rw [hd]; exact Nat.div_le_self _ _
  have hm0 : (m : Int) ≠ 0 := by omega
  have hm0n : ¬ m = 0 := by omega
  clear hd
  go_enter Tryd.func20, Tryd.ntmps20
  go_wp2_with fail
  go_ret
  exact ⟨ret_int (by first | rfl | exact e1), by go_grown⟩
set_option maxHeartbeats 400000 in
theorem hxPlace_any (n m : Nat) (r c : Int) (p : Int) (hp : (m : Int) * r = p) (h0 : -10000 ≤ p) (h1 : p ≤ 10000) (c0 : -10000 ≤ c) (c1 : c ≤ 10000) (w : World) :
    Calls Tryd.prog 29 #[.agg #[.int .i64 n, .int .i64 m], .int .i64 r, .int .i64 c] w fun e w' => e = .returned (.int .i64 (p + c)) ∧ Below w.heap.size w w' := by
  have e4 : wrap64 ((m : Int) * r) = p := by rw [hp, IntWalk.wrap64_in _ ⟨by omega, by omega⟩]
  have e5 : wrap64 (p + c) = p + c := by rw [IntWalk.wrap64_in _ ⟨by omega, by omega⟩]
  have E3 := Lib.hid hp
  clear hp
  go_enter Tryd.func29, Tryd.ntmps29
  go_wp2_with fail
  go_ret
  exact ⟨ret_int (by first | rfl | exact e5 | (rw [E3.out])), by go_grown⟩
set_option maxHeartbeats 800000 in
theorem hxHas_yes (n m : Nat) (r c : Int) (h : 0 ≤ r ∧ r ≤ (n : Int) - 1 ∧ 0 ≤ c ∧ c ≤ (m : Int) - 1) (w : World) :
    Calls Tryd.prog 28 #[.agg #[.int .i64 n, .int .i64 m], .int .i64 r, .int .i64 c] w fun e w' => e = .returned (.bool true) ∧ Below w.heap.size w w' := by
  obtain ⟨a, b, c0, d⟩ := h
  have b' : r < (n : Int) := by omega
  have d' : c < (m : Int) := by omega
  have d'' : decide (c < (m : Int)) = true := by simpa using d'
  clear b d
  go_enter Tryd.func28, Tryd.ntmps28
  go_wp2_with fail
  go_ret
  exact ⟨ret_bool (by first | rfl | exact d''), by go_grown⟩
set_option maxHeartbeats 800000 in
theorem hxHas_no (n m : Nat) (r c : Int) (h : ¬ (0 ≤ r ∧ r ≤ (n : Int) - 1 ∧ 0 ≤ c ∧ c ≤ (m : Int) - 1)) (w : World) :
    Calls Tryd.prog 28 #[.agg #[.int .i64 n, .int .i64 m], .int .i64 r, .int .i64 c] w fun e w' => e = .returned (.bool false) ∧ Below w.heap.size w w' := by
  by_cases a : 0 ≤ r
  · by_cases b : r < (n : Int)
    · by_cases c0 : 0 ≤ c
      · have d' : ¬ c < (m : Int) := by omega
        have d'' : decide (c < (m : Int)) = false := by simpa using d'
        clear h
        go_enter Tryd.func28, Tryd.ntmps28
        go_wp2_with fail
        go_ret
        exact ⟨ret_bool (by first | rfl | exact d''), by go_grown⟩
      · clear h
        go_enter Tryd.func28, Tryd.ntmps28
        go_wp2_with fail
        go_ret
        exact ⟨rfl, by go_grown⟩
    · clear h
      go_enter Tryd.func28, Tryd.ntmps28
      go_wp2_with fail
      go_ret
      exact ⟨rfl, by go_grown⟩
  · clear h
    go_enter Tryd.func28, Tryd.ntmps28
    go_wp2_with fail
    go_ret
    exact ⟨rfl, by go_grown⟩
end Go.Proofs.YtianmmjjcegkjaaDoor
