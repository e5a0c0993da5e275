import Derived.Test.YtelchpdlfedleaaS8
import Derived.Test.YtelchpdlfedleaaZe
import Derived.Test.YtelchpdlfedleaaZg
namespace Go.Proofs.Ytelchpdlfedleaa
open Go.RowKit
set_option maxRecDepth 4000
theorem blkTr : Blk 61 3 := ⟨.inr ⟨_, _, Try.underlying61⟩, by kernel_rfl⟩
theorem run_alloc_tr (w : World) : (Instr.alloc 61 true (.tuple #[])).run Try.prog w = .ok (.pointer (some ⟨w.heap.size, 0, none⟩)) (w.alloc (.cells zspot 61)) := by kernel_rfl
theorem run_build0_tr (w : World) : (Instr.build 61 #[]).run Try.prog w = .ok (.agg zspot) w := by kernel_rfl
/-- The points of a cell as they lie in memory. -/
def trA (n k : Nat) : Array Value := spA3 (cq n k 0 : Nat) (cq n k 1 : Nat) (cq n k 2 : Nat)
theorem trA_size (n k : Nat) : (trA n k).size = 3 := rfl
theorem trA_one (n k : Nat) : (trA n k).all (·.oneCell') = true := spA3_one _ _ _
theorem ci_64 (n : Nat) (h2 : n ≤ 8) : (ci n).length ≤ 64 := by
  obtain ⟨hlen, -⟩ := ci_cq n (by omega)
  rw [hlen]
  exact Nat.mul_le_mul h2 h2
set_option maxHeartbeats 800000 in
theorem cellAt_yes (n k : Nat) (h1 : 1 ≤ n) (h2 : n ≤ 8) (hk : k < (ci n).length) (w : World) :
    Calls Try.prog 81 #[.agg #[.int .i64 n], .int .i64 k] w fun e w' => e = .returned (.tuple #[.agg (trA n k), .bool true]) ∧ Below w.heap.size w w' := by
  obtain ⟨-, hall⟩ := ci_cq n (by omega)
  obtain ⟨-, hx, hy, hz, -, -, -⟩ := hall k hk
  have h64 := ci_64 n h2
  have HX := Lib.hid hx
  have HY := Lib.hid hy
  have HZ := Lib.hid hz
  obtain ⟨w2, hw2⟩ : ∃ w2, w2 = (w.alloc (.cells #[.int .i64 n] 48)).alloc (.cells #[.int .i64 0, .int .i64 0, .int .i64 0] 61) := ⟨_, rfl⟩
  have hb2 : Below w.heap.size w w2 := by rw [hw2]; exact balloc (balloc (Below.refl _ _) _) _
  have hz2 : w2.heap.size = w.heap.size + 2 := by rw [hw2]; simp
  have hg2 : w2.heap[w.heap.size + 1]? = some (.cells zspot 61 (0, 0)) := by
    rw [hw2]
    have e := heap_alloc_new (w.alloc (.cells #[.int .i64 n] 48)) (.cells #[.int .i64 0, .int .i64 0, .int .i64 0] 61)
    rw [World.size_alloc] at e
    exact e
  have HW2 := Lib.hid hw2
  clear hall hx hy hz hw2
  have hki : (k : Int) < ((ci n).length : Int) := by omega
  have hk0 : decide ((k : Int) < 0) = false := by simp
  go_enter Try.func81, Try.ntmps81
  go_wp2_with fail
  rw [← HW2.out]
  refine (cells_any n h1 h2 _).mono ?_
  rintro e w3 ⟨v, rfl, hc3, hb3⟩
  obtain ⟨hfl, a, cap, b, rfl, hrd⟩ := trio_shape hc3
  obtain ⟨rfl, c0⟩ := hrd (k * 3) (by omega)
  have c1 := (hrd (k * 3 + 1) (by omega)).2
  have c2 := (hrd (k * 3 + 2) (by omega)).2
  rw [HX.out] at c0
  rw [HY.out] at c1
  rw [HZ.out] at c2
  have hg3 := (hb3.block (w.heap.size + 1) (by omega)).trans hg2
  have hB3 := hb2.trans (hb3.mono (by omega))
  clear hb3 hrd hfl hc3 hg2
  go_wp2_with ((with_reducible refine store_blk blkTr rfl _ _ rfl (w.heap.size + 1) (trA n k) (zspot) ?_ ?_ hg3 (zspot_size) (trA_size _ _) (trA_one _ _) (w.heap.size) (by omega) ?_); exact rfl; exact rfl; intro w4 hg4 hb4 hk4 hz4)
  exact bodyPost_ret (results_blk blkTr rfl _ _ (w.heap.size + 1) (trA n k) _ rfl rfl hg4 (trA_size _ _)) rfl ⟨rfl, hB3.trans hb4⟩
set_option maxHeartbeats 800000 in
theorem cellAt_no (n : Nat) (k : Int) (h1 : 1 ≤ n) (h2 : n ≤ 8) (hk : ¬ (0 ≤ k ∧ k < ((ci n).length : Nat))) (w : World) :
    Calls Try.prog 81 #[.agg #[.int .i64 n], .int .i64 k] w fun e w' => e = .returned (.tuple #[.agg zspot, .bool false]) ∧ Below w.heap.size w w' := by
  have h64 := ci_64 n h2
  obtain ⟨w2, hw2⟩ : ∃ w2, w2 = (w.alloc (.cells #[.int .i64 n] 48)).alloc (.cells #[.int .i64 0, .int .i64 0, .int .i64 0] 61) := ⟨_, rfl⟩
  have hb2 : Below w.heap.size w w2 := by rw [hw2]; exact balloc (balloc (Below.refl _ _) _) _
  have hz2 : w2.heap.size = w.heap.size + 2 := by rw [hw2]; simp
  have hg2 : w2.heap[w.heap.size + 1]? = some (.cells zspot 61 (0, 0)) := by
    rw [hw2]
    have e := heap_alloc_new (w.alloc (.cells #[.int .i64 n] 48)) (.cells #[.int .i64 0, .int .i64 0, .int .i64 0] 61)
    rw [World.size_alloc] at e
    exact e
  have HW2 := Lib.hid hw2
  clear hw2
  by_cases hk0 : k < 0
  · have hkd : decide (k < 0) = true := by simpa using hk0
    clear hk
    go_enter Try.func81, Try.ntmps81
    go_wp2_with fail
    rw [← HW2.out]
    refine (cells_any n h1 h2 _).mono ?_
    rintro e w3 ⟨v, rfl, hc3, hb3⟩
    obtain ⟨hfl, a, cap, b, rfl, -⟩ := trio_shape hc3
    have hg3 := (hb3.block (w.heap.size + 1) (by omega)).trans hg2
    have hB3 := hb2.trans (hb3.mono (by omega))
    clear hb3 hfl hc3 hg2
    go_wp2_with (first | (with_reducible refine build0_blk zspot run_build0_tr rfl rfl ?_) | ((with_reducible refine store_blk blkTr rfl _ _ rfl (w.heap.size + 1) (zspot) (zspot) ?_ ?_ hg3 (zspot_size) (zspot_size) (zspot_one) (w.heap.size) (by omega) ?_); exact rfl; exact rfl; intro w4 hg4 hb4 hk4 hz4))
    exact bodyPost_ret (results_blk blkTr rfl _ _ (w.heap.size + 1) zspot _ rfl rfl hg4 zspot_size) rfl ⟨rfl, hB3.trans hb4⟩
  · have hkd : decide (k < 0) = false := by simpa using hk0
    have hk1 : ((ci n).length : Int) ≤ k := by omega
    clear hk
    go_enter Try.func81, Try.ntmps81
    go_wp2_with fail
    rw [← HW2.out]
    refine (cells_any n h1 h2 _).mono ?_
    rintro e w3 ⟨v, rfl, hc3, hb3⟩
    obtain ⟨hfl, a, cap, b, rfl, -⟩ := trio_shape hc3
    have hg3 := (hb3.block (w.heap.size + 1) (by omega)).trans hg2
    have hB3 := hb2.trans (hb3.mono (by omega))
    clear hb3 hfl hc3 hg2
    go_wp2_with (first | (with_reducible refine build0_blk zspot run_build0_tr rfl rfl ?_) | ((with_reducible refine store_blk blkTr rfl _ _ rfl (w.heap.size + 1) (zspot) (zspot) ?_ ?_ hg3 (zspot_size) (zspot_size) (zspot_one) (w.heap.size) (by omega) ?_); exact rfl; exact rfl; intro w4 hg4 hb4 hk4 hz4))
    exact bodyPost_ret (results_blk blkTr rfl _ _ (w.heap.size + 1) zspot _ rfl rfl hg4 zspot_size) rfl ⟨rfl, hB3.trans hb4⟩
end Go.Proofs.Ytelchpdlfedleaa
