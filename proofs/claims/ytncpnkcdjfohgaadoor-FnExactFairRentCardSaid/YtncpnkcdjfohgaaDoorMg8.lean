import Derived.Test.YtncpnkcdjfohgaaDoorMg6
namespace Go.Proofs.YtncpnkcdjfohgaaDoor
open Go.RowKit
set_option maxRecDepth 4000
set_option maxHeartbeats 800000 in
theorem flatLeast_any (n : Nat) (h1 : 1 ≤ n) (h2 : n ≤ 8) (ts : List (List Int)) (hy : rowsB 3 20 ts = true) (j : Nat) (hj : IsB (dlF (rnW ts n)) (6 * Pr.cnt n) j) (w : World) (hv : ShV w) :
    Calls Tryd.prog 52 #[.agg (flA n (rw9 ts))] w fun e w' => e = .returned (.agg (dA (j / 6) (j % 6) (-(dlF (rnW ts n) j)))) ∧ Below w.heap.size w w' := by
  have HL := Lib.hid (fun w hv => leastEnvy_flat n h1 h2 ts hy j hj w hv)
  have HV := Lib.hid hv
  obtain ⟨hc0, hd0⟩ := two_heap w (.cells (flA n (rw9 ts)) 72) (.cells zeroD 60)
  have hb0 := balloc (balloc (Below.refl w.heap.size w) (.cells (flA n (rw9 ts)) 72)) (.cells zeroD 60)
  have hm0 := blk_cell hc0 0 (.int .i64 n) (flA_zero n (rw9 ts))
  clear hy hj hv
  go_enter Tryd.func52, Tryd.ntmps52
  go_wp2_with (first | ((with_reducible refine alloc_blk zeroD run_alloc_deal rfl rfl ?_); simp only [World.size_alloc, Act.put, List.setIfInBounds_toArray, List.set_cons_zero, List.set_cons_succ]) | ((with_reducible refine load_blk blkFlat ?_ _ rfl (w.heap.size) ?_ (flA n (rw9 ts)) hc0 (flA_size _ _) ?_); exact rfl; exact rfl; simp only [Act.put, List.setIfInBounds_toArray, List.set_cons_zero, List.set_cons_succ]))
  refine (HL.out _ (ShV_later HV.out hb0)).mono ?_
  rintro e w1 ⟨rfl, hb1⟩
  have hB1 := hb0.trans (hb1.mono hb0.size)
  have hd1 := (hb1.block (w.heap.size + 1) (by simp)).trans hd0
  go_wp2_with ((with_reducible refine store_blk blkDeal rfl _ _ rfl (w.heap.size + 1) (dA (j / 6) (j % 6) (-(dlF (rnW ts n) j))) zeroD ?_ ?_ hd1 zeroD_size (dA_size _ _ _) (dA_one _ _ _) (w.heap.size + 1) (Nat.le_refl _) ?_); exact rfl; exact rfl; intro w7 hg7 hb7 _ _)
  exact bodyPost_ret (results_blk1 blkDeal rfl _ _ (w.heap.size + 1) _ rfl hg7 (dA_size _ _ _)) rfl ⟨rfl, hB1.trans (hb7.mono (by omega))⟩
end Go.Proofs.YtncpnkcdjfohgaaDoor
