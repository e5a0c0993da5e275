import Derived.Test.YtlkgmnmnlfaopaaS5
import Derived.Test.YtlkgmnmnlfaopaaS2
namespace Go.Proofs.Ytlkgmnmnlfaopaa
open Go.RowKit
set_option maxRecDepth 4000
set_option maxHeartbeats 800000 in
theorem mappedOf_bad (n : Int) (hn : ¬ (1 ≤ n ∧ n ≤ 5)) (im : List (List Int)) (a : Option Addr) (cap : Nat) (w : World) :
    Calls Try.prog 96 #[.int .i64 n, .slice a im.length cap] w fun e w' => e = .returned (.tuple #[.agg zeroM, .bool false]) ∧ Below w.heap.size w w' := by
  have HN := Lib.hid hn
  have hb0 := balloc (Below.refl w.heap.size w) (.cells zeroM 87)
  have hz0 : (w.alloc (.cells zeroM 87)).heap.size = w.heap.size + 1 := by simp
  have hg0 := heap_alloc_new w (.cells zeroM 87)
  clear hn
  go_enter Try.func96, Try.ntmps96
  go_wp2_with (with_reducible refine alloc_blk zeroM run_alloc_map rfl rfl ?_)
  refine (mappedMeshOf_no n HN.out _).mono ?_
  rintro e w1 ⟨rfl, hb1⟩
  have hg1 := (hb1.block w.heap.size (by omega)).trans hg0
  have hB1 := bnext hb0 hb1
  have hz1 := hb1.size
  rw [hz0] at hz1
  clear hb1 hb0 hg0 hz0
  have hg2 : (w1.alloc (.cells #[.int .i64 n] 75)).heap[w.heap.size]? = some (.cells zeroM 87 (0, 0)) := (Below.heap_alloc w1 _ _ (by omega)).trans hg1
  have hB2 := balloc hB1 (.cells #[.int .i64 n] 75)
  go_wp2_with (first | (with_reducible refine build0_blk zeroM run_build0_map rfl rfl ?_) | ((with_reducible refine store_blk blkM rfl _ _ rfl (w.heap.size) (zeroM) (zeroM) ?_ ?_ hg2 (zeroM_size) (zeroM_size) (zeroM_one) (w.heap.size) (by omega) ?_); exact rfl; exact rfl; intro w6 hg6 hb6 _ _))
  exact bodyPost_ret (results_blk blkM rfl _ _ (w.heap.size) _ _ rfl rfl hg6 zeroM_size) rfl ⟨rfl, hB2.trans hb6⟩
theorem mappedOf_yes (n : Nat) (h1 : 1 ≤ n) (h2 : n ≤ 5) (im : List (List Int)) (hy : imB n im = true) (a : Option Addr) (cap : Nat) (w : World) (h : RdSS w w.heap.size a im) :
    Calls Try.prog 96 #[.int .i64 n, .slice a im.length cap] w fun e w' => e = .returned (.tuple #[.agg (mapA n im), .bool true]) ∧ Below w.heap.size w w' := by
  have := mappedOf_side n h1 h2 im a cap w h
  rwa [mapR, hy, if_pos rfl] at this
theorem mappedOf_fail (n : Int) (im : List (List Int)) (hno : imgB n im = false) (a : Option Addr) (cap : Nat) (w : World) (h : RdSS w w.heap.size a im) :
    Calls Try.prog 96 #[.int .i64 n, .slice a im.length cap] w fun e w' => e = .returned (.tuple #[.agg zeroM, .bool false]) ∧ Below w.heap.size w w' := by
  by_cases hn : 1 ≤ n ∧ n ≤ 5
  · obtain ⟨n, rfl⟩ := Int.eq_ofNat_of_zero_le (show 0 ≤ n by omega)
    rw [imgB_nat n (by omega) (by omega)] at hno
    have := mappedOf_side n (by omega) (by omega) im a cap w h
    rwa [mapR, hno, if_neg (by simp)] at this
  · exact mappedOf_bad n hn im a cap w
theorem fxGood_yes (n : Nat) (h1 : 1 ≤ n) (h2 : n ≤ 5) (im : List (List Int)) (hy : imB n im = true) (a : Option Addr) (cap B : Nat) (w : World) (h : RdSS w B a im) :
    Calls Try.prog 93 #[.int .i64 n, .slice a im.length cap] w fun e w' => e = .returned (.bool true) ∧ Same w w' := by
  have := fxGood_side n h1 h2 im a cap B w h
  rwa [hy] at this
theorem fxGood_no (n : Int) (im : List (List Int)) (hy : imgB n im = false) (a : Option Addr) (cap B : Nat) (w : World) (h : RdSS w B a im) :
    Calls Try.prog 93 #[.int .i64 n, .slice a im.length cap] w fun e w' => e = .returned (.bool false) ∧ Same w w' := by
  have := fxGood_any n im a cap B w h
  rwa [hy] at this
end Go.Proofs.Ytlkgmnmnlfaopaa
