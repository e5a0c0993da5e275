import Derived.LoopN
import Derived.BigRegion
import Derived.RegionTactic
import Derived.Test.YtelchpdlfedleaaS28
import Derived.Test.YtelchpdlfedleaaS20
namespace Go.Proofs.Ytelchpdlfedleaa
open Go.RowKit
set_option maxRecDepth 4000
theorem i64_nat (q : Nat) (h : q ≤ 1000) : IntKind.i64.wrap (q : Int) = q := IntWalk.i64_in _ ⟨by omega, by omega⟩
theorem blkWt : Blk 74 3 := ⟨.inr ⟨_, _, Try.underlying74⟩, by kernel_rfl⟩
theorem run_alloc_wt (w : World) : (Instr.alloc 74 true (.tuple #[])).run Try.prog w = .ok (.pointer (some ⟨w.heap.size, 0, none⟩)) (w.alloc (.cells zspot 74)) := by kernel_rfl
theorem run_build_wt (x0 x1 x2 : Int) (w : World) : (Instr.build 74 #[(0, .int .i64 x0), (1, .int .i64 x1), (2, .int .i64 x2)]).run Try.prog w = .ok (.agg (spA3 x0 x1 x2)) w := by kernel_rfl
set_option maxHeartbeats 1600000 in
theorem weights_pos (X Y Z G : Nat) (hG : G = Nat.gcd (Nat.gcd X Y) Z) (hX : X ≤ 1000) (hY : Y ≤ 1000) (hZ : Z ≤ 1000) (hX0 : 0 < X) (w : World) :
    Calls Try.prog 67 #[.agg (spA3 (X) (Y) (Z))] w fun e w' => e = .returned (.agg (spA3 ((X / G : Nat) : Int) ((Y / G : Nat) : Int) ((Z / G : Nat) : Int))) ∧ Below w.heap.size w w' := by
  have hG0 : 0 < G := by rw [hG]; exact Nat.gcd_pos_of_pos_left _ (Nat.gcd_pos_of_pos_left _ hX0)
  have hG1 : G ≤ 1000 := by rw [hG]; exact gcd_le6 _ _ (gcd_le6 _ _ hX hY) hZ
  obtain ⟨g0, g1⟩ := heap2 w (.cells (spA3 (X) (Y) (Z)) 71) (.cells zspot 74)
  have hb0 := balloc (balloc (Below.refl w.heap.size w) (.cells (spA3 (X) (Y) (Z)) 71)) (.cells zspot 74)
  have hz0 : ((w.alloc (.cells (spA3 (X) (Y) (Z)) 71)).alloc (.cells zspot 74)).heap.size = w.heap.size + 2 := by simp
  have HD := Lib.hid (divisor_pos X Y Z hX hY hZ w.heap.size 3 _ (blk_cell g0 0 _ rfl) (blk_cell g0 1 _ rfl) (blk_cell g0 2 _ rfl))
  rw [← hG] at HD
  have hqX : X / G ≤ 1000 := Nat.le_trans (Nat.div_le_self _ _) hX
  have hqY : Y / G ≤ 1000 := Nat.le_trans (Nat.div_le_self _ _) hY
  have hqZ : Z / G ≤ 1000 := Nat.le_trans (Nat.div_le_self _ _) hZ
  have hwX : IntKind.i64.wrap ((X : Int) / (G : Int)) = ((X / G : Nat) : Int) := by rw [show ((X : Int) / (G : Int)) = ((X / G : Nat) : Int) from rfl]; exact i64_nat _ hqX
  have hwY : IntKind.i64.wrap ((Y : Int) / (G : Int)) = ((Y / G : Nat) : Int) := by rw [show ((Y : Int) / (G : Int)) = ((Y / G : Nat) : Int) from rfl]; exact i64_nat _ hqY
  have hwZ : IntKind.i64.wrap ((Z : Int) / (G : Int)) = ((Z / G : Nat) : Int) := by rw [show ((Z : Int) / (G : Int)) = ((Z / G : Nat) : Int) from rfl]; exact i64_nat _ hqZ
  have hGn : ¬ G = 0 := by omega
  generalize X / G = qX at *
  generalize Y / G = qY at *
  generalize Z / G = qZ at *
  have hbd := run_build_wt (qX : Nat) (qY : Nat) (qZ : Nat)
  have hgi : (0 : Int) < (G : Int) := by omega
  clear hG
  go_enter Try.func67, Try.ntmps67
  go_wp2_with ((with_reducible refine alloc_blk zspot run_alloc_wt rfl rfl ?_); simp only [World.size_alloc, Act.put, List.setIfInBounds_toArray, List.set_cons_zero, List.set_cons_succ])
  refine HD.out.mono ?_
  rintro e w2 ⟨rfl, hs⟩
  have hB2 := hb0.trans (hs _)
  have G0 := (hs _).block w.heap.size (Nat.lt_succ_self _) |>.trans g0
  have G1 := (hs _).block (w.heap.size + 1) (Nat.lt_succ_self _) |>.trans g1
  clear g0 g1 hb0 hs hz0 HD
  go_wp2_with fail
  refine wp_region_mix (fun w' => w'.heap[w.heap.size]? = some (.cells (spA3 (X) (Y) (Z)) 71 (0, 0))) [13] [0, 1, 2, 3, 4, 5, 6, 7, 8, 9, 10, 11, 12, 13] (by kernel_rfl) (by kernel_rfl) (fun _ _ d _ _ h => by cases d <;> exact h) (by kernel_rfl) rfl G0 ?_
  refine mix_take 0 _ ?_ rfl rfl rfl (some 6) rfl (fun w' hw' => ?hv0) ?_
  case hv0 =>
    go_simp
    with_reducible rfl
  simp only [Act.put, List.setIfInBounds_toArray, List.set_cons_zero, List.set_cons_succ]
  refine mix_take 1 _ ?_ rfl rfl rfl (some 7) rfl (fun w' hw' => ?hv1) ?_
  case hv1 =>
    have s0 := blk_cell (w := w') hw' 0 (.int .i64 (X)) rfl
    go_simp
    with_reducible rfl
  simp only [Act.put, List.setIfInBounds_toArray, List.set_cons_zero, List.set_cons_succ]
  refine mix_take 2 _ ?_ rfl rfl rfl (some 8) rfl (fun w' hw' => ?hv2) ?_
  case hv2 =>
    go_simp
    with_reducible rfl
  simp only [Act.put, List.setIfInBounds_toArray, List.set_cons_zero, List.set_cons_succ]
  refine mix_take 3 _ ?_ rfl rfl rfl (some 9) rfl (fun w' hw' => ?hv3) ?_
  case hv3 =>
    go_simp
    with_reducible rfl
  simp only [Act.put, List.setIfInBounds_toArray, List.set_cons_zero, List.set_cons_succ]
  refine mix_take 4 _ ?_ rfl rfl rfl (some 10) rfl (fun w' hw' => ?hv4) ?_
  case hv4 =>
    go_simp
    with_reducible rfl
  simp only [Act.put, List.setIfInBounds_toArray, List.set_cons_zero, List.set_cons_succ]
  refine mix_take 5 _ ?_ rfl rfl rfl (some 11) rfl (fun w' hw' => ?hv5) ?_
  case hv5 =>
    have s0 := blk_cell (w := w') hw' 1 (.int .i64 (Y)) rfl
    go_simp
    with_reducible rfl
  simp only [Act.put, List.setIfInBounds_toArray, List.set_cons_zero, List.set_cons_succ]
  refine mix_take 6 _ ?_ rfl rfl rfl (some 12) rfl (fun w' hw' => ?hv6) ?_
  case hv6 =>
    go_simp
    with_reducible rfl
  simp only [Act.put, List.setIfInBounds_toArray, List.set_cons_zero, List.set_cons_succ]
  refine mix_take 7 _ ?_ rfl rfl rfl (some 13) rfl (fun w' hw' => ?hv7) ?_
  case hv7 =>
    go_simp
    with_reducible rfl
  simp only [Act.put, List.setIfInBounds_toArray, List.set_cons_zero, List.set_cons_succ]
  refine mix_take 8 _ ?_ rfl rfl rfl (some 14) rfl (fun w' hw' => ?hv8) ?_
  case hv8 =>
    go_simp
    with_reducible rfl
  simp only [Act.put, List.setIfInBounds_toArray, List.set_cons_zero, List.set_cons_succ]
  refine mix_take 9 _ ?_ rfl rfl rfl (some 15) rfl (fun w' hw' => ?hv9) ?_
  case hv9 =>
    have s0 := blk_cell (w := w') hw' 2 (.int .i64 (Z)) rfl
    go_simp
    with_reducible rfl
  simp only [Act.put, List.setIfInBounds_toArray, List.set_cons_zero, List.set_cons_succ]
  refine mix_take 10 _ ?_ rfl rfl rfl (some 16) rfl (fun w' hw' => ?hv10) ?_
  case hv10 =>
    go_simp
    with_reducible rfl
  simp only [Act.put, List.setIfInBounds_toArray, List.set_cons_zero, List.set_cons_succ]
  refine mix_take 11 _ ?_ rfl rfl rfl (some 17) rfl (fun w' hw' => ?hv11) ?_
  case hv11 =>
    go_simp
    with_reducible rfl
  simp only [Act.put, List.setIfInBounds_toArray, List.set_cons_zero, List.set_cons_succ]
  refine mix_take 12 _ (.agg (spA3 (qX : Nat) (qY : Nat) (qZ : Nat))) rfl rfl rfl (some 18) rfl (fun w' hw' => exec_build3 74 0 1 2 _ _ _ rfl (.int .i64 (qX : Nat)) (.int .i64 (qY : Nat)) (.int .i64 (qZ : Nat)) rfl rfl rfl _ (hbd w')) ?_
  simp only [Act.put, List.setIfInBounds_toArray, List.set_cons_zero, List.set_cons_succ]
  refine mix_store_blk blkWt 13 _ rfl rfl rfl _ _ rfl none rfl (w.heap.size + 1) (spA3 (qX : Nat) (qY : Nat) (qZ : Nat)) zspot rfl rfl G1 rfl rfl (spA3_one _ _ _) w.heap.size (by omega) (fun w6 hg6 hb6 hk6 hz6 => ⟨(hk6 _ (by omega)).trans G0, ?_⟩)
  simp only [Act.put]
  refine mix_done ?_
  go_wp2_with fail
  exact bodyPost_ret (results_blk1 blkWt rfl _ _ (w.heap.size + 1) _ rfl hg6 rfl) rfl ⟨rfl, (hB2.drew).trans hb6⟩
set_option maxHeartbeats 1600000 in
theorem weights_neg (X Y Z G : Nat) (hG : G = Nat.gcd (Nat.gcd X Y) Z) (hX : X ≤ 1000) (hY : Y ≤ 1000) (hZ : Z ≤ 1000) (hX0 : 0 < X) (w : World) :
    Calls Try.prog 67 #[.agg (spA3 (-(X : Int)) (-(Y : Int)) (-(Z : Int)))] w fun e w' => e = .returned (.agg (spA3 ((X / G : Nat) : Int) ((Y / G : Nat) : Int) ((Z / G : Nat) : Int))) ∧ Below w.heap.size w w' := by
  have hG0 : 0 < G := by rw [hG]; exact Nat.gcd_pos_of_pos_left _ (Nat.gcd_pos_of_pos_left _ hX0)
  have hG1 : G ≤ 1000 := by rw [hG]; exact gcd_le6 _ _ (gcd_le6 _ _ hX hY) hZ
  obtain ⟨g0, g1⟩ := heap2 w (.cells (spA3 (-(X : Int)) (-(Y : Int)) (-(Z : Int))) 71) (.cells zspot 74)
  have hb0 := balloc (balloc (Below.refl w.heap.size w) (.cells (spA3 (-(X : Int)) (-(Y : Int)) (-(Z : Int))) 71)) (.cells zspot 74)
  have hz0 : ((w.alloc (.cells (spA3 (-(X : Int)) (-(Y : Int)) (-(Z : Int))) 71)).alloc (.cells zspot 74)).heap.size = w.heap.size + 2 := by simp
  have HD := Lib.hid (divisor_neg X Y Z hX hY hZ w.heap.size 3 _ (blk_cell g0 0 _ rfl) (blk_cell g0 1 _ rfl) (blk_cell g0 2 _ rfl))
  rw [← hG] at HD
  have hqX : X / G ≤ 1000 := Nat.le_trans (Nat.div_le_self _ _) hX
  have hqY : Y / G ≤ 1000 := Nat.le_trans (Nat.div_le_self _ _) hY
  have hqZ : Z / G ≤ 1000 := Nat.le_trans (Nat.div_le_self _ _) hZ
  have hwX : IntKind.i64.wrap ((X : Int) / (G : Int)) = ((X / G : Nat) : Int) := by rw [show ((X : Int) / (G : Int)) = ((X / G : Nat) : Int) from rfl]; exact i64_nat _ hqX
  have hwY : IntKind.i64.wrap ((Y : Int) / (G : Int)) = ((Y / G : Nat) : Int) := by rw [show ((Y : Int) / (G : Int)) = ((Y / G : Nat) : Int) from rfl]; exact i64_nat _ hqY
  have hwZ : IntKind.i64.wrap ((Z : Int) / (G : Int)) = ((Z / G : Nat) : Int) := by rw [show ((Z : Int) / (G : Int)) = ((Z / G : Nat) : Int) from rfl]; exact i64_nat _ hqZ
  have hGn : ¬ G = 0 := by omega
  generalize X / G = qX at *
  generalize Y / G = qY at *
  generalize Z / G = qZ at *
  have hbd := run_build_wt (qX : Nat) (qY : Nat) (qZ : Nat)
  have hgi : (0 : Int) < (G : Int) := by omega
  clear hG
  go_enter Try.func67, Try.ntmps67
  go_wp2_with ((with_reducible refine alloc_blk zspot run_alloc_wt rfl rfl ?_); simp only [World.size_alloc, Act.put, List.setIfInBounds_toArray, List.set_cons_zero, List.set_cons_succ])
  refine HD.out.mono ?_
  rintro e w2 ⟨rfl, hs⟩
  have hB2 := hb0.trans (hs _)
  have G0 := (hs _).block w.heap.size (Nat.lt_succ_self _) |>.trans g0
  have G1 := (hs _).block (w.heap.size + 1) (Nat.lt_succ_self _) |>.trans g1
  clear g0 g1 hb0 hs hz0 HD
  go_wp2_with fail
  refine wp_region_mix (fun w' => w'.heap[w.heap.size]? = some (.cells (spA3 (-(X : Int)) (-(Y : Int)) (-(Z : Int))) 71 (0, 0))) [13] [0, 1, 2, 3, 4, 5, 6, 7, 8, 9, 10, 11, 12, 13] (by kernel_rfl) (by kernel_rfl) (fun _ _ d _ _ h => by cases d <;> exact h) (by kernel_rfl) rfl G0 ?_
  refine mix_take 0 _ ?_ rfl rfl rfl (some 6) rfl (fun w' hw' => ?hv0) ?_
  case hv0 =>
    go_simp
    with_reducible rfl
  simp only [Act.put, List.setIfInBounds_toArray, List.set_cons_zero, List.set_cons_succ]
  refine mix_take 1 _ ?_ rfl rfl rfl (some 7) rfl (fun w' hw' => ?hv1) ?_
  case hv1 =>
    have s0 := blk_cell (w := w') hw' 0 (.int .i64 (-(X : Int))) rfl
    go_simp
    with_reducible rfl
  simp only [Act.put, List.setIfInBounds_toArray, List.set_cons_zero, List.set_cons_succ]
  refine mix_take 2 _ ?_ rfl rfl rfl (some 8) rfl (fun w' hw' => ?hv2) ?_
  case hv2 =>
    go_simp
    with_reducible rfl
  simp only [Act.put, List.setIfInBounds_toArray, List.set_cons_zero, List.set_cons_succ]
  refine mix_take 3 _ ?_ rfl rfl rfl (some 9) rfl (fun w' hw' => ?hv3) ?_
  case hv3 =>
    go_simp
    with_reducible rfl
  simp only [Act.put, List.setIfInBounds_toArray, List.set_cons_zero, List.set_cons_succ]
  refine mix_take 4 _ ?_ rfl rfl rfl (some 10) rfl (fun w' hw' => ?hv4) ?_
  case hv4 =>
    go_simp
    with_reducible rfl
  simp only [Act.put, List.setIfInBounds_toArray, List.set_cons_zero, List.set_cons_succ]
  refine mix_take 5 _ ?_ rfl rfl rfl (some 11) rfl (fun w' hw' => ?hv5) ?_
  case hv5 =>
    have s0 := blk_cell (w := w') hw' 1 (.int .i64 (-(Y : Int))) rfl
    go_simp
    with_reducible rfl
  simp only [Act.put, List.setIfInBounds_toArray, List.set_cons_zero, List.set_cons_succ]
  refine mix_take 6 _ ?_ rfl rfl rfl (some 12) rfl (fun w' hw' => ?hv6) ?_
  case hv6 =>
    go_simp
    with_reducible rfl
  simp only [Act.put, List.setIfInBounds_toArray, List.set_cons_zero, List.set_cons_succ]
  refine mix_take 7 _ ?_ rfl rfl rfl (some 13) rfl (fun w' hw' => ?hv7) ?_
  case hv7 =>
    go_simp
    with_reducible rfl
  simp only [Act.put, List.setIfInBounds_toArray, List.set_cons_zero, List.set_cons_succ]
  refine mix_take 8 _ ?_ rfl rfl rfl (some 14) rfl (fun w' hw' => ?hv8) ?_
  case hv8 =>
    go_simp
    with_reducible rfl
  simp only [Act.put, List.setIfInBounds_toArray, List.set_cons_zero, List.set_cons_succ]
  refine mix_take 9 _ ?_ rfl rfl rfl (some 15) rfl (fun w' hw' => ?hv9) ?_
  case hv9 =>
    have s0 := blk_cell (w := w') hw' 2 (.int .i64 (-(Z : Int))) rfl
    go_simp
    with_reducible rfl
  simp only [Act.put, List.setIfInBounds_toArray, List.set_cons_zero, List.set_cons_succ]
  refine mix_take 10 _ ?_ rfl rfl rfl (some 16) rfl (fun w' hw' => ?hv10) ?_
  case hv10 =>
    go_simp
    with_reducible rfl
  simp only [Act.put, List.setIfInBounds_toArray, List.set_cons_zero, List.set_cons_succ]
  refine mix_take 11 _ ?_ rfl rfl rfl (some 17) rfl (fun w' hw' => ?hv11) ?_
  case hv11 =>
    go_simp
    with_reducible rfl
  simp only [Act.put, List.setIfInBounds_toArray, List.set_cons_zero, List.set_cons_succ]
  refine mix_take 12 _ (.agg (spA3 (qX : Nat) (qY : Nat) (qZ : Nat))) rfl rfl rfl (some 18) rfl (fun w' hw' => exec_build3 74 0 1 2 _ _ _ rfl (.int .i64 (qX : Nat)) (.int .i64 (qY : Nat)) (.int .i64 (qZ : Nat)) rfl rfl rfl _ (hbd w')) ?_
  simp only [Act.put, List.setIfInBounds_toArray, List.set_cons_zero, List.set_cons_succ]
  refine mix_store_blk blkWt 13 _ rfl rfl rfl _ _ rfl none rfl (w.heap.size + 1) (spA3 (qX : Nat) (qY : Nat) (qZ : Nat)) zspot rfl rfl G1 rfl rfl (spA3_one _ _ _) w.heap.size (by omega) (fun w6 hg6 hb6 hk6 hz6 => ⟨(hk6 _ (by omega)).trans G0, ?_⟩)
  simp only [Act.put]
  refine mix_done ?_
  go_wp2_with fail
  exact bodyPost_ret (results_blk1 blkWt rfl _ _ (w.heap.size + 1) _ rfl hg6 rfl) rfl ⟨rfl, (hB2.drew).trans hb6⟩
end Go.Proofs.Ytelchpdlfedleaa
