import Derived.RegionTactic
import Derived.Test.YtncpnkcdjfohgaaDoorMb6
import Derived.Test.YtncpnkcdjfohgaaDoorMb0
namespace Go.Proofs.YtncpnkcdjfohgaaDoor
open Go.RowKit
set_option maxRecDepth 4000
set_option maxHeartbeats 1600000 in
theorem favouriteAt_any (n p i : Nat) (h1 : 1 ≤ n) (h2 : n ≤ 8) (hp : p < 3) (hi : i < Pr.cnt n) (ts : List (List Int)) (hy : rowsB n 9 ts = true) (w : World) :
    Calls Tryd.prog 113 #[.agg (cakeA n ts), .agg (spA n i), .int .i64 p] w fun e w' => e = .returned (.int .i64 (favP (ts.getD p []) n i)) ∧ Below w.heap.size w w' := by
  have HO := Lib.hid (fun w => offersAt_any n i h1 h2 hi ts hy w)
  have HF := Lib.hid (fun w => favourite_any n i h1 h2 hi (ts.getD p []) w)
  have hidx := idxOff ts n i p hp
  have hp3 : (p : Int) < 3 := by omega
  obtain ⟨hg0, hg1⟩ := two_heap w (.cells (cakeA n ts) 55) (.cells (spA n i) 75)
  have hb0 := balloc (balloc (Below.refl w.heap.size w) (.cells (cakeA n ts) 55)) (.cells (spA n i) 75)
  have hz0 : ((w.alloc (.cells (cakeA n ts) 55)).alloc (.cells (spA n i) 75)).heap.size = w.heap.size + 2 := by simp
  go_enter Tryd.func113, Tryd.ntmps113
  go_wp2_with fail
  generalize (w.alloc (.cells (cakeA n ts) 55)).alloc (.cells (spA n i) 75) = w2 at hb0 hg0 hg1 hz0 ⊢
  refine wp_region_mix (fun w' => Below w2.heap.size w2 w') [3, 6] [0, 1, 2, 4, 3, 5, 6, 7] (by kernel_rfl) (by kernel_rfl) (fun _ _ d _ _ h => by cases d <;> exact h) (by kernel_rfl) rfl ((Same.refl w2).drew _) ?_
  refine mix_take 0 _ (.agg (spA n i)) rfl rfl rfl (some 7) rfl (fun w' hw' => exec_row _ _ rfl (w.heap.size + 1) rfl (spA n i) (load_ok blkSpot w' _ _ (((hw' : Below w2.heap.size w2 w').block _ (by omega)).trans hg1) (spA_size _ _))) ?_
  simp only [Act.put, List.setIfInBounds_toArray, List.set_cons_zero, List.set_cons_succ]
  refine mix_take 1 _ (.agg (cakeA n ts)) rfl rfl rfl (some 8) rfl (fun w' hw' => exec_row _ _ rfl (w.heap.size) rfl (cakeA n ts) (load_ok blkCake w' _ _ (((hw' : Below w2.heap.size w2 w').block _ (by omega)).trans hg0) (cakeA_size _ _))) ?_
  simp only [Act.put, List.setIfInBounds_toArray, List.set_cons_zero, List.set_cons_succ]
  refine mix_take 2 _ (.agg (spA n i)) rfl rfl rfl (some 9) rfl (fun w' hw' => exec_row _ _ rfl (w.heap.size + 1) rfl (spA n i) (load_ok blkSpot w' _ _ (((hw' : Below w2.heap.size w2 w').block _ (by omega)).trans hg1) (spA_size _ _))) ?_
  simp only [Act.put, List.setIfInBounds_toArray, List.set_cons_zero, List.set_cons_succ]
  refine mix_take 4 _ ?_ rfl rfl rfl (some 11) rfl (fun w' hw' => ?hv4) ?_
  case hv4 =>
    go_simp
    with_reducible rfl
  simp only [Act.put, List.setIfInBounds_toArray, List.set_cons_zero, List.set_cons_succ]
  refine mix_call 3 _ rfl rfl rfl 56 #[.agg (cakeA n ts), .agg (spA n i)] (some 10) rfl ?hr3 ?_
  case hr3 => go_simp
  refine (HO.out _).mono ?_
  rintro e w3 ⟨rfl, hb3⟩
  have hb3' : Below w2.heap.size w2 w3 := ((Same.refl w2).drew w2.heap.size).trans hb3
  refine ⟨_, rfl, hb3', ?_⟩
  simp only [Act.put, List.setIfInBounds_toArray, List.set_cons_zero, List.set_cons_succ]
  refine mix_take 5 _ ?_ rfl rfl rfl (some 12) rfl (fun w' hw' => ?hv5) ?_
  case hv5 =>
    go_simp
    with_reducible rfl
  simp only [Act.put, List.setIfInBounds_toArray, List.set_cons_zero, List.set_cons_succ]
  refine mix_call 6 _ rfl rfl rfl 122 #[.agg (spA n i), .agg #[.int .i64 (worth (ts.getD p []) n i 0), .int .i64 (worth (ts.getD p []) n i 1), .int .i64 (worth (ts.getD p []) n i 2)]] (some 13) rfl ?hr6 ?_
  case hr6 => go_simp
  refine (HF.out _).mono ?_
  rintro e w4 ⟨rfl, hb4⟩
  have hb4' := bnext hb3' hb4
  refine ⟨_, rfl, hb4', ?_⟩
  simp only [Act.put, List.setIfInBounds_toArray, List.set_cons_zero, List.set_cons_succ]
  refine mix_take 7 _ ?_ rfl rfl rfl (some 6) rfl (fun w' hw' => ?hv7) ?_
  case hv7 =>
    go_simp
    with_reducible rfl
  simp only [Act.put, List.setIfInBounds_toArray, List.set_cons_zero, List.set_cons_succ]
  refine mix_done ?_
  go_wp2_with fail
  go_ret
  exact ⟨rfl, bnext hb0 hb4'⟩
end Go.Proofs.YtncpnkcdjfohgaaDoor
