import Derived.RegionTactic
import Derived.Test.YtfpadepeanejeaaDoorMe2
namespace Go.Proofs.YtfpadepeanejeaaDoor
open Go.RowKit
set_option maxRecDepth 4000
theorem sumK_rw9 (ts : List (List Int)) (k : Nat) (hk : k < 6) : smv (fun p q => rw9 ts (3 * p + q)) (shS k) 3 = sumK ts k := smv_congr (fun p _ q hq => rw9_at ts p q hq) (fun p hp => shS_lt k p hk hp) 3 (by omega)
set_option maxHeartbeats 1600000 in
theorem implBestRooms_yes (ts : List (List Int)) (hy : rowsB 3 20 ts = true) (j : Nat) (hj : IsB (sumK ts) 6 j) (a : Option Addr) (cap : Nat) (w : World) (hv : ShV w) (h : RdSS w w.heap.size a ts) :
    Calls Tryd.prog 19 #[.slice a ts.length cap] w (OutBestRooms w (shL j) true) := by
  have HO := Lib.hid (offersOf_yes ts hy a cap w h)
  have HB := Lib.hid (fun w hv => bestSharing_any (rw9 ts) (sumK ts) (sumK_rw9 ts) (rw9_bd hy) j hj w hv)
  have HV := Lib.hid hv
  have HL : Hid (shL j = [shn (3 * j), shn (3 * j + 1), shn (3 * j + 2)]) := Lib.hid rfl
  have HA : Hid (shA j = #[.int .i64 (shn (3 * j)), .int .i64 (shn (3 * j + 1)), .int .i64 (shn (3 * j + 2))]) := Lib.hid rfl
  clear h hy hj hv
  go_enter Tryd.func19, Tryd.ntmps19
  go_wp2_with fail
  refine HO.out.mono ?_
  rintro e w1 ⟨rfl, hb1⟩
  have hg1 := heap_alloc_new w1 (.cells zeroO 56)
  have hb10 := balloc hb1 (.cells zeroO 56)
  have hz1 := hb1.size
  go_wp2_with (first | (with_reducible refine alloc_blk zeroO run_alloc_off rfl rfl ?_) | ((with_reducible refine store_blk blkOff rfl _ _ rfl w1.heap.size (arrF 9 (rw9 ts)) zeroO ?_ ?_ hg1 zeroO_size (arrF_size _ _) (arrF_one _ _) w1.heap.size (Nat.le_refl _) ?_); exact rfl; exact rfl; intro w2 hg2 hb2 hk2 hz2; have hB2 : Below w.heap.size w w2 := hb10.trans (hb2.mono hz1)) | ((with_reducible refine load_blk blkOff ?_ _ rfl (w1.heap.size) ?_ (arrF 9 (rw9 ts)) hg2 (arrF_size _ _) ?_); exact rfl; exact rfl; simp only [Act.put, List.setIfInBounds_toArray, List.set_cons_zero, List.set_cons_succ]))
  refine (HB.out w2 (ShV_later HV.out hB2)).mono ?_
  rintro e w3 ⟨rfl, hb3⟩
  have hB3 := bnext hB2 hb3
  rw [HA.out]
  go_wp2_with fail
  go_returns
  refine ⟨_, rfl, ?_, balloc hB3 _⟩
  rw [HL.out]
  exact ⟨_, own_block (cap := 3) (xs := [shn (3 * j), shn (3 * j + 1), shn (3 * j + 2)]) hB3.size (heap_alloc_new _ _) (by simp) rfl (by simp [maxLen]), fun q hq => by
    simp [Value.ownBlock] at hq
    subst hq
    simp⟩
set_option maxHeartbeats 1600000 in
theorem implBestRooms_no (ts : List (List Int)) (hy : rowsB 3 20 ts = false) (a : Option Addr) (cap : Nat) (w : World) (h : RdSS w w.heap.size a ts) :
    Calls Tryd.prog 19 #[.slice a ts.length cap] w (OutBestRooms w [] false) := by
  have HO := Lib.hid (offersOf_no ts hy a cap w h)
  clear h hy
  go_enter Tryd.func19, Tryd.ntmps19
  go_wp2_with fail
  refine HO.out.mono ?_
  rintro e w1 ⟨rfl, hb1⟩
  have hg1 := heap_alloc_new w1 (.cells zeroO 56)
  have hb10 := balloc hb1 (.cells zeroO 56)
  have hz1 := hb1.size
  go_wp2_with (first | (with_reducible refine alloc_blk zeroO run_alloc_off rfl rfl ?_) | ((with_reducible refine store_blk blkOff rfl _ _ rfl w1.heap.size zeroO zeroO ?_ ?_ hg1 zeroO_size zeroO_size zeroO_one w1.heap.size (Nat.le_refl _) ?_); exact rfl; exact rfl; intro w2 hg2 hb2 hk2 hz2; have hB2 : Below w.heap.size w w2 := hb10.trans (hb2.mono hz1)))
  go_returns
  exact ⟨_, rfl, oi_nil _ _ _, hB2⟩
theorem law_BestRooms (w : World) (ws : List (List Int)) (a_ws : Option Addr) (c_ws : Nat) (h_ws : RdSS w w.heap.size a_ws ws) (hv : ShV w) :
    Calls Tryd.prog 6 #[.slice a_ws ws.length c_ws] w fun e w' => e = .returned (.bool true) ∧ Below w.heap.size w w' := by
  cases hy : rowsB 3 20 ws
  · exact lawOf_BestRooms ws a_ws c_ws w h_ws hv _ _ (by simp) (fun a c w' _ h => specBestRooms_no ws hy a c w' h) (fun a c w' _ _ h => implBestRooms_no ws hy a c w' h)
  · obtain ⟨j, hj⟩ := isB_exists (sumK ws) 5
    exact lawOf_BestRooms ws a_ws c_ws w h_ws hv (shL j) _ (by show 3 ≤ 100000; omega) (fun a c w' _ h => specBestRooms_yes ws hy j hj a c w' h) (fun a c w' _ hv h => implBestRooms_yes ws hy j hj a c w' hv h)
end Go.Proofs.YtfpadepeanejeaaDoor
