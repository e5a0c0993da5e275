import Derived.RegionTactic
import Derived.Test.YtncpnkcdjfohgaaDoorMf2
import Derived.Test.YtncpnkcdjfohgaaDoorMd9
namespace Go.Proofs.YtncpnkcdjfohgaaDoor
open Go.RowKit
set_option maxRecDepth 4000
theorem offersOf_any (ts : List (List Int)) (a : Option Addr) (cap : Nat) : ∃ (r : Array Value) (ok : Bool), ok = rowsB 3 20 ts ∧ r.size = 9 ∧ r.all (·.oneCell') = true ∧ (ok = true → r = arrF 9 (rw9 ts)) ∧ ∀ w : World, RdSS w w.heap.size a ts →
    Calls Tryd.prog 73 #[.slice a ts.length cap] w fun e w' => e = .returned (.tuple #[.agg r, .bool ok]) ∧ Below w.heap.size w w' := by
  cases hy : rowsB 3 20 ts
  · exact ⟨zeroO, false, rfl, zeroO_size, zeroO_one, (by simp), fun w h => offersOf_no ts hy a cap w h⟩
  · exact ⟨arrF 9 (rw9 ts), true, rfl, arrF_size _ _, arrF_one _ _, fun _ => rfl, fun w h => offersOf_yes ts hy a cap w h⟩
theorem meshOf_any (n : Int) : ∃ ok : Bool, (ok = true ↔ 1 ≤ n ∧ n ≤ 8) ∧ ∀ w : World, Calls Tryd.prog 78 #[.int .i64 n] w fun e w' => e = .returned (.tuple #[.agg #[.int .i64 n], .bool ok]) ∧ Below w.heap.size w w' := by
  by_cases hn : 1 ≤ n ∧ n ≤ 8
  · obtain ⟨m, rfl⟩ := Int.eq_ofNat_of_zero_le (show 0 ≤ n by omega)
    exact ⟨true, by simpa using hn, fun w => meshOf_yes m (by omega) (by omega) w⟩
  · exact ⟨false, by simpa using hn, fun w => meshOf_no n hn w⟩
set_option maxHeartbeats 1600000 in
theorem flatOf_no (n : Int) (ts : List (List Int)) (hno : ¬ ((1 ≤ n ∧ n ≤ 8) ∧ rowsB 3 20 ts = true)) (a : Option Addr) (cap : Nat) (w : World) (h : RdSS w w.heap.size a ts) :
    Calls Tryd.prog 51 #[.int .i64 n, .slice a ts.length cap] w fun e w' => e = .returned (.tuple #[.agg zeroF, .bool false]) ∧ Below w.heap.size w w' := by
  obtain ⟨r, ok, hok, hrs', hro', -, hO⟩ := offersOf_any ts a cap
  obtain ⟨okm, hokm, hM⟩ := meshOf_any n
  have HM := Lib.hid hM
  have HO := Lib.hid hO
  have hrs := Lib.hid hrs'
  have hro := Lib.hid hro'
  have HRD := Lib.hid h
  have HN : Hid (okm = false ∨ (okm = true ∧ ok = false)) := Lib.hid (by
    cases okm
    · exact .inl rfl
    · refine .inr ⟨rfl, ?_⟩
      cases hx : ok
      · rfl
      · exact absurd ⟨hokm.1 rfl, by rw [← hok, hx]⟩ hno)
  clear h hno hok hokm hM hO hrs' hro'
  have hb0 := balloc (Below.refl w.heap.size w) (.cells zeroF 72)
  have hg0 := heap_alloc_new w (.cells zeroF 72)
  go_enter Tryd.func51, Tryd.ntmps51
  go_wp2_with (with_reducible refine alloc_blk zeroF run_alloc_flat rfl rfl ?_)
  refine (HM.out _).mono ?_
  rintro e w1 ⟨rfl, hb1⟩
  have hz1 : w.heap.size + 1 ≤ w1.heap.size := by have := hb1.size; simpa using this
  obtain ⟨w2, hw2⟩ : ∃ w2, w2 = w1.alloc (.cells #[.int .i64 n] 50) := ⟨_, rfl⟩
  have hB2 : Below w.heap.size w w2 := by rw [hw2]; exact balloc (bnext hb0 hb1) _
  have hf2 : w2.heap[w.heap.size]? = some (.cells zeroF 72 (0, 0)) := by rw [hw2, Below.heap_alloc _ _ _ (by omega)]; exact (hb1.block _ (by simp)).trans hg0
  have hm2 : w2.heap[w1.heap.size]? = some (.cells #[.int .i64 n] 50 (0, 0)) := by rw [hw2]; exact heap_alloc_new _ _
  have hz2 : w2.heap.size = w1.heap.size + 1 := by rw [hw2]; simp
  have HW2 := Lib.hid hw2
  clear hb1 hw2 hb0 hg0
  go_wp2_with fail
  rw [← HW2.out]
  refine (HO.out w2 (rdss_mono (rdss_later HRD.out hB2) hB2.size)).mono ?_
  rintro e w3 ⟨rfl, hb3⟩
  have hB3 := bnext hB2 hb3
  have hf3 := (hb3.block w.heap.size (by omega)).trans hf2
  have hm3 := (hb3.block w1.heap.size (by omega)).trans hm2
  have hz3 := hb3.size
  have hg3 := heap_alloc_new w3 (.cells zeroO 70)
  have hb30 := balloc hB3 (.cells zeroO 70)
  have hf30 := (Below.heap_alloc w3 (.cells zeroO 70) _ (show w.heap.size < w3.heap.size by omega)).trans hf3
  have hm30 := (Below.heap_alloc w3 (.cells zeroO 70) _ (show w1.heap.size < w3.heap.size by omega)).trans hm3
  clear hb3 hf2 hm2
  rcases HN.out with rfl | ⟨rfl, rfl⟩ <;> clear HN
  all_goals
    go_wp2_with (first | (with_reducible refine alloc_blk zeroO run_alloc_off rfl rfl ?_) | ((with_reducible refine store_blk blkOff rfl _ _ rfl w3.heap.size r zeroO ?_ ?_ hg3 zeroO_size hrs.out hro.out w3.heap.size (Nat.le_refl _) ?_); exact rfl; exact rfl; intro w4 hg4 hb4 hk4 hz4; have hB4 : Below w.heap.size w w4 := hb30.trans (hb4.mono hB3.size); have hf4 := (hk4 w.heap.size (by omega)).trans hf30; have hm4 := (hk4 w1.heap.size (by omega)).trans hm30; have hc4 := blk_cell hm4 0 (.int .i64 n) rfl) | (with_reducible refine build0_flat rfl rfl ?_) | ((with_reducible refine store_blk blkFlat rfl _ _ rfl w.heap.size zeroF zeroF ?_ ?_ hf4 zeroF_size zeroF_size zeroF_one w.heap.size (Nat.le_refl _) ?_); exact rfl; exact rfl; intro w5 hg5 hb5 _ _))
    exact bodyPost_ret (results_blk blkFlat rfl _ _ w.heap.size _ _ rfl rfl hg5 zeroF_size) rfl ⟨rfl, hB4.trans hb5⟩
set_option maxHeartbeats 1600000 in
theorem flatOf_yes (n : Nat) (h1 : 1 ≤ n) (h2 : n ≤ 8) (ts : List (List Int)) (hy : rowsB 3 20 ts = true) (a : Option Addr) (cap : Nat) (w : World) (h : RdSS w w.heap.size a ts) :
    Calls Tryd.prog 51 #[.int .i64 n, .slice a ts.length cap] w fun e w' => e = .returned (.tuple #[.agg (flA n (rw9 ts)), .bool true]) ∧ Below w.heap.size w w' := by
  have HM := Lib.hid (fun w => meshOf_yes n h1 h2 w)
  have HO := Lib.hid (fun w h => offersOf_yes ts hy a cap w h)
  have hbd := run_build_flat n (rw9 ts)
  generalize hr : arrF 9 (rw9 ts) = r at *
  have hrs : Hid (r.size = 9) := Lib.hid (by rw [← hr]; exact arrF_size _ _)
  have hro : Hid (r.all (·.oneCell') = true) := Lib.hid (by rw [← hr]; exact arrF_one _ _)
  have HFS := Lib.hid (flA_size n (rw9 ts))
  have HFO := Lib.hid (flA_one n (rw9 ts))
  generalize flA n (rw9 ts) = fa at *
  have HRD := Lib.hid h
  clear h hy hr
  have hb0 := balloc (Below.refl w.heap.size w) (.cells zeroF 72)
  have hg0 := heap_alloc_new w (.cells zeroF 72)
  go_enter Tryd.func51, Tryd.ntmps51
  go_wp2_with (with_reducible refine alloc_blk zeroF run_alloc_flat rfl rfl ?_)
  refine (HM.out _).mono ?_
  rintro e w1 ⟨rfl, hb1⟩
  have hz1 : w.heap.size + 1 ≤ w1.heap.size := by have := hb1.size; simpa using this
  obtain ⟨w2, hw2⟩ : ∃ w2, w2 = w1.alloc (.cells #[.int .i64 n] 50) := ⟨_, rfl⟩
  have hB2 : Below w.heap.size w w2 := by rw [hw2]; exact balloc (bnext hb0 hb1) _
  have hf2 : w2.heap[w.heap.size]? = some (.cells zeroF 72 (0, 0)) := by rw [hw2, Below.heap_alloc _ _ _ (by omega)]; exact (hb1.block _ (by simp)).trans hg0
  have hm2 : w2.heap[w1.heap.size]? = some (.cells #[.int .i64 n] 50 (0, 0)) := by rw [hw2]; exact heap_alloc_new _ _
  have hz2 : w2.heap.size = w1.heap.size + 1 := by rw [hw2]; simp
  have HW2 := Lib.hid hw2
  clear hb1 hw2 hb0 hg0
  go_wp2_with fail
  rw [← HW2.out]
  refine (HO.out w2 (rdss_mono (rdss_later HRD.out hB2) hB2.size)).mono ?_
  rintro e w3 ⟨rfl, hb3⟩
  have hB3 := bnext hB2 hb3
  have hf3 := (hb3.block w.heap.size (by omega)).trans hf2
  have hm3 := (hb3.block w1.heap.size (by omega)).trans hm2
  have hz3 := hb3.size
  have hg3 := heap_alloc_new w3 (.cells zeroO 70)
  have hb30 := balloc hB3 (.cells zeroO 70)
  have hf30 := (Below.heap_alloc w3 (.cells zeroO 70) _ (show w.heap.size < w3.heap.size by omega)).trans hf3
  have hm30 := (Below.heap_alloc w3 (.cells zeroO 70) _ (show w1.heap.size < w3.heap.size by omega)).trans hm3
  clear hb3 hf2 hm2
  go_wp2_with (first | (with_reducible refine alloc_blk zeroO run_alloc_off rfl rfl ?_) | ((with_reducible refine store_blk blkOff rfl _ _ rfl w3.heap.size r zeroO ?_ ?_ hg3 zeroO_size hrs.out hro.out w3.heap.size (Nat.le_refl _) ?_); exact rfl; exact rfl; intro w4 hg4 hb4 hk4 hz4; have hB4 : Below w.heap.size w w4 := hb30.trans (hb4.mono hB3.size); have hf4 := (hk4 w.heap.size (by omega)).trans hf30; have hm4 := (hk4 w1.heap.size (by omega)).trans hm30; have hc4 := blk_cell hm4 0 (.int .i64 n) rfl) | ((with_reducible refine build_flat hbd rfl _ _ rfl ?_ ?_ ?_); exact rfl; exact rfl; simp only [Act.put, List.setIfInBounds_toArray, List.set_cons_zero, List.set_cons_succ]) | ((with_reducible refine load_blk blkOff ?_ _ rfl w3.heap.size ?_ r hg4 hrs.out ?_); exact rfl; exact rfl; simp only [Act.put, List.setIfInBounds_toArray, List.set_cons_zero, List.set_cons_succ]) | ((with_reducible refine store_blk blkFlat rfl _ _ rfl w.heap.size fa zeroF ?_ ?_ hf4 zeroF_size HFS.out HFO.out w.heap.size (Nat.le_refl _) ?_); exact rfl; exact rfl; intro w5 hg5 hb5 _ _))
  exact bodyPost_ret (results_blk blkFlat rfl _ _ w.heap.size _ _ rfl rfl hg5 HFS.out) rfl ⟨rfl, hB4.trans hb5⟩
end Go.Proofs.YtncpnkcdjfohgaaDoor
