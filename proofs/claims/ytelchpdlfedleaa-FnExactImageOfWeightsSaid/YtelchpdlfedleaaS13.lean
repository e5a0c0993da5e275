import Derived.Test.YtelchpdlfedleaaS12
import Derived.Test.YtelchpdlfedleaaZf
namespace Go.Proofs.Ytelchpdlfedleaa
open Go.RowKit
set_option maxRecDepth 4000
theorem heap2 (w : World) (o o' : Obj) : ((w.alloc o).alloc o').heap[w.heap.size]? = some o ∧ ((w.alloc o).alloc o').heap[w.heap.size + 1]? = some o' := by
  constructor
  · rw [Below.heap_alloc _ _ _ (by simp)]
    exact heap_alloc_new w _
  · have e := heap_alloc_new (w.alloc o) o'
    rwa [World.size_alloc] at e
set_option maxHeartbeats 1600000 in
theorem mappedCellOf_got (n : Nat) (h1 : 1 ≤ n) (h2 : n ≤ 5) (c : Int) (tr : Array Value) (ok : Bool) (htr : tr.size = 3) (htr1 : tr.all (·.oneCell') = true) (im : List (List Int)) (hy : imB n im = true) (a : Option Addr) (cap : Nat) (w : World) (h : RdSS w w.heap.size a im)
    (hC : ∀ w, Calls Try.prog 81 #[.agg #[.int .i64 n], .int .i64 c] w fun e w' => e = .returned (.tuple #[.agg tr, .bool ok]) ∧ Below w.heap.size w w') :
    Calls Try.prog 58 #[.int .i64 n, .slice a im.length cap, .int .i64 c] w fun e w' => e = .returned (.tuple #[.agg (mapA n im), .agg tr, .bool ok]) ∧ Below w.heap.size w w' := by
  have HC := Lib.hid hC
  obtain ⟨w2, hw2⟩ : ∃ w2, w2 = (w.alloc (.cells zeroM 53)).alloc (.cells zspot 61) := ⟨_, rfl⟩
  obtain ⟨g0, g1⟩ := heap2 w (.cells zeroM 53) (.cells zspot 61)
  rw [← hw2] at g0 g1
  have hb2 : Below w.heap.size w w2 := by rw [hw2]; exact balloc (balloc (Below.refl _ _) _) _
  have hz2 : w2.heap.size = w.heap.size + 2 := by rw [hw2]; simp
  have HM := Lib.hid (mappedOf_yes n h1 h2 im hy a cap w2 (rdss_mono (rdss_later h hb2) hb2.size))
  have HW2 := Lib.hid hw2
  have HZ := Lib.hid (mapF_zero n (mq im))
  clear hw2 h hy hC
  go_enter Try.func58, Try.ntmps58
  go_wp2_with (first | (with_reducible refine alloc_blk zeroM run_alloc_map rfl rfl ?_) | ((with_reducible refine alloc_blk zspot run_alloc_tr rfl rfl ?_); simp only [World.size_alloc, Act.put, List.setIfInBounds_toArray, List.set_cons_zero, List.set_cons_succ]))
  rw [← HW2.out]
  refine HM.out.mono ?_
  rintro e w3 ⟨rfl, hb3⟩
  have hz3 := hb3.size
  have hB3 := hb2.trans (hb3.mono (by omega))
  have g03 := (hb3.block w.heap.size (by omega)).trans g0
  have g13 := (hb3.block (w.heap.size + 1) (by omega)).trans g1
  clear hb3 g0 g1
  go_wp2_with (first | (with_reducible refine alloc_blk zeroM run_alloc_map rfl rfl ?_) | ((with_reducible refine store_blk blkM rfl _ _ rfl w3.heap.size (mapA n im) zeroM ?_ ?_ (heap_alloc_new _ _) zeroM_size (mapA_size _ _) (mapA_one _ _) w3.heap.size (Nat.le_refl _) ?_); exact rfl; exact rfl; intro w4 hg4 hb4 hk4 hsz4; have hm4 := blk_cell hg4 0 _ HZ.out))
  refine (HC.out _).mono ?_
  rintro e w5 ⟨rfl, hb5⟩
  have hz4 : w4.heap.size = w3.heap.size + 1 := by rw [hsz4]; simp
  have hz5 := hb5.size
  have hB4 := (balloc hB3 (.cells zeroM 53)).trans (hb4.mono (by omega))
  have hB5 := bnext hB4 hb5
  have g04 := ((hk4 w.heap.size (by omega)).trans (Below.heap_alloc w3 _ _ (by omega))).trans g03
  have g14 := ((hk4 (w.heap.size + 1) (by omega)).trans (Below.heap_alloc w3 _ _ (by omega))).trans g13
  have g05 := (hb5.block w.heap.size (by omega)).trans g04
  have g15 := (hb5.block (w.heap.size + 1) (by omega)).trans g14
  have hg5 := (hb5.block w3.heap.size (by omega)).trans hg4
  clear hb5 hm4 hg4 hb4 hk4 hsz4 g04 g14 g03 g13 hB4 hB3
  go_wp2_with (first | (with_reducible refine alloc_blk zspot run_alloc_tr rfl rfl ?_) | ((with_reducible refine store_blk blkTr rfl _ _ rfl (w5.heap.size) (tr) (zspot) ?_ ?_ (heap_alloc_new _ _) (zspot_size) (htr) (htr1) (w5.heap.size) (by omega) ?_); exact rfl; exact rfl; intro w6 hg6 hb6 hk6 hsz6))
  have hB6 := (balloc hB5 (.cells zspot 61)).trans (hb6.mono (by omega))
  have hg06 := ((hk6 w3.heap.size (by omega)).trans (Below.heap_alloc w5 _ _ (by omega))).trans hg5
  have g06 := ((hk6 w.heap.size (by omega)).trans (Below.heap_alloc w5 _ _ (by omega))).trans g05
  have g16 := ((hk6 (w.heap.size + 1) (by omega)).trans (Below.heap_alloc w5 _ _ (by omega))).trans g15
  clear hb6 hk6 hsz6 hB5 g05 g15 hg5
  refine wp_region_mix (fun w' => w'.heap[w3.heap.size]? = some (.cells (mapA n im) 53 (0, 0)) ∧ w'.heap[w5.heap.size]? = some (.cells tr 61 (0, 0))) [3, 4] [0, 1, 2, 3, 4, 5] (by kernel_rfl) (by kernel_rfl) (fun _ _ d _ _ h => by cases d <;> exact h) (by kernel_rfl) rfl ⟨hg06, hg6⟩ ?_
  refine mix_take 0 _ (.agg (mapA n im)) rfl rfl rfl (some 29) rfl (fun w' hw' => exec_row _ _ rfl (w3.heap.size) rfl (mapA n im) (blk_load blkM w' _ _ hw'.1 (mapA_size _ _))) ?_
  simp only [Act.put, List.setIfInBounds_toArray, List.set_cons_zero, List.set_cons_succ]
  refine mix_take 1 _ (.agg tr) rfl rfl rfl (some 30) rfl (fun w' hw' => exec_row _ _ rfl (w5.heap.size) rfl tr (blk_load blkTr w' _ _ hw'.2 htr)) ?_
  simp only [Act.put, List.setIfInBounds_toArray, List.set_cons_zero, List.set_cons_succ]
  refine mix_take 2 _ ?_ rfl rfl rfl (some 31) rfl (fun w' hw' => ?hv2) ?_
  case hv2 =>
    go_simp
    with_reducible rfl
  simp only [Act.put, List.setIfInBounds_toArray, List.set_cons_zero, List.set_cons_succ]
  refine mix_store_blk blkM 3 _ rfl rfl rfl _ _ rfl none rfl (w.heap.size) (mapA n im) zeroM rfl rfl g06 zeroM_size (mapA_size _ _) (mapA_one _ _) w.heap.size (Nat.le_refl _) (fun w7 hg7 hb7 hk7 hz7 => ⟨⟨(hk7 _ (by omega)).trans hg06, (hk7 _ (by omega)).trans hg6⟩, ?_⟩)
  simp only [Act.put]
  refine mix_store_blk blkTr 4 _ rfl rfl rfl _ _ rfl none rfl (w.heap.size + 1) tr zspot rfl rfl ((hk7 _ (by omega)).trans g16) zspot_size htr htr1 w.heap.size (by omega) (fun w8 hg8 hb8 hk8 hz8 => ⟨⟨(hk8 _ (by omega)).trans ((hk7 _ (by omega)).trans hg06), (hk8 _ (by omega)).trans ((hk7 _ (by omega)).trans hg6)⟩, ?_⟩)
  simp only [Act.put]
  have hB8 : Below w.heap.size w w8 := ((hB6.drew).trans hb7).trans hb8
  have hg78 := (hk8 w.heap.size (by omega)).trans hg7
  refine mix_take 5 _ ?_ rfl rfl rfl (some 8) rfl (fun w' hw' => ?hv5) ?_
  case hv5 =>
    go_simp
    with_reducible rfl
  simp only [Act.put, List.setIfInBounds_toArray, List.set_cons_zero, List.set_cons_succ]
  refine mix_done ?_
  go_wp2_with fail
  exact bodyPost_ret (results_blk2 blkM blkTr rfl _ _ w.heap.size (w.heap.size + 1) _ _ _ rfl rfl rfl hg78 hg8 (mapA_size _ _) htr) rfl ⟨rfl, hB8⟩
set_option maxHeartbeats 1600000 in
theorem mappedCellOf_none (n : Int) (c : Int) (im : List (List Int)) (hy : imgB n im = false) (a : Option Addr) (cap : Nat) (w : World) (h : RdSS w w.heap.size a im) :
    Calls Try.prog 58 #[.int .i64 n, .slice a im.length cap, .int .i64 c] w fun e w' => e = .returned (.tuple #[.agg zeroM, .agg zspot, .bool false]) ∧ Below w.heap.size w w' := by
  obtain ⟨w2, hw2⟩ : ∃ w2, w2 = (w.alloc (.cells zeroM 53)).alloc (.cells zspot 61) := ⟨_, rfl⟩
  obtain ⟨g0, g1⟩ := heap2 w (.cells zeroM 53) (.cells zspot 61)
  rw [← hw2] at g0 g1
  have hb2 : Below w.heap.size w w2 := by rw [hw2]; exact balloc (balloc (Below.refl _ _) _) _
  have hz2 : w2.heap.size = w.heap.size + 2 := by rw [hw2]; simp
  have HM := Lib.hid (mappedOf_fail n im hy a cap w2 (rdss_mono (rdss_later h hb2) hb2.size))
  have HW2 := Lib.hid hw2
  clear hw2 h hy
  go_enter Try.func58, Try.ntmps58
  go_wp2_with (first | (with_reducible refine alloc_blk zeroM run_alloc_map rfl rfl ?_) | ((with_reducible refine alloc_blk zspot run_alloc_tr rfl rfl ?_); simp only [World.size_alloc, Act.put, List.setIfInBounds_toArray, List.set_cons_zero, List.set_cons_succ]))
  rw [← HW2.out]
  refine HM.out.mono ?_
  rintro e w3 ⟨rfl, hb3⟩
  have hz3 := hb3.size
  have hB3 := hb2.trans (hb3.mono (by omega))
  have g03 := (hb3.block w.heap.size (by omega)).trans g0
  have g13 := (hb3.block (w.heap.size + 1) (by omega)).trans g1
  clear hb3 g0 g1
  go_wp2_with (first | (with_reducible refine alloc_blk zeroM run_alloc_map rfl rfl ?_) | ((with_reducible refine store_blk blkM rfl _ _ rfl w3.heap.size (zeroM) zeroM ?_ ?_ (heap_alloc_new _ _) zeroM_size (zeroM_size) (zeroM_one) w3.heap.size (Nat.le_refl _) ?_); exact rfl; exact rfl; intro w4 hg4 hb4 hk4 hsz4; have hB4 := (balloc hB3 (.cells zeroM 53)).trans (hb4.mono (by omega)); have g04 := ((hk4 w.heap.size (by omega)).trans (Below.heap_alloc w3 _ _ (by omega))).trans g03; have g14 := ((hk4 (w.heap.size + 1) (by omega)).trans (Below.heap_alloc w3 _ _ (by omega))).trans g13) | (with_reducible refine build0_blk zeroM run_build0_map rfl rfl ?_) | (with_reducible refine build0_blk zspot run_build0_tr rfl rfl ?_) | ((with_reducible refine store_blk blkM rfl _ _ rfl (w.heap.size) (zeroM) (zeroM) ?_ ?_ g04 (zeroM_size) (zeroM_size) (zeroM_one) (w.heap.size) (by omega) ?_); exact rfl; exact rfl; intro w7 hg7 hb7 hk7 hz7; have g17 := (hk7 (w.heap.size + 1) (by omega)).trans g14) | ((with_reducible refine store_blk blkTr rfl _ _ rfl (w.heap.size + 1) (zspot) (zspot) ?_ ?_ g17 (zspot_size) (zspot_size) (zspot_one) (w.heap.size) (by omega) ?_); exact rfl; exact rfl; intro w8 hg8 hb8 hk8 hz8; have hg78 := (hk8 w.heap.size (by omega)).trans hg7))
  exact bodyPost_ret (results_blk2 blkM blkTr rfl _ _ w.heap.size (w.heap.size + 1) _ _ _ rfl rfl rfl hg78 hg8 zeroM_size zspot_size) rfl ⟨rfl, (hB4.trans hb7).trans hb8⟩
theorem mappedCellOf_yes (n k : Nat) (h1 : 1 ≤ n) (h2 : n ≤ 5) (hk : k < (ci n).length) (im : List (List Int)) (hy : imB n im = true) (a : Option Addr) (cap : Nat) (w : World) (h : RdSS w w.heap.size a im) :
    Calls Try.prog 58 #[.int .i64 n, .slice a im.length cap, .int .i64 k] w fun e w' => e = .returned (.tuple #[.agg (mapA n im), .agg (trA n k), .bool true]) ∧ Below w.heap.size w w' :=
  mappedCellOf_got n h1 h2 k (trA n k) true (trA_size _ _) (trA_one _ _) im hy a cap w h (fun w => cellAt_yes n k h1 (by omega) hk w)
/-- Without images or without a cell. -/
theorem mappedCellOf_fail (n c : Int) (im : List (List Int)) (hno : okM n im c = false) (a : Option Addr) (cap : Nat) (w : World) (h : RdSS w w.heap.size a im) :
    Calls Try.prog 58 #[.int .i64 n, .slice a im.length cap, .int .i64 c] w fun e w' => ∃ arr : Array Value, arr.size = 64 ∧ arr.all (·.oneCell') = true ∧ e = .returned (.tuple #[.agg arr, .agg zspot, .bool false]) ∧ Below w.heap.size w w' := by
  cases hy : imgB n im
  · exact (mappedCellOf_none n c im hy a cap w h).mono fun e w' ⟨h1, h2⟩ => ⟨zeroM, zeroM_size, zeroM_one, h1, h2⟩
  · obtain ⟨n, rfl, h1, h2, hy2⟩ := imgB_yes hy
    have hk : ¬ (0 ≤ c ∧ c < ((ci n).length : Nat)) := fun hk => by simp [okM, hy] at hno; omega
    exact (mappedCellOf_got n h1 h2 c zspot false zspot_size zspot_one im hy2 a cap w h (fun w => cellAt_no n c h1 (by omega) hk w)).mono fun e w' ⟨h1, h2⟩ => ⟨mapA n im, mapA_size _ _, mapA_one _ _, h1, h2⟩
end Go.Proofs.Ytelchpdlfedleaa
