import Derived.Test.YtcahecohjmahaaaDoorSa
import Derived.Test.YtcahecohjmahaaaDoorZa
namespace Go.Proofs.YtcahecohjmahaaaDoor
open Go.RowKit
set_option maxRecDepth 4000
def ax (n i : Int) : Int := i % (2 * n + 1) - n
def ay (n i : Int) : Int := i / (2 * n + 1) - n
set_option maxHeartbeats 800000 in
theorem opAt_any (n i : Int) (h1 : 1 ≤ n) (h2 : n ≤ 4) (i1 : 0 ≤ i) (i2 : i < 81) (w : World) :
    Calls Tryd.prog 103 #[.int .i64 n, .int .i64 i] w fun e w' => e = .returned (.tuple #[.int .i64 (ax n i), .int .i64 (ay n i)]) ∧ Below w.heap.size w w' := by
  rcases four h1 h2 with rfl | rfl | rfl | rfl
  · have b1 : 0 ≤ i % 3 := by omega
    have b2 : i % 3 < 3 := by omega
    have b3 : 0 ≤ i / 3 := by omega
    have b4 : i / 3 < 81 := by omega
    go_enter Tryd.func103, Tryd.ntmps103
    go_wp2
    go_quiet (fail)
    go_wp2
    go_returns
    exact ⟨ret_int2 (by simp [ax]) (by simp [ay]), ((Same.refl _).drewN _ _)⟩
  · have b1 : 0 ≤ i % 5 := by omega
    have b2 : i % 5 < 5 := by omega
    have b3 : 0 ≤ i / 5 := by omega
    have b4 : i / 5 < 81 := by omega
    go_enter Tryd.func103, Tryd.ntmps103
    go_wp2
    go_quiet (fail)
    go_wp2
    go_returns
    exact ⟨ret_int2 (by simp [ax]) (by simp [ay]), ((Same.refl _).drewN _ _)⟩
  · have b1 : 0 ≤ i % 7 := by omega
    have b2 : i % 7 < 7 := by omega
    have b3 : 0 ≤ i / 7 := by omega
    have b4 : i / 7 < 81 := by omega
    go_enter Tryd.func103, Tryd.ntmps103
    go_wp2
    go_quiet (fail)
    go_wp2
    go_returns
    exact ⟨ret_int2 (by simp [ax]) (by simp [ay]), ((Same.refl _).drewN _ _)⟩
  · have b1 : 0 ≤ i % 9 := by omega
    have b2 : i % 9 < 9 := by omega
    have b3 : 0 ≤ i / 9 := by omega
    have b4 : i / 9 < 81 := by omega
    go_enter Tryd.func103, Tryd.ntmps103
    go_wp2
    go_quiet (fail)
    go_wp2
    go_returns
    exact ⟨ret_int2 (by simp [ax]) (by simp [ay]), ((Same.refl _).drewN _ _)⟩
set_option maxHeartbeats 800000 in
theorem sqAt_any (n i : Int) (h1 : 1 ≤ n) (h2 : n ≤ 4) (i1 : 0 ≤ i) (i2 : i < 81) (w : World) :
    Calls Tryd.prog 105 #[.agg #[.int .i64 n], .int .i64 i] w fun e w' => e = .returned (.tuple #[.int .i64 (ax n i), .int .i64 (ay n i)]) ∧ Below w.heap.size w w' := by
  rcases four h1 h2 with rfl | rfl | rfl | rfl
  · have b1 : 0 ≤ i % 3 := by omega
    have b2 : i % 3 < 3 := by omega
    have b3 : 0 ≤ i / 3 := by omega
    have b4 : i / 3 < 81 := by omega
    have hB0 := balloc (Below.refl w.heap.size w) (.cells #[.int .i64 1] 57)
    have hm0 : (w.alloc (.cells #[.int .i64 1] 57)).cell? ⟨w.heap.size, 0, none⟩ = some (.int .i64 1) := by go_cell
    have hlt : w.heap.size < (w.alloc (.cells #[.int .i64 1] 57)).heap.size := by simp
    go_enter Tryd.func105, Tryd.ntmps105
    go_wp2_with fail
    refine wp_region_below (by kernel_rfl) (by kernel_rfl) ?_
    intro ι hne f hbf hcl
    have hm : ∀ i, (f i).cell? ⟨w.heap.size, 0, none⟩ = some (.int .i64 1) := fun i => ((hbf i).cell (p := ⟨w.heap.size, 0, none⟩) hlt).trans hm0
    repeat (go_big_quiet_step (first | (go_at_call 155; with_reducible refine (sqWidth_any 1 3 (by decide) (by decide) rfl _).mono ?_; rintro e w' ⟨rfl, hb⟩; exact ⟨rfl, hcl _ _ hb⟩)))
    refine wpQuiet_nil ?_
    rintro _ ⟨j, rfl⟩
    have hb := bnext hB0 (hbf j)
    generalize f j = w' at hb ⊢
    go_wp2_with fail
    go_returns
    exact ⟨ret_int2 (by simp [ax]) (by simp [ay]), hb⟩
  · have b1 : 0 ≤ i % 5 := by omega
    have b2 : i % 5 < 5 := by omega
    have b3 : 0 ≤ i / 5 := by omega
    have b4 : i / 5 < 81 := by omega
    have hB0 := balloc (Below.refl w.heap.size w) (.cells #[.int .i64 2] 57)
    have hm0 : (w.alloc (.cells #[.int .i64 2] 57)).cell? ⟨w.heap.size, 0, none⟩ = some (.int .i64 2) := by go_cell
    have hlt : w.heap.size < (w.alloc (.cells #[.int .i64 2] 57)).heap.size := by simp
    go_enter Tryd.func105, Tryd.ntmps105
    go_wp2_with fail
    refine wp_region_below (by kernel_rfl) (by kernel_rfl) ?_
    intro ι hne f hbf hcl
    have hm : ∀ i, (f i).cell? ⟨w.heap.size, 0, none⟩ = some (.int .i64 2) := fun i => ((hbf i).cell (p := ⟨w.heap.size, 0, none⟩) hlt).trans hm0
    repeat (go_big_quiet_step (first | (go_at_call 155; with_reducible refine (sqWidth_any 2 5 (by decide) (by decide) rfl _).mono ?_; rintro e w' ⟨rfl, hb⟩; exact ⟨rfl, hcl _ _ hb⟩)))
    refine wpQuiet_nil ?_
    rintro _ ⟨j, rfl⟩
    have hb := bnext hB0 (hbf j)
    generalize f j = w' at hb ⊢
    go_wp2_with fail
    go_returns
    exact ⟨ret_int2 (by simp [ax]) (by simp [ay]), hb⟩
  · have b1 : 0 ≤ i % 7 := by omega
    have b2 : i % 7 < 7 := by omega
    have b3 : 0 ≤ i / 7 := by omega
    have b4 : i / 7 < 81 := by omega
    have hB0 := balloc (Below.refl w.heap.size w) (.cells #[.int .i64 3] 57)
    have hm0 : (w.alloc (.cells #[.int .i64 3] 57)).cell? ⟨w.heap.size, 0, none⟩ = some (.int .i64 3) := by go_cell
    have hlt : w.heap.size < (w.alloc (.cells #[.int .i64 3] 57)).heap.size := by simp
    go_enter Tryd.func105, Tryd.ntmps105
    go_wp2_with fail
    refine wp_region_below (by kernel_rfl) (by kernel_rfl) ?_
    intro ι hne f hbf hcl
    have hm : ∀ i, (f i).cell? ⟨w.heap.size, 0, none⟩ = some (.int .i64 3) := fun i => ((hbf i).cell (p := ⟨w.heap.size, 0, none⟩) hlt).trans hm0
    repeat (go_big_quiet_step (first | (go_at_call 155; with_reducible refine (sqWidth_any 3 7 (by decide) (by decide) rfl _).mono ?_; rintro e w' ⟨rfl, hb⟩; exact ⟨rfl, hcl _ _ hb⟩)))
    refine wpQuiet_nil ?_
    rintro _ ⟨j, rfl⟩
    have hb := bnext hB0 (hbf j)
    generalize f j = w' at hb ⊢
    go_wp2_with fail
    go_returns
    exact ⟨ret_int2 (by simp [ax]) (by simp [ay]), hb⟩
  · have b1 : 0 ≤ i % 9 := by omega
    have b2 : i % 9 < 9 := by omega
    have b3 : 0 ≤ i / 9 := by omega
    have b4 : i / 9 < 81 := by omega
    have hB0 := balloc (Below.refl w.heap.size w) (.cells #[.int .i64 4] 57)
    have hm0 : (w.alloc (.cells #[.int .i64 4] 57)).cell? ⟨w.heap.size, 0, none⟩ = some (.int .i64 4) := by go_cell
    have hlt : w.heap.size < (w.alloc (.cells #[.int .i64 4] 57)).heap.size := by simp
    go_enter Tryd.func105, Tryd.ntmps105
    go_wp2_with fail
    refine wp_region_below (by kernel_rfl) (by kernel_rfl) ?_
    intro ι hne f hbf hcl
    have hm : ∀ i, (f i).cell? ⟨w.heap.size, 0, none⟩ = some (.int .i64 4) := fun i => ((hbf i).cell (p := ⟨w.heap.size, 0, none⟩) hlt).trans hm0
    repeat (go_big_quiet_step (first | (go_at_call 155; with_reducible refine (sqWidth_any 4 9 (by decide) (by decide) rfl _).mono ?_; rintro e w' ⟨rfl, hb⟩; exact ⟨rfl, hcl _ _ hb⟩)))
    refine wpQuiet_nil ?_
    rintro _ ⟨j, rfl⟩
    have hb := bnext hB0 (hbf j)
    generalize f j = w' at hb ⊢
    go_wp2_with fail
    go_returns
    exact ⟨ret_int2 (by simp [ax]) (by simp [ay]), hb⟩
end Go.Proofs.YtcahecohjmahaaaDoor
