import Derived.Test.YtcahecohjmahaaaDoorZa
namespace Go.Proofs.YtcahecohjmahaaaDoor
open Go.RowKit
set_option maxRecDepth 4000
theorem ret_int2 {a b c d : Int} (h : a = c) (k : b = d) : Ending.returned (.tuple #[.int .i64 a, .int .i64 b]) = .returned (.tuple #[.int .i64 c, .int .i64 d]) := by rw [h, k]
/-- The points of a square. -/
def sqc (n : Int) : Int := (2 * n + 1) * (2 * n + 1)
/-- The number of a point. -/
def oi (n x y : Int) : Int := (2 * n + 1) * (y + n) + x + n
def okSq (n i : Int) : Prop := 1 ≤ n ∧ n ≤ 4 ∧ 0 ≤ i ∧ i < sqc n
theorem four {n : Int} (h1 : 1 ≤ n) (h2 : n ≤ 4) : n = 1 ∨ n = 2 ∨ n = 3 ∨ n = 4 := by omega
theorem sqc_bd {n : Int} (h1 : 1 ≤ n) (h2 : n ≤ 4) : 9 ≤ sqc n ∧ sqc n ≤ 81 := by
  rcases four h1 h2 with rfl | rfl | rfl | rfl <;> simp [sqc]
theorem oi_bd {n x y : Int} (h1 : 1 ≤ n) (h2 : n ≤ 4) (x1 : -n ≤ x) (x2 : x ≤ n) (y1 : -n ≤ y) (y2 : y ≤ n) : 0 ≤ oi n x y ∧ oi n x y < sqc n := by
  rcases four h1 h2 with rfl | rfl | rfl | rfl <;> simp only [oi, sqc] <;> omega
set_option maxHeartbeats 800000 in
theorem squareOf_yes (n : Int) (h1 : 1 ≤ n) (h2 : n ≤ 4) (w : World) :
    Calls Tryd.prog 90 #[.int .i64 n] w fun e w' => e = .returned (.tuple #[.agg #[.int .i64 n], .bool true]) ∧ Below w.heap.size w w' := by
  have hd : decide (n ≤ 4) = true := by simp; omega
  go_enter Tryd.func90, Tryd.ntmps90
  go_wp2
  go_returns
  exact ⟨rfl, by go_grown⟩
set_option maxHeartbeats 800000 in
theorem squareOf_no (n : Int) (h : ¬ (1 ≤ n ∧ n ≤ 4)) (w : World) :
    Calls Tryd.prog 90 #[.int .i64 n] w fun e w' => e = .returned (.tuple #[.agg #[.int .i64 n], .bool false]) ∧ Below w.heap.size w w' := by
  by_cases h1 : 1 ≤ n
  · have h2 : ¬ n ≤ 4 := fun h2 => h ⟨h1, h2⟩
    clear h
    go_enter Tryd.func90, Tryd.ntmps90
    go_wp2
    go_returns
    exact ⟨rfl, by go_grown⟩
  · clear h
    go_enter Tryd.func90, Tryd.ntmps90
    go_wp2
    go_returns
    exact ⟨rfl, by go_grown⟩
set_option maxHeartbeats 800000 in
theorem opReach_yes (n : Int) (h1 : 1 ≤ n) (h2 : n ≤ 4) (w : World) :
    Calls Tryd.prog 84 #[.int .i64 n] w fun e w' => e = .returned (.bool true) ∧ w = w' := by
  go_enter Tryd.func84, Tryd.ntmps84
  go_wp2_with go_in
  go_ret
  exact ⟨ret_bool (by simp <;> omega), rfl⟩
set_option maxHeartbeats 800000 in
theorem opReach_no (n : Int) (h : ¬ (1 ≤ n ∧ n ≤ 4)) (w : World) :
    Calls Tryd.prog 84 #[.int .i64 n] w fun e w' => e = .returned (.bool false) ∧ w = w' := by
  by_cases h1 : 1 ≤ n
  · have h2 : ¬ n ≤ 4 := fun h2 => h ⟨h1, h2⟩
    clear h
    go_enter Tryd.func84, Tryd.ntmps84
    go_wp2_with go_in
    go_ret
    exact ⟨ret_bool (by simp <;> omega), rfl⟩
  · clear h
    go_enter Tryd.func84, Tryd.ntmps84
    go_wp2_with go_in
    go_ret
    exact ⟨ret_bool (by simp <;> omega), rfl⟩
set_option maxHeartbeats 800000 in
theorem opCount_any (n : Int) (h1 : 1 ≤ n) (h2 : n ≤ 4) (w : World) :
    Calls Tryd.prog 102 #[.int .i64 n] w fun e w' => e = .returned (.int .i64 (sqc n)) ∧ w = w' := by
  rcases four h1 h2 with rfl | rfl | rfl | rfl
  all_goals
    go_enter Tryd.func102, Tryd.ntmps102
    go_wp2
    go_ret
    exact ⟨rfl, rfl⟩
set_option maxHeartbeats 800000 in
theorem sqWidth_any (n W : Int) (h1 : 1 ≤ n) (h2 : n ≤ 4) (hW : 2 * n + 1 = W) (w : World) :
    Calls Tryd.prog 155 #[.agg #[.int .i64 n]] w fun e w' => e = .returned (.int .i64 W) ∧ Below w.heap.size w w' := by
  subst hW
  go_enter Tryd.func155, Tryd.ntmps155
  go_wp2
  go_ret
  exact ⟨rfl, by go_grown⟩
set_option maxHeartbeats 800000 in
theorem sqSize_any (n : Int) (h1 : 1 ≤ n) (h2 : n ≤ 4) (w : World) :
    Calls Tryd.prog 104 #[.agg #[.int .i64 n]] w fun e w' => e = .returned (.int .i64 (sqc n)) ∧ Below w.heap.size w w' := by
  rcases four h1 h2 with rfl | rfl | rfl | rfl
  · have hB0 := balloc (Below.refl w.heap.size w) (.cells #[.int .i64 1] 57)
    have hm0 : (w.alloc (.cells #[.int .i64 1] 57)).cell? ⟨w.heap.size, 0, none⟩ = some (.int .i64 1) := by go_cell
    have hlt : w.heap.size < (w.alloc (.cells #[.int .i64 1] 57)).heap.size := by simp
    go_enter Tryd.func104, Tryd.ntmps104
    go_wp2_with fail
    refine wp_region_below (by kernel_rfl) (by kernel_rfl) ?_
    intro ι hne f hbf hcl
    have hm : ∀ i, (f i).cell? ⟨w.heap.size, 0, none⟩ = some (.int .i64 1) := fun i => ((hbf i).cell (p := ⟨w.heap.size, 0, none⟩) hlt).trans hm0
    repeat (go_big_quiet_step (first | (go_at_call 155; with_reducible refine (sqWidth_any 1 3 (by decide) (by decide) rfl _).mono ?_; rintro e w' ⟨rfl, hb⟩; exact ⟨rfl, hcl _ _ hb⟩)))
    refine wpQuiet_nil ?_
    rintro _ ⟨j, rfl⟩
    have hb := bnext hB0 (hbf j)
    generalize f j = w' at hb ⊢
    go_wp2_with fail
    go_ret
    exact ⟨rfl, hb⟩
  · have hB0 := balloc (Below.refl w.heap.size w) (.cells #[.int .i64 2] 57)
    have hm0 : (w.alloc (.cells #[.int .i64 2] 57)).cell? ⟨w.heap.size, 0, none⟩ = some (.int .i64 2) := by go_cell
    have hlt : w.heap.size < (w.alloc (.cells #[.int .i64 2] 57)).heap.size := by simp
    go_enter Tryd.func104, Tryd.ntmps104
    go_wp2_with fail
    refine wp_region_below (by kernel_rfl) (by kernel_rfl) ?_
    intro ι hne f hbf hcl
    have hm : ∀ i, (f i).cell? ⟨w.heap.size, 0, none⟩ = some (.int .i64 2) := fun i => ((hbf i).cell (p := ⟨w.heap.size, 0, none⟩) hlt).trans hm0
    repeat (go_big_quiet_step (first | (go_at_call 155; with_reducible refine (sqWidth_any 2 5 (by decide) (by decide) rfl _).mono ?_; rintro e w' ⟨rfl, hb⟩; exact ⟨rfl, hcl _ _ hb⟩)))
    refine wpQuiet_nil ?_
    rintro _ ⟨j, rfl⟩
    have hb := bnext hB0 (hbf j)
    generalize f j = w' at hb ⊢
    go_wp2_with fail
    go_ret
    exact ⟨rfl, hb⟩
  · have hB0 := balloc (Below.refl w.heap.size w) (.cells #[.int .i64 3] 57)
    have hm0 : (w.alloc (.cells #[.int .i64 3] 57)).cell? ⟨w.heap.size, 0, none⟩ = some (.int .i64 3) := by go_cell
    have hlt : w.heap.size < (w.alloc (.cells #[.int .i64 3] 57)).heap.size := by simp
    go_enter Tryd.func104, Tryd.ntmps104
    go_wp2_with fail
    refine wp_region_below (by kernel_rfl) (by kernel_rfl) ?_
    intro ι hne f hbf hcl
    have hm : ∀ i, (f i).cell? ⟨w.heap.size, 0, none⟩ = some (.int .i64 3) := fun i => ((hbf i).cell (p := ⟨w.heap.size, 0, none⟩) hlt).trans hm0
    repeat (go_big_quiet_step (first | (go_at_call 155; with_reducible refine (sqWidth_any 3 7 (by decide) (by decide) rfl _).mono ?_; rintro e w' ⟨rfl, hb⟩; exact ⟨rfl, hcl _ _ hb⟩)))
    refine wpQuiet_nil ?_
    rintro _ ⟨j, rfl⟩
    have hb := bnext hB0 (hbf j)
    generalize f j = w' at hb ⊢
    go_wp2_with fail
    go_ret
    exact ⟨rfl, hb⟩
  · have hB0 := balloc (Below.refl w.heap.size w) (.cells #[.int .i64 4] 57)
    have hm0 : (w.alloc (.cells #[.int .i64 4] 57)).cell? ⟨w.heap.size, 0, none⟩ = some (.int .i64 4) := by go_cell
    have hlt : w.heap.size < (w.alloc (.cells #[.int .i64 4] 57)).heap.size := by simp
    go_enter Tryd.func104, Tryd.ntmps104
    go_wp2_with fail
    refine wp_region_below (by kernel_rfl) (by kernel_rfl) ?_
    intro ι hne f hbf hcl
    have hm : ∀ i, (f i).cell? ⟨w.heap.size, 0, none⟩ = some (.int .i64 4) := fun i => ((hbf i).cell (p := ⟨w.heap.size, 0, none⟩) hlt).trans hm0
    repeat (go_big_quiet_step (first | (go_at_call 155; with_reducible refine (sqWidth_any 4 9 (by decide) (by decide) rfl _).mono ?_; rintro e w' ⟨rfl, hb⟩; exact ⟨rfl, hcl _ _ hb⟩)))
    refine wpQuiet_nil ?_
    rintro _ ⟨j, rfl⟩
    have hb := bnext hB0 (hbf j)
    generalize f j = w' at hb ⊢
    go_wp2_with fail
    go_ret
    exact ⟨rfl, hb⟩
set_option maxHeartbeats 800000 in
theorem opIndex_any (n x y : Int) (h1 : 1 ≤ n) (h2 : n ≤ 4) (x1 : -n ≤ x) (x2 : x ≤ n) (y1 : -n ≤ y) (y2 : y ≤ n) (w : World) :
    Calls Tryd.prog 139 #[.int .i64 n, .int .i64 x, .int .i64 y] w fun e w' => e = .returned (.int .i64 (oi n x y)) ∧ w = w' := by
  rcases four h1 h2 with rfl | rfl | rfl | rfl
  all_goals
    go_enter Tryd.func139, Tryd.ntmps139
    go_wp2
    go_ret
    exact ⟨ret_int (by simp only [oi]; omega), rfl⟩
set_option maxHeartbeats 800000 in
theorem sqIndexOf_any (n x y : Int) (h1 : 1 ≤ n) (h2 : n ≤ 4) (x1 : -n ≤ x) (x2 : x ≤ n) (y1 : -n ≤ y) (y2 : y ≤ n) (w : World) :
    Calls Tryd.prog 107 #[.agg #[.int .i64 n], .int .i64 x, .int .i64 y] w fun e w' => e = .returned (.int .i64 (oi n x y)) ∧ Below w.heap.size w w' := by
  rcases four h1 h2 with rfl | rfl | rfl | rfl
  · have hB0 := balloc (Below.refl w.heap.size w) (.cells #[.int .i64 1] 57)
    have hm0 : (w.alloc (.cells #[.int .i64 1] 57)).cell? ⟨w.heap.size, 0, none⟩ = some (.int .i64 1) := by go_cell
    have hlt : w.heap.size < (w.alloc (.cells #[.int .i64 1] 57)).heap.size := by simp
    go_enter Tryd.func107, Tryd.ntmps107
    go_wp2_with fail
    refine wp_region_below (by kernel_rfl) (by kernel_rfl) ?_
    intro ι hne f hbf hcl
    have hm : ∀ i, (f i).cell? ⟨w.heap.size, 0, none⟩ = some (.int .i64 1) := fun i => ((hbf i).cell (p := ⟨w.heap.size, 0, none⟩) hlt).trans hm0
    repeat (go_big_quiet_step (first | (go_at_call 155; with_reducible refine (sqWidth_any 1 3 (by decide) (by decide) rfl _).mono ?_; rintro e w' ⟨rfl, hb⟩; exact ⟨rfl, hcl _ _ hb⟩)))
    refine wpQuiet_nil ?_
    rintro _ ⟨j, rfl⟩
    have hb := bnext hB0 (hbf j)
    generalize f j = w' at hb ⊢
    go_wp2_with fail
    go_ret
    exact ⟨ret_int (by simp only [oi]; omega), hb⟩
  · have hB0 := balloc (Below.refl w.heap.size w) (.cells #[.int .i64 2] 57)
    have hm0 : (w.alloc (.cells #[.int .i64 2] 57)).cell? ⟨w.heap.size, 0, none⟩ = some (.int .i64 2) := by go_cell
    have hlt : w.heap.size < (w.alloc (.cells #[.int .i64 2] 57)).heap.size := by simp
    go_enter Tryd.func107, Tryd.ntmps107
    go_wp2_with fail
    refine wp_region_below (by kernel_rfl) (by kernel_rfl) ?_
    intro ι hne f hbf hcl
    have hm : ∀ i, (f i).cell? ⟨w.heap.size, 0, none⟩ = some (.int .i64 2) := fun i => ((hbf i).cell (p := ⟨w.heap.size, 0, none⟩) hlt).trans hm0
    repeat (go_big_quiet_step (first | (go_at_call 155; with_reducible refine (sqWidth_any 2 5 (by decide) (by decide) rfl _).mono ?_; rintro e w' ⟨rfl, hb⟩; exact ⟨rfl, hcl _ _ hb⟩)))
    refine wpQuiet_nil ?_
    rintro _ ⟨j, rfl⟩
    have hb := bnext hB0 (hbf j)
    generalize f j = w' at hb ⊢
    go_wp2_with fail
    go_ret
    exact ⟨ret_int (by simp only [oi]; omega), hb⟩
  · have hB0 := balloc (Below.refl w.heap.size w) (.cells #[.int .i64 3] 57)
    have hm0 : (w.alloc (.cells #[.int .i64 3] 57)).cell? ⟨w.heap.size, 0, none⟩ = some (.int .i64 3) := by go_cell
    have hlt : w.heap.size < (w.alloc (.cells #[.int .i64 3] 57)).heap.size := by simp
    go_enter Tryd.func107, Tryd.ntmps107
    go_wp2_with fail
    refine wp_region_below (by kernel_rfl) (by kernel_rfl) ?_
    intro ι hne f hbf hcl
    have hm : ∀ i, (f i).cell? ⟨w.heap.size, 0, none⟩ = some (.int .i64 3) := fun i => ((hbf i).cell (p := ⟨w.heap.size, 0, none⟩) hlt).trans hm0
    repeat (go_big_quiet_step (first | (go_at_call 155; with_reducible refine (sqWidth_any 3 7 (by decide) (by decide) rfl _).mono ?_; rintro e w' ⟨rfl, hb⟩; exact ⟨rfl, hcl _ _ hb⟩)))
    refine wpQuiet_nil ?_
    rintro _ ⟨j, rfl⟩
    have hb := bnext hB0 (hbf j)
    generalize f j = w' at hb ⊢
    go_wp2_with fail
    go_ret
    exact ⟨ret_int (by simp only [oi]; omega), hb⟩
  · have hB0 := balloc (Below.refl w.heap.size w) (.cells #[.int .i64 4] 57)
    have hm0 : (w.alloc (.cells #[.int .i64 4] 57)).cell? ⟨w.heap.size, 0, none⟩ = some (.int .i64 4) := by go_cell
    have hlt : w.heap.size < (w.alloc (.cells #[.int .i64 4] 57)).heap.size := by simp
    go_enter Tryd.func107, Tryd.ntmps107
    go_wp2_with fail
    refine wp_region_below (by kernel_rfl) (by kernel_rfl) ?_
    intro ι hne f hbf hcl
    have hm : ∀ i, (f i).cell? ⟨w.heap.size, 0, none⟩ = some (.int .i64 4) := fun i => ((hbf i).cell (p := ⟨w.heap.size, 0, none⟩) hlt).trans hm0
    repeat (go_big_quiet_step (first | (go_at_call 155; with_reducible refine (sqWidth_any 4 9 (by decide) (by decide) rfl _).mono ?_; rintro e w' ⟨rfl, hb⟩; exact ⟨rfl, hcl _ _ hb⟩)))
    refine wpQuiet_nil ?_
    rintro _ ⟨j, rfl⟩
    have hb := bnext hB0 (hbf j)
    generalize f j = w' at hb ⊢
    go_wp2_with fail
    go_ret
    exact ⟨ret_int (by simp only [oi]; omega), hb⟩
set_option maxHeartbeats 800000 in
theorem sqHas_yes (n x y : Int) (h1 : 1 ≤ n) (h2 : n ≤ 4) (x1 : -n ≤ x) (x2 : x ≤ n) (y1 : -n ≤ y) (y2 : y ≤ n) (w : World) :
    Calls Tryd.prog 106 #[.agg #[.int .i64 n], .int .i64 x, .int .i64 y] w fun e w' => e = .returned (.bool true) ∧ Below w.heap.size w w' := by
  go_enter Tryd.func106, Tryd.ntmps106
  go_wp2
  go_ret
  exact ⟨ret_bool (by simp <;> omega), by go_grown⟩
set_option maxHeartbeats 800000 in
theorem sqHas_no (n x y : Int) (h1 : 1 ≤ n) (h2 : n ≤ 4) (h : ¬ (-n ≤ x ∧ x ≤ n ∧ -n ≤ y ∧ y ≤ n)) (w : World) :
    Calls Tryd.prog 106 #[.agg #[.int .i64 n], .int .i64 x, .int .i64 y] w fun e w' => e = .returned (.bool false) ∧ Below w.heap.size w w' := by
  by_cases x1 : -n ≤ x
  · by_cases x2 : x ≤ n
    · by_cases y1 : -n ≤ y
      · by_cases y2 : y ≤ n
        · exact absurd ⟨x1, x2, y1, y2⟩ h
        · clear h
          go_enter Tryd.func106, Tryd.ntmps106
          go_wp2
          go_ret
          exact ⟨ret_bool (by simp <;> omega), by go_grown⟩
      · clear h
        go_enter Tryd.func106, Tryd.ntmps106
        go_wp2
        go_ret
        exact ⟨ret_bool (by simp <;> omega), by go_grown⟩
    · clear h
      go_enter Tryd.func106, Tryd.ntmps106
      go_wp2
      go_ret
      exact ⟨ret_bool (by simp <;> omega), by go_grown⟩
  · clear h
    go_enter Tryd.func106, Tryd.ntmps106
    go_wp2
    go_ret
    exact ⟨ret_bool (by simp <;> omega), by go_grown⟩
end Go.Proofs.YtcahecohjmahaaaDoor
