import Derived.Test.YtgpikaolgalpbaaZa
namespace Go.Proofs.Ytgpikaolgalpbaa
open Go.RowKit
set_option maxRecDepth 4000
theorem ret_int2 {a b c d : Int} (h : a = c) (k : b = d) : Ending.returned (.tuple #[.int .i64 a, .int .i64 b]) = .returned (.tuple #[.int .i64 c, .int .i64 d]) := by rw [h, k]
/-- The points of a square. -/
def sqc (n : Int) : Int := (2 * n + 1) * (2 * n + 1)
/-- The number of a point. -/
def oi (n x y : Int) : Int := (2 * n + 1) * (y + n) + x + n
def okSq (n i : Int) : Prop := 1 ≤ n ∧ n ≤ 4 ∧ 0 ≤ i ∧ i < sqc n
theorem four {n : Int} (h1 : 1 ≤ n) (h2 : n ≤ 4) : n = 1 ∨ n = 2 ∨ n = 3 ∨ n = 4 := by omega
theorem sqc_bd {n : Int} (h1 : 1 ≤ n) (h2 : n ≤ 4) : 9 ≤ sqc n ∧ sqc n ≤ 81 := by
  rcases four h1 h2 with rfl | rfl | rfl | rfl <;> simp [sqc]
theorem oi_bd {n x y : Int} (h1 : 1 ≤ n) (h2 : n ≤ 4) (x1 : -n ≤ x) (x2 : x ≤ n) (y1 : -n ≤ y) (y2 : y ≤ n) : 0 ≤ oi n x y ∧ oi n x y < sqc n := by
  rcases four h1 h2 with rfl | rfl | rfl | rfl <;> simp only [oi, sqc] <;> omega
set_option maxHeartbeats 800000 in
theorem squareOf_yes (n : Int) (h1 : 1 ≤ n) (h2 : n ≤ 4) (w : World) :
    Calls Try.prog 48 #[.int .i64 n] w fun e w' => e = .returned (.tuple #[.agg #[.int .i64 n], .bool true]) ∧ Below w.heap.size w w' := by
  have hd : decide (n ≤ 4) = true := by simp; omega
  go_enter Try.func48, Try.ntmps48
  go_wp2
  go_returns
  exact ⟨rfl, by go_grown⟩
set_option maxHeartbeats 800000 in
theorem squareOf_no (n : Int) (h : ¬ (1 ≤ n ∧ n ≤ 4)) (w : World) :
    Calls Try.prog 48 #[.int .i64 n] w fun e w' => e = .returned (.tuple #[.agg #[.int .i64 n], .bool false]) ∧ Below w.heap.size w w' := by
  by_cases h1 : 1 ≤ n
  · have h2 : ¬ n ≤ 4 := fun h2 => h ⟨h1, h2⟩
    clear h
    go_enter Try.func48, Try.ntmps48
    go_wp2
    go_returns
    exact ⟨rfl, by go_grown⟩
  · clear h
    go_enter Try.func48, Try.ntmps48
    go_wp2
    go_returns
    exact ⟨rfl, by go_grown⟩
set_option maxHeartbeats 800000 in
theorem opReach_yes (n : Int) (h1 : 1 ≤ n) (h2 : n ≤ 4) (w : World) :
    Calls Try.prog 46 #[.int .i64 n] w fun e w' => e = .returned (.bool true) ∧ w = w' := by
  go_enter Try.func46, Try.ntmps46
  go_wp2_with go_in
  go_ret
  exact ⟨ret_bool (by simp <;> omega), rfl⟩
set_option maxHeartbeats 800000 in
theorem opReach_no (n : Int) (h : ¬ (1 ≤ n ∧ n ≤ 4)) (w : World) :
    Calls Try.prog 46 #[.int .i64 n] w fun e w' => e = .returned (.bool false) ∧ w = w' := by
  by_cases h1 : 1 ≤ n
  · have h2 : ¬ n ≤ 4 := fun h2 => h ⟨h1, h2⟩
    clear h
    go_enter Try.func46, Try.ntmps46
    go_wp2_with go_in
    go_ret
    exact ⟨ret_bool (by simp <;> omega), rfl⟩
  · clear h
    go_enter Try.func46, Try.ntmps46
    go_wp2_with go_in
    go_ret
    exact ⟨ret_bool (by simp <;> omega), rfl⟩
set_option maxHeartbeats 800000 in
theorem opCount_any (n : Int) (h1 : 1 ≤ n) (h2 : n ≤ 4) (w : World) :
    Calls Try.prog 47 #[.int .i64 n] w fun e w' => e = .returned (.int .i64 (sqc n)) ∧ w = w' := by
  rcases four h1 h2 with rfl | rfl | rfl | rfl
  all_goals
    go_enter Try.func47, Try.ntmps47
    go_wp2
    go_ret
    exact ⟨rfl, rfl⟩
set_option maxHeartbeats 800000 in
theorem sqWidth_any (n W : Int) (h1 : 1 ≤ n) (h2 : n ≤ 4) (hW : 2 * n + 1 = W) (w : World) :
    Calls Try.prog 82 #[.agg #[.int .i64 n]] w fun e w' => e = .returned (.int .i64 W) ∧ Below w.heap.size w w' := by
  subst hW
  go_enter Try.func82, Try.ntmps82
  go_wp2
  go_ret
  exact ⟨rfl, by go_grown⟩
set_option maxHeartbeats 800000 in
theorem sqSize_any (n : Int) (h1 : 1 ≤ n) (h2 : n ≤ 4) (w : World) :
    Calls Try.prog 49 #[.agg #[.int .i64 n]] w fun e w' => e = .returned (.int .i64 (sqc n)) ∧ Below w.heap.size w w' := by
  rcases four h1 h2 with rfl | rfl | rfl | rfl
  · have hB0 := balloc (Below.refl w.heap.size w) (.cells #[.int .i64 1] 51)
    have hm0 : (w.alloc (.cells #[.int .i64 1] 51)).cell? ⟨w.heap.size, 0, none⟩ = some (.int .i64 1) := by go_cell
    have hlt : w.heap.size < (w.alloc (.cells #[.int .i64 1] 51)).heap.size := by simp
    go_enter Try.func49, Try.ntmps49
    go_wp2_with fail
    refine wp_region_below (by kernel_rfl) (by kernel_rfl) ?_
    intro ι hne f hbf hcl
    have hm : ∀ i, (f i).cell? ⟨w.heap.size, 0, none⟩ = some (.int .i64 1) := fun i => ((hbf i).cell (p := ⟨w.heap.size, 0, none⟩) hlt).trans hm0
    repeat (go_big_quiet_step (first | (go_at_call 82; with_reducible refine (sqWidth_any 1 3 (by decide) (by decide) rfl _).mono ?_; rintro e w' ⟨rfl, hb⟩; exact ⟨rfl, hcl _ _ hb⟩)))
    refine wpQuiet_nil ?_
    rintro _ ⟨j, rfl⟩
    have hb := bnext hB0 (hbf j)
    generalize f j = w' at hb ⊢
    go_wp2_with fail
    go_ret
    exact ⟨rfl, hb⟩
  · have hB0 := balloc (Below.refl w.heap.size w) (.cells #[.int .i64 2] 51)
    have hm0 : (w.alloc (.cells #[.int .i64 2] 51)).cell? ⟨w.heap.size, 0, none⟩ = some (.int .i64 2) := by go_cell
    have hlt : w.heap.size < (w.alloc (.cells #[.int .i64 2] 51)).heap.size := by simp
    go_enter Try.func49, Try.ntmps49
    go_wp2_with fail
    refine wp_region_below (by kernel_rfl) (by kernel_rfl) ?_
    intro ι hne f hbf hcl
    have hm : ∀ i, (f i).cell? ⟨w.heap.size, 0, none⟩ = some (.int .i64 2) := fun i => ((hbf i).cell (p := ⟨w.heap.size, 0, none⟩) hlt).trans hm0
    repeat (go_big_quiet_step (first | (go_at_call 82; with_reducible refine (sqWidth_any 2 5 (by decide) (by decide) rfl _).mono ?_; rintro e w' ⟨rfl, hb⟩; exact ⟨rfl, hcl _ _ hb⟩)))
    refine wpQuiet_nil ?_
    rintro _ ⟨j, rfl⟩
    have hb := bnext hB0 (hbf j)
    generalize f j = w' at hb ⊢
    go_wp2_with fail
    go_ret
    exact ⟨rfl, hb⟩
  · have hB0 := balloc (Below.refl w.heap.size w) (.cells #[.int .i64 3] 51)
    have hm0 : (w.alloc (.cells #[.int .i64 3] 51)).cell? ⟨w.heap.size, 0, none⟩ = some (.int .i64 3) := by go_cell
    have hlt : w.heap.size < (w.alloc (.cells #[.int .i64 3] 51)).heap.size := by simp
    go_enter Try.func49, Try.ntmps49
    go_wp2_with fail
    refine wp_region_below (by kernel_rfl) (by kernel_rfl) ?_
    intro ι hne f hbf hcl
    have hm : ∀ i, (f i).cell? ⟨w.heap.size, 0, none⟩ = some (.int .i64 3) := fun i => ((hbf i).cell (p := ⟨w.heap.size, 0, none⟩) hlt).trans hm0
    repeat (go_big_quiet_step (first | (go_at_call 82; with_reducible refine (sqWidth_any 3 7 (by decide) (by decide) rfl _).mono ?_; rintro e w' ⟨rfl, hb⟩; exact ⟨rfl, hcl _ _ hb⟩)))
    refine wpQuiet_nil ?_
    rintro _ ⟨j, rfl⟩
    have hb := bnext hB0 (hbf j)
    generalize f j = w' at hb ⊢
    go_wp2_with fail
    go_ret
    exact ⟨rfl, hb⟩
  · have hB0 := balloc (Below.refl w.heap.size w) (.cells #[.int .i64 4] 51)
    have hm0 : (w.alloc (.cells #[.int .i64 4] 51)).cell? ⟨w.heap.size, 0, none⟩ = some (.int .i64 4) := by go_cell
    have hlt : w.heap.size < (w.alloc (.cells #[.int .i64 4] 51)).heap.size := by simp
    go_enter Try.func49, Try.ntmps49
    go_wp2_with fail
    refine wp_region_below (by kernel_rfl) (by kernel_rfl) ?_
    intro ι hne f hbf hcl
    have hm : ∀ i, (f i).cell? ⟨w.heap.size, 0, none⟩ = some (.int .i64 4) := fun i => ((hbf i).cell (p := ⟨w.heap.size, 0, none⟩) hlt).trans hm0
    repeat (go_big_quiet_step (first | (go_at_call 82; with_reducible refine (sqWidth_any 4 9 (by decide) (by decide) rfl _).mono ?_; rintro e w' ⟨rfl, hb⟩; exact ⟨rfl, hcl _ _ hb⟩)))
    refine wpQuiet_nil ?_
    rintro _ ⟨j, rfl⟩
    have hb := bnext hB0 (hbf j)
    generalize f j = w' at hb ⊢
    go_wp2_with fail
    go_ret
    exact ⟨rfl, hb⟩
set_option maxHeartbeats 800000 in
theorem opIndex_any (n x y : Int) (h1 : 1 ≤ n) (h2 : n ≤ 4) (x1 : -n ≤ x) (x2 : x ≤ n) (y1 : -n ≤ y) (y2 : y ≤ n) (w : World) :
    Calls Try.prog 55 #[.int .i64 n, .int .i64 x, .int .i64 y] w fun e w' => e = .returned (.int .i64 (oi n x y)) ∧ w = w' := by
  rcases four h1 h2 with rfl | rfl | rfl | rfl
  all_goals
    go_enter Try.func55, Try.ntmps55
    go_wp2
    go_ret
    exact ⟨ret_int (by simp only [oi]; omega), rfl⟩
set_option maxHeartbeats 800000 in
theorem sqIndexOf_any (n x y : Int) (h1 : 1 ≤ n) (h2 : n ≤ 4) (x1 : -n ≤ x) (x2 : x ≤ n) (y1 : -n ≤ y) (y2 : y ≤ n) (w : World) :
    Calls Try.prog 57 #[.agg #[.int .i64 n], .int .i64 x, .int .i64 y] w fun e w' => e = .returned (.int .i64 (oi n x y)) ∧ Below w.heap.size w w' := by
  rcases four h1 h2 with rfl | rfl | rfl | rfl
  · have hB0 := balloc (Below.refl w.heap.size w) (.cells #[.int .i64 1] 51)
    have hm0 : (w.alloc (.cells #[.int .i64 1] 51)).cell? ⟨w.heap.size, 0, none⟩ = some (.int .i64 1) := by go_cell
    have hlt : w.heap.size < (w.alloc (.cells #[.int .i64 1] 51)).heap.size := by simp
    go_enter Try.func57, Try.ntmps57
    go_wp2_with fail
    refine wp_region_below (by kernel_rfl) (by kernel_rfl) ?_
    intro ι hne f hbf hcl
    have hm : ∀ i, (f i).cell? ⟨w.heap.size, 0, none⟩ = some (.int .i64 1) := fun i => ((hbf i).cell (p := ⟨w.heap.size, 0, none⟩) hlt).trans hm0
    repeat (go_big_quiet_step (first | (go_at_call 82; with_reducible refine (sqWidth_any 1 3 (by decide) (by decide) rfl _).mono ?_; rintro e w' ⟨rfl, hb⟩; exact ⟨rfl, hcl _ _ hb⟩)))
    refine wpQuiet_nil ?_
    rintro _ ⟨j, rfl⟩
    have hb := bnext hB0 (hbf j)
    generalize f j = w' at hb ⊢
    go_wp2_with fail
    go_ret
    exact ⟨ret_int (by simp only [oi]; omega), hb⟩
  · have hB0 := balloc (Below.refl w.heap.size w) (.cells #[.int .i64 2] 51)
    have hm0 : (w.alloc (.cells #[.int .i64 2] 51)).cell? ⟨w.heap.size, 0, none⟩ = some (.int .i64 2) := by go_cell
    have hlt : w.heap.size < (w.alloc (.cells #[.int .i64 2] 51)).heap.size := by simp
    go_enter Try.func57, Try.ntmps57
    go_wp2_with fail
    refine wp_region_below (by kernel_rfl) (by kernel_rfl) ?_
    intro ι hne f hbf hcl
    have hm : ∀ i, (f i).cell? ⟨w.heap.size, 0, none⟩ = some (.int .i64 2) := fun i => ((hbf i).cell (p := ⟨w.heap.size, 0, none⟩) hlt).trans hm0
    repeat (go_big_quiet_step (first | (go_at_call 82; with_reducible refine (sqWidth_any 2 5 (by decide) (by decide) rfl _).mono ?_; rintro e w' ⟨rfl, hb⟩; exact ⟨rfl, hcl _ _ hb⟩)))
    refine wpQuiet_nil ?_
    rintro _ ⟨j, rfl⟩
    have hb := bnext hB0 (hbf j)
    generalize f j = w' at hb ⊢
    go_wp2_with fail
    go_ret
    exact ⟨ret_int (by simp only [oi]; omega), hb⟩
  · have hB0 := balloc (Below.refl w.heap.size w) (.cells #[.int .i64 3] 51)
    have hm0 : (w.alloc (.cells #[.int .i64 3] 51)).cell? ⟨w.heap.size, 0, none⟩ = some (.int .i64 3) := by go_cell
    have hlt : w.heap.size < (w.alloc (.cells #[.int .i64 3] 51)).heap.size := by simp
    go_enter Try.func57, Try.ntmps57
    go_wp2_with fail
    refine wp_region_below (by kernel_rfl) (by kernel_rfl) ?_
    intro ι hne f hbf hcl
    have hm : ∀ i, (f i).cell? ⟨w.heap.size, 0, none⟩ = some (.int .i64 3) := fun i => ((hbf i).cell (p := ⟨w.heap.size, 0, none⟩) hlt).trans hm0
    repeat (go_big_quiet_step (first | (go_at_call 82; with_reducible refine (sqWidth_any 3 7 (by decide) (by decide) rfl _).mono ?_; rintro e w' ⟨rfl, hb⟩; exact ⟨rfl, hcl _ _ hb⟩)))
    refine wpQuiet_nil ?_
    rintro _ ⟨j, rfl⟩
    have hb := bnext hB0 (hbf j)
    generalize f j = w' at hb ⊢
    go_wp2_with fail
    go_ret
    exact ⟨ret_int (by simp only [oi]; omega), hb⟩
  · have hB0 := balloc (Below.refl w.heap.size w) (.cells #[.int .i64 4] 51)
    have hm0 : (w.alloc (.cells #[.int .i64 4] 51)).cell? ⟨w.heap.size, 0, none⟩ = some (.int .i64 4) := by go_cell
    have hlt : w.heap.size < (w.alloc (.cells #[.int .i64 4] 51)).heap.size := by simp
    go_enter Try.func57, Try.ntmps57
    go_wp2_with fail
    refine wp_region_below (by kernel_rfl) (by kernel_rfl) ?_
    intro ι hne f hbf hcl
    have hm : ∀ i, (f i).cell? ⟨w.heap.size, 0, none⟩ = some (.int .i64 4) := fun i => ((hbf i).cell (p := ⟨w.heap.size, 0, none⟩) hlt).trans hm0
    repeat (go_big_quiet_step (first | (go_at_call 82; with_reducible refine (sqWidth_any 4 9 (by decide) (by decide) rfl _).mono ?_; rintro e w' ⟨rfl, hb⟩; exact ⟨rfl, hcl _ _ hb⟩)))
    refine wpQuiet_nil ?_
    rintro _ ⟨j, rfl⟩
    have hb := bnext hB0 (hbf j)
    generalize f j = w' at hb ⊢
    go_wp2_with fail
    go_ret
    exact ⟨ret_int (by simp only [oi]; omega), hb⟩
set_option maxHeartbeats 800000 in
theorem sqHas_yes (n x y : Int) (h1 : 1 ≤ n) (h2 : n ≤ 4) (x1 : -n ≤ x) (x2 : x ≤ n) (y1 : -n ≤ y) (y2 : y ≤ n) (w : World) :
    Calls Try.prog 56 #[.agg #[.int .i64 n], .int .i64 x, .int .i64 y] w fun e w' => e = .returned (.bool true) ∧ Below w.heap.size w w' := by
  go_enter Try.func56, Try.ntmps56
  go_wp2
  go_ret
  exact ⟨ret_bool (by simp <;> omega), by go_grown⟩
set_option maxHeartbeats 800000 in
theorem sqHas_no (n x y : Int) (h1 : 1 ≤ n) (h2 : n ≤ 4) (h : ¬ (-n ≤ x ∧ x ≤ n ∧ -n ≤ y ∧ y ≤ n)) (w : World) :
    Calls Try.prog 56 #[.agg #[.int .i64 n], .int .i64 x, .int .i64 y] w fun e w' => e = .returned (.bool false) ∧ Below w.heap.size w w' := by
  by_cases x1 : -n ≤ x
  · by_cases x2 : x ≤ n
    · by_cases y1 : -n ≤ y
      · by_cases y2 : y ≤ n
        · exact absurd ⟨x1, x2, y1, y2⟩ h
        · clear h
          go_enter Try.func56, Try.ntmps56
          go_wp2
          go_ret
          exact ⟨ret_bool (by simp <;> omega), by go_grown⟩
      · clear h
        go_enter Try.func56, Try.ntmps56
        go_wp2
        go_ret
        exact ⟨ret_bool (by simp <;> omega), by go_grown⟩
    · clear h
      go_enter Try.func56, Try.ntmps56
      go_wp2
      go_ret
      exact ⟨ret_bool (by simp <;> omega), by go_grown⟩
  · clear h
    go_enter Try.func56, Try.ntmps56
    go_wp2
    go_ret
    exact ⟨ret_bool (by simp <;> omega), by go_grown⟩
set_option maxHeartbeats 800000 in
theorem sqHasPoint_yes (n i : Int) (h : okSq n i) (w : World) :
    Calls Try.prog 52 #[.agg #[.int .i64 n], .int .i64 i] w fun e w' => e = .returned (.bool true) ∧ Below w.heap.size w w' := by
  obtain ⟨h1, h2, h3, h4⟩ := h
  obtain ⟨hc0, hc⟩ := sqc_bd h1 h2
  go_enter Try.func52, Try.ntmps52
  go_wp2_with fail
  refine (sqSize_any n h1 h2 _).mono ?_
  rintro e w1 ⟨rfl, hb⟩
  have hB : Below w.heap.size w w1 := Below.trans (by go_grown) (hb.mono (by simp))
  generalize sqc n = s at *
  go_wp2_with fail
  go_ret
  exact ⟨rfl, hB⟩
set_option maxHeartbeats 800000 in
theorem sqHasPoint_no (n i : Int) (h1 : 1 ≤ n) (h2 : n ≤ 4) (h : ¬ okSq n i) (w : World) :
    Calls Try.prog 52 #[.agg #[.int .i64 n], .int .i64 i] w fun e w' => e = .returned (.bool false) ∧ Below w.heap.size w w' := by
  obtain ⟨hc0, hc⟩ := sqc_bd h1 h2
  by_cases h3 : 0 ≤ i
  · have h4 : ¬ i < sqc n := fun h4 => h ⟨h1, h2, h3, h4⟩
    clear h
    go_enter Try.func52, Try.ntmps52
    go_wp2_with fail
    refine (sqSize_any n h1 h2 _).mono ?_
    rintro e w1 ⟨rfl, hb⟩
    have hB : Below w.heap.size w w1 := Below.trans (by go_grown) (hb.mono (by simp))
    generalize sqc n = s at *
    go_wp2_with fail
    go_ret
    exact ⟨ret_bool (by simp <;> omega), hB⟩
  · clear h
    go_enter Try.func52, Try.ntmps52
    go_wp2_with fail
    go_ret
    exact ⟨rfl, by go_grown⟩
set_option maxHeartbeats 800000 in
theorem opPoint_yes (n i : Int) (h : okSq n i) (w : World) :
    Calls Try.prog 50 #[.int .i64 n, .int .i64 i] w fun e w' => e = .returned (.bool true) ∧ w = w' := by
  obtain ⟨h1, h2, h3, h4⟩ := h
  obtain ⟨hc0, hc⟩ := sqc_bd h1 h2
  go_enter Try.func50, Try.ntmps50
  go_wp2_with fail
  refine (opReach_yes n h1 h2 _).mono ?_
  rintro e w' ⟨rfl, rfl⟩
  go_wp2_with fail
  refine (opCount_any n h1 h2 _).mono ?_
  rintro e w' ⟨rfl, rfl⟩
  generalize sqc n = s at *
  go_wp2_with fail
  refine (l1In_yes i 0 (s - 1) ⟨h3, by omega⟩ _).mono ?_
  rintro e w' ⟨rfl, rfl⟩
  go_wp2_with fail
  go_ret
  exact ⟨rfl, rfl⟩
set_option maxHeartbeats 800000 in
theorem opPoint_no (n i : Int) (h : ¬ okSq n i) (w : World) :
    Calls Try.prog 50 #[.int .i64 n, .int .i64 i] w fun e w' => e = .returned (.bool false) ∧ w = w' := by
  by_cases hr : 1 ≤ n ∧ n ≤ 4
  · obtain ⟨h1, h2⟩ := hr
    obtain ⟨hc0, hc⟩ := sqc_bd h1 h2
    have h5 : ¬ (0 ≤ i ∧ i ≤ sqc n - 1) := fun k => h ⟨h1, h2, k.1, by omega⟩
    clear h
    go_enter Try.func50, Try.ntmps50
    go_wp2_with fail
    refine (opReach_yes n h1 h2 _).mono ?_
    rintro e w' ⟨rfl, rfl⟩
    go_wp2_with fail
    refine (opCount_any n h1 h2 _).mono ?_
    rintro e w' ⟨rfl, rfl⟩
    generalize sqc n = s at *
    go_wp2_with fail
    refine (l1In_no i 0 (s - 1) h5 _).mono ?_
    rintro e w' ⟨rfl, rfl⟩
    go_wp2_with fail
    go_ret
    exact ⟨rfl, rfl⟩
  · clear h
    go_enter Try.func50, Try.ntmps50
    go_wp2_with fail
    refine (opReach_no n hr _).mono ?_
    rintro e w' ⟨rfl, rfl⟩
    go_wp2_with fail
    go_ret
    exact ⟨rfl, rfl⟩
end Go.Proofs.Ytgpikaolgalpbaa
