import Derived.Test.YtgpikaolgalpbaaSb
namespace Go.Proofs.Ytgpikaolgalpbaa
open Go.RowKit
set_option maxRecDepth 4000
/-- A point that there is, by its two numbers. -/
def okXY (n x y : Int) : Prop := -n ≤ x ∧ x ≤ n ∧ -n ≤ y ∧ y ≤ n
set_option maxHeartbeats 800000 in
theorem specSquareIndex_yes (n x y : Int) (h1 : 1 ≤ n) (h2 : n ≤ 4) (h : okXY n x y) (w : World) :
    Calls Try.prog 22 #[.int .i64 n, .int .i64 x, .int .i64 y] w fun e w' => e = .returned (.tuple #[.int .i64 (oi n x y), .bool true]) ∧ Below w.heap.size w w' := by
  obtain ⟨x1, x2, y1, y2⟩ := h
  go_enter Try.func22, Try.ntmps22
  go_wp2_with fail
  refine (opReach_yes n h1 h2 _).mono ?_
  rintro e w' ⟨rfl, rfl⟩
  go_wp2_with fail
  refine (l1In_yes x (-n) n ⟨x1, x2⟩ _).mono ?_
  rintro e w' ⟨rfl, rfl⟩
  go_wp2_with fail
  refine (l1In_yes y (-n) n ⟨y1, y2⟩ _).mono ?_
  rintro e w' ⟨rfl, rfl⟩
  go_wp2_with fail
  refine (opIndex_any n x y h1 h2 x1 x2 y1 y2 _).mono ?_
  rintro e w' ⟨rfl, rfl⟩
  go_wp2_with fail
  go_returns
  exact ⟨rfl, by go_grown⟩
set_option maxHeartbeats 800000 in
theorem specSquareIndex_no (n x y : Int) (h1 : 1 ≤ n) (h2 : n ≤ 4) (h : ¬ okXY n x y) (w : World) :
    Calls Try.prog 22 #[.int .i64 n, .int .i64 x, .int .i64 y] w fun e w' => e = .returned (.tuple #[.int .i64 0, .bool false]) ∧ Below w.heap.size w w' := by
  by_cases hx : -n ≤ x ∧ x ≤ n
  · have hy : ¬ (-n ≤ y ∧ y ≤ n) := fun k => h ⟨hx.1, hx.2, k.1, k.2⟩
    clear h
    go_enter Try.func22, Try.ntmps22
    go_wp2_with fail
    refine (opReach_yes n h1 h2 _).mono ?_
    rintro e w' ⟨rfl, rfl⟩
    go_wp2_with fail
    refine (l1In_yes x (-n) n hx _).mono ?_
    rintro e w' ⟨rfl, rfl⟩
    go_wp2_with fail
    refine (l1In_no y (-n) n hy _).mono ?_
    rintro e w' ⟨rfl, rfl⟩
    go_wp2_with fail
    go_returns
    exact ⟨rfl, by go_grown⟩
  · clear h
    go_enter Try.func22, Try.ntmps22
    go_wp2_with fail
    refine (opReach_yes n h1 h2 _).mono ?_
    rintro e w' ⟨rfl, rfl⟩
    go_wp2_with fail
    refine (l1In_no x (-n) n hx _).mono ?_
    rintro e w' ⟨rfl, rfl⟩
    go_wp2_with fail
    go_returns
    exact ⟨rfl, by go_grown⟩
set_option maxHeartbeats 800000 in
theorem implSquareIndex_yes (n x y : Int) (h1 : 1 ≤ n) (h2 : n ≤ 4) (h : okXY n x y) (w : World) :
    Calls Try.prog 23 #[.int .i64 n, .int .i64 x, .int .i64 y] w fun e w' => e = .returned (.tuple #[.int .i64 (oi n x y), .bool true]) ∧ Below w.heap.size w w' := by
  obtain ⟨x1, x2, y1, y2⟩ := h
  go_enter Try.func23, Try.ntmps23
  go_wp2_with fail
  refine (squareOf_yes n h1 h2 _).mono ?_
  rintro e w1 ⟨rfl, hb1⟩
  go_wp2_with fail
  refine (sqHas_yes n x y h1 h2 x1 x2 y1 y2 _).mono ?_
  rintro e w2 ⟨rfl, hb2⟩
  have hB2 := bnext (balloc hb1 _) hb2
  have hm2 : w2.cell? ⟨w1.heap.size, 0, none⟩ = some (.int .i64 n) := by rw [hb2.cell (by simp)]; go_cell
  clear hb1 hb2
  go_wp2_with fail
  refine (sqIndexOf_any n x y h1 h2 x1 x2 y1 y2 _).mono ?_
  rintro e w3 ⟨rfl, hb3⟩
  go_wp2_with fail
  go_returns
  exact ⟨rfl, bnext hB2 hb3⟩
set_option maxHeartbeats 800000 in
theorem implSquareIndex_no (n x y : Int) (h1 : 1 ≤ n) (h2 : n ≤ 4) (h : ¬ okXY n x y) (w : World) :
    Calls Try.prog 23 #[.int .i64 n, .int .i64 x, .int .i64 y] w fun e w' => e = .returned (.tuple #[.int .i64 0, .bool false]) ∧ Below w.heap.size w w' := by
  go_enter Try.func23, Try.ntmps23
  go_wp2_with fail
  refine (squareOf_yes n h1 h2 _).mono ?_
  rintro e w1 ⟨rfl, hb1⟩
  go_wp2_with fail
  refine (sqHas_no n x y h1 h2 h _).mono ?_
  rintro e w2 ⟨rfl, hb2⟩
  have hB2 := bnext (balloc hb1 _) hb2
  go_wp2_with fail
  go_returns
  exact ⟨rfl, hB2⟩
set_option maxHeartbeats 800000 in
theorem specSquareIndex_nr (n x y : Int) (h : ¬ (1 ≤ n ∧ n ≤ 4)) (w : World) :
    Calls Try.prog 22 #[.int .i64 n, .int .i64 x, .int .i64 y] w fun e w' => e = .returned (.tuple #[.int .i64 0, .bool false]) ∧ Below w.heap.size w w' := by
  go_enter Try.func22, Try.ntmps22
  go_wp2_with fail
  refine (opReach_no n h _).mono ?_
  rintro e w' ⟨rfl, rfl⟩
  go_wp2_with fail
  go_returns
  exact ⟨rfl, by go_grown⟩
set_option maxHeartbeats 800000 in
theorem implSquareIndex_nr (n x y : Int) (h : ¬ (1 ≤ n ∧ n ≤ 4)) (w : World) :
    Calls Try.prog 23 #[.int .i64 n, .int .i64 x, .int .i64 y] w fun e w' => e = .returned (.tuple #[.int .i64 0, .bool false]) ∧ Below w.heap.size w w' := by
  go_enter Try.func23, Try.ntmps23
  go_wp2_with fail
  refine (squareOf_no n h _).mono ?_
  rintro e w1 ⟨rfl, hb1⟩
  go_wp2_with fail
  go_returns
  exact ⟨rfl, balloc hb1 _⟩
set_option maxHeartbeats 800000 in
theorem lawOf_SquareIndex (n x y : Int) (res : Int) (ok : Bool)
    (hs : ∀ w, Calls Try.prog 22 #[.int .i64 n, .int .i64 x, .int .i64 y] w fun e w' => e = .returned (.tuple #[.int .i64 res, .bool ok]) ∧ Below w.heap.size w w')
    (hi : ∀ w, Calls Try.prog 23 #[.int .i64 n, .int .i64 x, .int .i64 y] w fun e w' => e = .returned (.tuple #[.int .i64 res, .bool ok]) ∧ Below w.heap.size w w') (w : World) :
    Calls Try.prog 5 #[.int .i64 n, .int .i64 x, .int .i64 y] w fun e w' => e = .returned (.bool true) ∧ Below w.heap.size w w' := by
  have HS := Lib.hid hs
  have HI := Lib.hid hi
  clear hs hi
  have hok : (ok != ok) = false := by simp
  have hat : (res != res) = false := by simp
  go_enter Try.func5, Try.ntmps5
  go_wp2_with fail
  refine (HS.out _).mono ?_
  rintro e w1 ⟨rfl, hb1⟩
  go_wp2_with fail
  refine (HI.out _).mono ?_
  rintro e w2 ⟨rfl, hb2⟩
  go_wp2_with fail
  go_ret
  exact ⟨rfl, bnext hb1 hb2⟩
theorem law_SquareIndex (n : Int) (_ : (Lit.int .i64 n).wf = true) (x : Int) (_ : (Lit.int .i64 x).wf = true) (y : Int) (_ : (Lit.int .i64 y).wf = true) (w : World) :
    Calls Try.prog 5 #[.int .i64 n, .int .i64 x, .int .i64 y] w fun e w' => e = .returned (.bool true) ∧ Below w.heap.size w w' := by
  by_cases hr : 1 ≤ n ∧ n ≤ 4
  · by_cases h : okXY n x y
    · exact lawOf_SquareIndex n x y _ true (fun w => specSquareIndex_yes n x y hr.1 hr.2 h w) (fun w => implSquareIndex_yes n x y hr.1 hr.2 h w) w
    · exact lawOf_SquareIndex n x y _ false (fun w => specSquareIndex_no n x y hr.1 hr.2 h w) (fun w => implSquareIndex_no n x y hr.1 hr.2 h w) w
  · exact lawOf_SquareIndex n x y _ false (fun w => specSquareIndex_nr n x y hr w) (fun w => implSquareIndex_nr n x y hr w) w
end Go.Proofs.Ytgpikaolgalpbaa
