import Derived.Test.YtcahecohjmahaaaDoorYk
namespace Go.Proofs.YtcahecohjmahaaaDoor
open Go.RowKit
set_option maxRecDepth 4000
def inB (x lo hi : Int) : Bool := decide (lo ≤ x ∧ x ≤ hi)
theorem l1In_any (n lo hi : Int) (w : World) : Calls Tryd.prog 57 #[.int .i64 n, .int .i64 lo, .int .i64 hi] w fun e w' => e = .returned (.bool (inB n lo hi)) ∧ w = w' := by
  by_cases h : lo ≤ n ∧ n ≤ hi
  · rw [inB, decide_eq_true h]; exact l1In_yes n lo hi h w
  · rw [inB, decide_eq_false h]; exact l1In_no n lo hi h w
/-- Neighbours, by the differences of both numbers. -/
def nearD (X Y : Int) : Bool := (inB X 0 1 && (inB Y 0 1 && decide (X + Y > 0))) || (inB X (-1) 0 && (inB Y (-1) 0 && decide (X + Y < 0)))
def nearS (n i j : Int) : Bool := nearD (ax n j - ax n i) (ay n j - ay n i)
set_option maxHeartbeats 6400000 in
theorem opNear_any (n i j : Int) (h1 : 1 ≤ n) (h2 : n ≤ 4) (i1 : 0 ≤ i) (i2 : i < sqc n) (j1 : 0 ≤ j) (j2 : j < sqc n) (w : World) :
    Calls Tryd.prog 50 #[.int .i64 n, .int .i64 i, .int .i64 j] w fun e w' => e = .returned (.bool (nearS n i j)) ∧ Below w.heap.size w w' := by
  have hc := sqc_bd h1 h2
  have HA1 := Lib.hid (fun w => opAt_any n i h1 h2 i1 (by omega) w)
  have HA2 := Lib.hid (fun w => opAt_any n j h1 h2 j1 (by omega) w)
  have b1 := ax_bd (i := i) h1 h2
  have b2 := ax_bd (i := j) h1 h2
  have b3 := ay_bd h1 h2 i1 i2
  have b4 := ay_bd h1 h2 j1 j2
  have HN : Hid (nearS n i j = nearD (ax n j - ax n i) (ay n j - ay n i)) := Lib.hid rfl
  generalize ax n i = x at *
  generalize ay n i = y at *
  generalize ax n j = u at *
  generalize ay n j = v at *
  clear i1 i2 j1 j2 hc
  go_enter Tryd.func50, Tryd.ntmps50
  go_wp2_with fail
  refine (HA1.out _).mono ?_
  rintro e w1 ⟨rfl, hb1⟩
  go_wp2_with fail
  refine (HA2.out _).mono ?_
  rintro e w2 ⟨rfl, hb2⟩
  have hB := bnext hb1 hb2
  clear hb1 hb2 HA1 HA2
  obtain ⟨X, hX⟩ : ∃ X, u - x = X := ⟨_, rfl⟩
  obtain ⟨Y, hY⟩ : ∃ Y, v - y = Y := ⟨_, rfl⟩
  rw [hX, hY] at HN
  have bX : -8 ≤ X ∧ X ≤ 8 := by omega
  have bY : -8 ≤ Y ∧ Y ≤ 8 := by omega
  go_wp2_with fail
  clear hX hY b1 b2 b3 b4
  cases hA : inB X 0 1 <;> cases hB1 : inB Y 0 1 <;> cases hD : inB X (-1) 0 <;> cases hE : inB Y (-1) 0
  all_goals
    rcases (by omega : X + Y < 0 ∨ X + Y > 0 ∨ (¬ X + Y < 0 ∧ ¬ X + Y > 0)) with hS | hS | ⟨hS, hS2⟩
    all_goals
      repeat (refine (l1In_any _ _ _ _).mono ?_; rintro e w' ⟨rfl, rfl⟩; (first | rw [hA] | rw [hB1] | rw [hD] | rw [hE]); go_wp2_with fail)
      go_ret
      exact ⟨ret_bool (by rw [HN.out, nearD, hA, hB1, hD, hE]; simp; try omega), hB⟩
end Go.Proofs.YtcahecohjmahaaaDoor
