import Derived.LoopN
import Derived.BigRegion
import Derived.Test.YtelchpdlfedleaaS20
import Derived.Test.YtelchpdlfedleaaS22
namespace Go.Proofs.Ytelchpdlfedleaa
open Go.RowKit
set_option maxRecDepth 4000
set_option maxHeartbeats 800000 in
theorem min3_any (x y z : Int) (b cap : Nat) (w : World) (c0 : w.cell? ⟨b, 0, none⟩ = some (.int .i64 x)) (c1 : w.cell? ⟨b, 1, none⟩ = some (.int .i64 y)) (c2 : w.cell? ⟨b, 2, none⟩ = some (.int .i64 z)) :
    Calls Try.prog 104 #[.slice (some ⟨b, 0, none⟩) 3 cap] w fun e w' => e = .returned (.int .i64 (min (min x y) z)) ∧ w = w' := by
  go_enter Try.func104, Try.ntmps104
  go_wp2_with fail
  go_rounds 3
  all_goals (go_ret; exact ⟨ret_int (by omega), rfl⟩)
set_option maxHeartbeats 800000 in
theorem max3_any (x y z : Int) (b cap : Nat) (w : World) (c0 : w.cell? ⟨b, 0, none⟩ = some (.int .i64 x)) (c1 : w.cell? ⟨b, 1, none⟩ = some (.int .i64 y)) (c2 : w.cell? ⟨b, 2, none⟩ = some (.int .i64 z)) :
    Calls Try.prog 105 #[.slice (some ⟨b, 0, none⟩) 3 cap] w fun e w' => e = .returned (.int .i64 (max (max x y) z)) ∧ w = w' := by
  go_enter Try.func105, Try.ntmps105
  go_wp2_with fail
  go_rounds 3
  all_goals (go_ret; exact ⟨ret_int (by omega), rfl⟩)
def agB (x y z : Int) : Bool := decide (0 < min (min x y) z) || decide (max (max x y) z < 0)
def dsB (x y z : Int) : Bool := decide (min (min x y) z < 0) && decide (0 < max (max x y) z)
theorem agB_eq (x y z : Int) : agB x y z = decide (hasV x y z = 1 ∨ hasV x y z = -1) := by
  unfold agB hasV
  rw [Bool.eq_iff_iff]
  simp only [Bool.or_eq_true, decide_eq_true_eq]
  by_cases a1 : 0 < x <;> by_cases a2 : x < 0 <;> by_cases b1 : 0 < y <;> by_cases b2 : y < 0 <;> by_cases c1 : 0 < z <;> by_cases c2 : z < 0 <;> simp [a1, a2, b1, b2, c1, c2] <;> omega
theorem dsB_eq (x y z : Int) : dsB x y z = decide (hasV x y z = 0) := by
  unfold dsB hasV
  rw [Bool.eq_iff_iff]
  simp only [Bool.and_eq_true, decide_eq_true_eq]
  by_cases a1 : 0 < x <;> by_cases a2 : x < 0 <;> by_cases b1 : 0 < y <;> by_cases b2 : y < 0 <;> by_cases c1 : 0 < z <;> by_cases c2 : z < 0 <;> simp [a1, a2, b1, b2, c1, c2] <;> omega
set_option maxHeartbeats 800000 in
theorem agree_any (x y z : Int) (w : World) :
    Calls Try.prog 66 #[.agg (spA3 x y z)] w fun e w' => e = .returned (.bool (agB x y z)) ∧ Below w.heap.size w w' := by
  have hg := heap_alloc_new w (.cells (spA3 x y z) 71)
  have hb := balloc (Below.refl w.heap.size w) (.cells (spA3 x y z) 71)
  have H1 := Lib.hid (min3_any x y z w.heap.size 3 _ (blk_cell hg 0 _ rfl) (blk_cell hg 1 _ rfl) (blk_cell hg 2 _ rfl))
  have H2 := Lib.hid (max3_any x y z w.heap.size 3 _ (blk_cell hg 0 _ rfl) (blk_cell hg 1 _ rfl) (blk_cell hg 2 _ rfl))
  have HV : Hid (agB x y z = (decide (0 < min (min x y) z) || decide (max (max x y) z < 0))) := Lib.hid rfl
  generalize min (min x y) z = m at *
  generalize max (max x y) z = mm at *
  clear hg
  by_cases h1 : 0 < m
  · have d1 : decide (0 < m) = true := by simpa using h1
    have HE : Hid (agB x y z = true) := Lib.hid (by rw [HV.out, d1]; rfl)
    go_enter Try.func66, Try.ntmps66
    go_wp2_with fail
    refine H1.out.mono ?_
    rintro e w' ⟨rfl, rfl⟩
    go_wp2_with fail
    go_ret
    exact ⟨ret_bool HE.out.symm, hb⟩
  · have d1 : decide (0 < m) = false := by simpa using h1
    have HE : Hid (agB x y z = decide (mm < 0)) := Lib.hid (by rw [HV.out, d1]; rfl)
    go_enter Try.func66, Try.ntmps66
    go_wp2_with fail
    refine H1.out.mono ?_
    rintro e w' ⟨rfl, rfl⟩
    go_wp2_with fail
    refine H2.out.mono ?_
    rintro e w' ⟨rfl, rfl⟩
    go_wp2_with fail
    go_ret
    exact ⟨ret_bool HE.out.symm, hb⟩
set_option maxHeartbeats 800000 in
theorem disagree_any (x y z : Int) (w : World) :
    Calls Try.prog 111 #[.agg (spA3 x y z)] w fun e w' => e = .returned (.bool (dsB x y z)) ∧ Below w.heap.size w w' := by
  have hg := heap_alloc_new w (.cells (spA3 x y z) 71)
  have hb := balloc (Below.refl w.heap.size w) (.cells (spA3 x y z) 71)
  have H1 := Lib.hid (min3_any x y z w.heap.size 3 _ (blk_cell hg 0 _ rfl) (blk_cell hg 1 _ rfl) (blk_cell hg 2 _ rfl))
  have H2 := Lib.hid (max3_any x y z w.heap.size 3 _ (blk_cell hg 0 _ rfl) (blk_cell hg 1 _ rfl) (blk_cell hg 2 _ rfl))
  have HV : Hid (dsB x y z = (decide (min (min x y) z < 0) && decide (0 < max (max x y) z))) := Lib.hid rfl
  generalize min (min x y) z = m at *
  generalize max (max x y) z = mm at *
  clear hg
  by_cases h1 : m < 0
  · have d1 : decide (m < 0) = true := by simpa using h1
    have HE : Hid (dsB x y z = decide (0 < mm)) := Lib.hid (by rw [HV.out, d1]; rfl)
    go_enter Try.func111, Try.ntmps111
    go_wp2_with fail
    refine H1.out.mono ?_
    rintro e w' ⟨rfl, rfl⟩
    go_wp2_with fail
    refine H2.out.mono ?_
    rintro e w' ⟨rfl, rfl⟩
    go_wp2_with fail
    go_ret
    exact ⟨ret_bool HE.out.symm, hb⟩
  · have d1 : decide (m < 0) = false := by simpa using h1
    have HE : Hid (dsB x y z = false) := Lib.hid (by rw [HV.out, d1]; rfl)
    go_enter Try.func111, Try.ntmps111
    go_wp2_with fail
    refine H1.out.mono ?_
    rintro e w' ⟨rfl, rfl⟩
    go_wp2_with fail
    go_ret
    exact ⟨ret_bool HE.out.symm, hb⟩
/-- The areas of a cell of the list, and what they tell. -/
def arK (im : List (List Int)) (n k : Nat) : Array Value := arA im n (cq n k 0) (cq n k 1) (cq n k 2)
def agK (im : List (List Int)) (n k : Nat) : Bool := decide (hasK im n k = 1 ∨ hasK im n k = -1)
theorem areasIn_cell (n k : Nat) (h1 : 1 ≤ n) (h2 : n ≤ 5) (hk : k < (ci n).length) (im : List (List Int)) (hy : imB n im = true) (w : World) :
    Calls Try.prog 63 #[.agg (mapA n im), .agg (trA n k)] w fun e w' => e = .returned (.agg (arK im n k)) ∧ Below w.heap.size w w' :=
  areasIn_any n h1 h2 im hy (cq n k 0) (cq n k 1) (cq n k 2) (cl_lt n k (by omega) hk 0 (by omega)) (cl_lt n k (by omega) hk 1 (by omega)) (cl_lt n k (by omega) hk 2 (by omega)) w
theorem agree_cell (n k : Nat) (im : List (List Int)) (w : World) :
    Calls Try.prog 66 #[.agg (arK im n k)] w fun e w' => e = .returned (.bool (agK im n k)) ∧ Below w.heap.size w w' := by
  have := agree_any (ar im n (cq n k 1) (cq n k 2)) (ar im n (cq n k 2) (cq n k 0)) (ar im n (cq n k 0) (cq n k 1)) w
  rw [agB_eq] at this
  exact this
theorem disagree_cell (n k : Nat) (im : List (List Int)) (w : World) :
    Calls Try.prog 111 #[.agg (arK im n k)] w fun e w' => e = .returned (.bool (decide (hasK im n k = 0))) ∧ Below w.heap.size w w' := by
  have := disagree_any (ar im n (cq n k 1) (cq n k 2)) (ar im n (cq n k 2) (cq n k 0)) (ar im n (cq n k 0) (cq n k 1)) w
  rw [dsB_eq] at this
  exact this
theorem hasV_four (x y z : Int) : hasV x y z = 1 ∨ hasV x y z = -1 ∨ hasV x y z = 0 ∨ hasV x y z = 2 := by
  unfold hasV
  split
  · exact .inl rfl
  · split
    · exact .inr (.inl rfl)
    · split
      · exact .inr (.inr (.inl rfl))
      · exact .inr (.inr (.inr rfl))
end Go.Proofs.Ytelchpdlfedleaa
