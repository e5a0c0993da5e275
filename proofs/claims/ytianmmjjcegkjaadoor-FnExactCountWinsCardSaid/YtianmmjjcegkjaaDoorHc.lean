import Derived.Test.YtianmmjjcegkjaaDoorHb
namespace Go.Proofs.YtianmmjjcegkjaaDoor
open Go.RowKit
set_option maxRecDepth 4000
/-- Whether there are boards with such sides, and whether a list is one. -/
def sidesB (n m : Int) : Bool := decide (1 ≤ n ∧ n ≤ 30 ∧ 1 ≤ m ∧ m ≤ 30 ∧ n * m ≤ 30)
def boardB (n m : Int) (xs : List Int) : Bool := sidesB n m && (decide ((xs.length : Int) = n * m) && allB 0 2 xs)
theorem sidesB_yes {n m : Int} (h : sidesB n m = true) : ∃ n' m' s : Nat, n = n' ∧ m = m' ∧ n' * m' = s ∧ s ≤ 30 ∧ 1 ≤ n' ∧ 1 ≤ m' ∧ n * m = (s : Int) := by
  simp only [sidesB, decide_eq_true_eq] at h
  obtain ⟨h1, h2, h3, h4, h5⟩ := h
  obtain ⟨n, rfl⟩ := Int.eq_ofNat_of_zero_le (show 0 ≤ n by omega)
  obtain ⟨m, rfl⟩ := Int.eq_ofNat_of_zero_le (show 0 ≤ m by omega)
  have e : (n : Int) * (m : Int) = ((n * m : Nat) : Int) := (Int.natCast_mul n m).symm
  exact ⟨n, m, n * m, rfl, rfl, rfl, by omega, by omega, by omega, e⟩
set_option maxHeartbeats 800000 in
theorem hxSides_any (n m : Int) (w : World) :
    Calls Tryd.prog 6 #[.int .i64 n, .int .i64 m] w fun e w' => e = .returned (.bool (sidesB n m)) ∧ w = w' := by
  by_cases h1 : 1 ≤ n ∧ n ≤ 30
  · by_cases h2 : 1 ≤ m ∧ m ≤ 30
    · obtain ⟨n, rfl⟩ := Int.eq_ofNat_of_zero_le (show 0 ≤ n by omega)
      obtain ⟨m, rfl⟩ := Int.eq_ofNat_of_zero_le (show 0 ≤ m by omega)
      obtain ⟨s, hs⟩ : ∃ s : Nat, n * m = s := ⟨_, rfl⟩
      have e : (n : Int) * (m : Int) = (s : Int) := by rw [← hs]; exact (Int.natCast_mul n m).symm
      have hb : n * m ≤ 30 * 30 := Nat.mul_le_mul (by omega) (by omega)
      rw [hs] at hb
      have hw : wrap64 ((n : Int) * (m : Int)) = (s : Int) := by rw [e, IntWalk.wrap64_in _ ⟨by omega, by omega⟩]
      have HS : Hid (sidesB n m = decide ((s : Int) ≤ 30)) := Lib.hid (by
        rw [sidesB, Bool.eq_iff_iff, e]
        simp only [decide_eq_true_eq]
        omega)
      have HE := Lib.hid e
      clear e hs
      have h1' := h1
      have h2' := h2
      by_cases h30 : (s : Int) ≤ 30
      · have HS2 : Hid (sidesB n m = true) := Lib.hid (by rw [HS.out]; simpa using h30)
        go_enter Tryd.func6, Tryd.ntmps6
        go_wp2_with fail
        refine (l1In_yes (n : Int) 1 30 h1' _).mono ?_
        rintro e1 w1 ⟨rfl, rfl⟩
        go_wp2_with fail
        refine (l1In_yes (m : Int) 1 30 h2' _).mono ?_
        rintro e1 w1 ⟨rfl, rfl⟩
        go_wp2_with fail
        go_ret
        exact ⟨by rw [HS2.out]; first | rfl | (simp [HE.out]; done) | (simp [HE.out]; omega), rfl⟩
      · have HS2 : Hid (sidesB n m = false) := Lib.hid (by rw [HS.out]; simpa using h30)
        go_enter Tryd.func6, Tryd.ntmps6
        go_wp2_with fail
        refine (l1In_yes (n : Int) 1 30 h1' _).mono ?_
        rintro e1 w1 ⟨rfl, rfl⟩
        go_wp2_with fail
        refine (l1In_yes (m : Int) 1 30 h2' _).mono ?_
        rintro e1 w1 ⟨rfl, rfl⟩
        go_wp2_with fail
        go_ret
        exact ⟨by rw [HS2.out]; first | rfl | (simp [HE.out]; done) | (simp [HE.out]; omega), rfl⟩
    · have HS : Hid (sidesB n m = false) := Lib.hid (by rw [sidesB, decide_eq_false_iff_not]; omega)
      go_enter Tryd.func6, Tryd.ntmps6
      go_wp2_with fail
      refine (l1In_yes n 1 30 h1 _).mono ?_
      rintro e1 w1 ⟨rfl, rfl⟩
      go_wp2_with fail
      refine (l1In_no m 1 30 h2 _).mono ?_
      rintro e1 w1 ⟨rfl, rfl⟩
      go_wp2_with fail
      go_ret
      exact ⟨by rw [HS.out]; rfl, rfl⟩
  · have HS : Hid (sidesB n m = false) := Lib.hid (by rw [sidesB, decide_eq_false_iff_not]; omega)
    go_enter Tryd.func6, Tryd.ntmps6
    go_wp2_with fail
    refine (l1In_no n 1 30 h1 _).mono ?_
    rintro e1 w1 ⟨rfl, rfl⟩
    go_wp2_with fail
    go_ret
    exact ⟨by rw [HS.out]; rfl, rfl⟩
set_option maxHeartbeats 800000 in
theorem gridOf_yes (n m s : Nat) (h1 : 1 ≤ n) (h2 : 1 ≤ m) (hs : n * m = s) (h3 : s ≤ 30) (w : World) :
    Calls Tryd.prog 9 #[.int .i64 n, .int .i64 m] w fun e w' => e = .returned (.tuple #[.agg #[.int .i64 n, .int .i64 m], .bool true]) ∧ Below w.heap.size w w' := by
  obtain ⟨q, hq⟩ : ∃ q : Nat, q = 30 / n := ⟨_, rfl⟩
  have hmq : m ≤ q := by rw [hq, Nat.le_div_iff_mul_le (by omega), Nat.mul_comm]; omega
  have hq30 : q ≤ 30 := by rw [hq]; exact Nat.div_le_self _ _
  have hd : Int.tdiv 30 (n : Int) = (q : Int) := by rw [hq]; exact (Int.ofNat_tdiv 30 n).symm
  have hn : ¬ (n : Int) < 1 := by omega
  have hm : ¬ (m : Int) < 1 := by omega
  have hz : (n : Int) ≠ 0 := by omega
  have hmq' : ¬ (q : Int) < (m : Int) := by omega
  clear hq hs
  go_enter Tryd.func9, Tryd.ntmps9
  go_wp2_with fail
  go_returns
  exact ⟨rfl, balloc (Below.refl _ _) _⟩
theorem grid_size2 (a b : Int) : (#[.int .i64 a, .int .i64 b] : Array Value).size = 2 := rfl
set_option maxHeartbeats 800000 in
theorem gridOf_no (n m : Int) (h : sidesB n m = false) (w : World) :
    Calls Tryd.prog 9 #[.int .i64 n, .int .i64 m] w fun e w' => e = .returned (.tuple #[.agg #[.int .i64 0, .int .i64 0], .bool false]) ∧ Below w.heap.size w w' := by
  by_cases h1 : n < 1
  · clear h
    go_enter Tryd.func9, Tryd.ntmps9
    go_wp2_with fail
    go_returns
    exact ⟨rfl, balloc (Below.refl _ _) _⟩
  · by_cases h2 : m < 1
    · clear h
      go_enter Tryd.func9, Tryd.ntmps9
      go_wp2_with fail
      go_returns
      exact ⟨rfl, balloc (Below.refl _ _) _⟩
    · obtain ⟨n, rfl⟩ := Int.eq_ofNat_of_zero_le (show 0 ≤ n by omega)
      obtain ⟨m, rfl⟩ := Int.eq_ofNat_of_zero_le (show 0 ≤ m by omega)
      obtain ⟨q, hq⟩ : ∃ q : Nat, q = 30 / n := ⟨_, rfl⟩
      have e : (n : Int) * (m : Int) = ((n * m : Nat) : Int) := (Int.natCast_mul n m).symm
      have hqm : q < m := by
        rw [hq, Nat.div_lt_iff_lt_mul (by omega)]
        simp only [sidesB, decide_eq_false_iff_not, e] at h
        rcases Nat.lt_or_ge 30 (m * n) with h3 | h3
        · exact h3
        · exfalso
          have a1 : n ≤ m * n := Nat.le_mul_of_pos_left n (by omega)
          have a2 : m ≤ m * n := Nat.le_mul_of_pos_right m (by omega)
          have a3 : n * m = m * n := Nat.mul_comm n m
          omega
      have hq30 : q ≤ 30 := by rw [hq]; exact Nat.div_le_self _ _
      have hd : Int.tdiv 30 (n : Int) = (q : Int) := by rw [hq]; exact (Int.ofNat_tdiv 30 n).symm
      have hz : (n : Int) ≠ 0 := by omega
      have hmq' : (q : Int) < (m : Int) := by omega
      clear hq h e
      go_enter Tryd.func9, Tryd.ntmps9
      go_wp2_with fail
      go_returns
      exact ⟨rfl, balloc (Below.refl _ _) _⟩
end Go.Proofs.YtianmmjjcegkjaaDoor
