import Derived.Test.YtianmmjjcegkjaaDoorJ3
namespace Go.Proofs.YtianmmjjcegkjaaDoor
open Go.RowKit
set_option maxRecDepth 4000
open Net
theorem adjL_bit (n m s i j : Nat) (hi : i < s) : ((adjL n m s).getD i 0).testBit j = true ↔ j ∈ nbH n m s i := by
  have e : (adjL n m s).getD i 0 = maskOf (fun j => (nbH n m s i).contains j) s := by simp [adjL, List.getD_eq_getElem?_getD, hi]
  rw [e, maskOf_bit, Bool.and_eq_true]
  constructor
  · rintro ⟨_, h⟩; simpa using h
  · intro h
    have hj : j < s := by simpa using (List.mem_filter.1 h).2
    exact ⟨by simpa using hj, by simpa using h⟩
/-- On a full board of at most 9 places just one player has a way. -/
theorem one_wins (n m s : Nat) (xs : List Int) (h1 : 1 ≤ n) (h2 : 1 ≤ m) (hnm : n * m = s) (h9 : s ≤ 9) (hl : xs.length = s) (hA : allB 1 2 xs = true) :
    (needK n m s xs 2 == 0) = !(needK n m s xs 1 == 0) := by
  have hn9 : n ≤ s := by rw [← hnm]; exact Nat.le_mul_of_pos_right n (by omega)
  have hm9 : m ≤ s := by rw [← hnm]; exact Nat.le_mul_of_pos_left m (by omega)
  have hat := fun k (hk : k < s) => allB_at hA k (by omega)
  obtain ⟨e, he, hen⟩ := List.any_eq_true.1 (adjT_has n (by omega) m (by omega) h1 h2 (by omega))
  simp only [Bool.and_eq_true, beq_iff_eq] at hen
  obtain ⟨rfl, rfl⟩ := hen
  have hi := List.all_eq_true.1 adjT_is e he
  have hc := List.all_eq_true.1 adjT_chk e he
  rw [hnm] at hi hc
  simp only [beq_iff_eq] at hi
  simp only [str2_eq] at hc
  rw [hi] at hc
  generalize e.1 = n at *
  generalize e.2.1 = m at *
  clear hi he e
  have hxb : ∀ j, (maskOf (fun j => xs.getD j 0 == 2) s).testBit j = (decide (j < s) && (xs.getD j 0 == 2)) := maskOf_bit _ s
  have hxl : maskOf (fun j => xs.getD j 0 == 2) s < 2 ^ s := Nat.lt_pow_two_of_testBit _ fun j hj => by
    rw [hxb]; simp; omega
  generalize maskOf (fun j => xs.getD j 0 == 2) s = x at *
  have hyb : ∀ j, (2 ^ s - 1 - x).testBit j = (decide (j < s) && !(decide (j < s) && (xs.getD j 0 == 2))) := fun j => by
    rw [show 2 ^ s - 1 - x = 2 ^ s - (x + 1) by omega, Nat.testBit_two_pow_sub_succ hxl, hxb]
  have hk := allX_at _ hc x hxl
  clear hc
  unfold chk1 at hk
  simp only [str2_eq, Bool.and_eq_true] at hk
  obtain ⟨c1, c2, c3⟩ := hk
  generalize 2 ^ s - 1 - x = y at *
  have e1 : (hNet n m s xs 1).st = fun j => decide (j < m) := by funext j; simp [hNet]
  have e2 : (hNet n m s xs 1).fin = fun j => decide (s ≤ j + m) := by funext j; simp [hNet]
  have e3 : (hNet n m s xs 2).st = fun j => decide (j % m = 0) := by funext j; simp [hNet]
  have e4 : (hNet n m s xs 2).fin = fun j => decide (j % m + 1 = m) := by funext j; simp [hNet]
  have hlA : (adjL n m s).length = s := by simp [adjL]
  have N1 := need_flood (G := hNet n m s xs 1) (A := adjL n m s) (B := y) (fun j hj => by
      rw [hyb, Bool.and_eq_true] at hj
      have hjs : j < s := by simpa using hj.1
      have := hat j hjs
      have ho : (hNet n m s xs 1).own j = true := by exact bne_iff_ne.2 (show xs.getD j 0 ≠ 0 by omega)
      unfold cst; rw [if_pos ho]) (by show 1 ≤ s; omega) (fun i j hi => adjL_bit n m s i j hi) hlA (fun j => by
      rw [hyb]
      show _ ↔ j < s ∧ (xs.getD j 0 != 3 - 1) = true
      by_cases hj : j < s
      · have := hat j hj
        generalize xs.getD j 0 = g at *
        simp [hj]
      · simp [hj]) (by rw [e1]; exact Nat.eq_of_beq_eq_true c1)
  have N2 := need_flood (G := hNet n m s xs 2) (A := adjL n m s) (B := x) (fun j hj => by
      rw [hxb, Bool.and_eq_true] at hj
      have hjs : j < s := by simpa using hj.1
      have := hat j hjs
      have ho : (hNet n m s xs 2).own j = true := by exact bne_iff_ne.2 (show xs.getD j 0 ≠ 0 by omega)
      unfold cst; rw [if_pos ho]) (by show 1 ≤ s; omega) (fun i j hi => adjL_bit n m s i j hi) hlA (fun j => by
      rw [hxb]
      show _ ↔ j < s ∧ (xs.getD j 0 != 3 - 2) = true
      by_cases hj : j < s
      · have := hat j hj
        generalize xs.getD j 0 = g at *
        have e : (g = 2) ↔ ¬ (g = 1) := by omega
        simp [hj, e]
      · simp [hj]) (by rw [e3]; exact Nat.eq_of_beq_eq_true c2)
  rw [e1, e2] at N1
  rw [e3, e4] at N2
  have M1 : (needK n m s xs 1 = 0) ↔ _ := N1
  have M2 : (needK n m s xs 2 = 0) ↔ _ := N2
  have hgs : (hNet n m s xs 1).s = s := rfl
  have hgs2 : (hNet n m s xs 2).s = s := rfl
  rw [hgs] at M1
  rw [hgs2] at M2
  rw [Bool.eq_iff_iff]
  simp only [beq_iff_eq, Bool.not_eq_true', beq_eq_false_iff_ne, ne_eq, M1, M2]
  have c4 : ¬ ((flood (adjL n m s) y (s - 1) (maskOf (fun j => decide (j < m)) s &&& y) &&& maskOf (fun j => decide (s ≤ j + m)) s) = 0 ↔ (flood (adjL n m s) x (s - 1) (maskOf (fun j => decide (j % m = 0)) s &&& x) &&& maskOf (fun j => decide (j % m + 1 = m)) s) = 0) := by
    intro h
    exact (bne_iff_ne.1 c3) (Bool.eq_iff_iff.2 (by rw [Nat.beq_eq, Nat.beq_eq]; exact h))
  constructor
  · intro h h'; exact c4 ⟨fun e => absurd e h', fun e => absurd e h⟩
  · intro h h'; exact h fun e => c4 ⟨fun _ => h', fun _ => e⟩
end Go.Proofs.YtianmmjjcegkjaaDoor
