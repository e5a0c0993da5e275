import Derived.Test.YtlkgmnmnlfaopaaS0
import Derived.Test.YtlkgmnmnlfaopaaZg
namespace Go.Proofs.Ytlkgmnmnlfaopaa
open Go.RowKit
set_option maxRecDepth 4000
/-- Three numbers of at least 0 with the sum s. -/
def ptI (s : Int) (p : List Int) : Bool := decide (p.length = 3) && (allB 0 s p && (p.getD 0 0 + p.getD 1 0 + p.getD 2 0 == s))
/-- Images for a side. -/
def imB (n : Nat) (im : List (List Int)) : Bool := decide (im.length = Pr.cnt n) && im.all (ptI (3 * (n : Int)))
def imgB (n : Int) (im : List (List Int)) : Bool := decide (1 ≤ n ∧ n ≤ 5) && imB n.toNat im
theorem imB_no (n : Nat) (im : List (List Int)) (k : Nat) (hk : k < im.length) (h : ptI (3 * (n : Int)) (im.getD k []) = false) : imB n im = false := by
  rw [Bool.eq_false_iff]
  intro hh
  simp only [imB, Bool.and_eq_true, List.all_eq_true] at hh
  have := hh.2 (im.getD k []) (by simp [List.getD, List.getElem?_eq_getElem hk])
  rw [this] at h; cases h
theorem imB_len (n : Nat) (im : List (List Int)) (h : im.length ≠ Pr.cnt n) : imB n im = false := by simp [imB, h]
theorem imB_yes (n : Nat) (im : List (List Int)) (hl : im.length = Pr.cnt n) (h : ∀ k, k < im.length → ptI (3 * (n : Int)) (im.getD k []) = true) : imB n im = true := by
  simp only [imB, Bool.and_eq_true, List.all_eq_true, decide_eq_true_eq]
  refine ⟨hl, fun t ht => ?_⟩
  obtain ⟨k, hk, rfl⟩ := List.getElem_of_mem ht
  have := h k hk
  simpa [List.getD, List.getElem?_eq_getElem hk] using this
theorem imB_at {n : Nat} {im : List (List Int)} (h : imB n im = true) : im.length = Pr.cnt n ∧ ∀ k, k < im.length → ptI (3 * (n : Int)) (im.getD k []) = true := by
  simp only [imB, Bool.and_eq_true, List.all_eq_true, decide_eq_true_eq] at h
  exact ⟨h.1, fun k hk => h.2 (im.getD k []) (by simp [List.getD, List.getElem?_eq_getElem hk])⟩
theorem ptI_at {s : Int} {p : List Int} (h : ptI s p = true) : p.length = 3 ∧ (∀ k, k < 3 → 0 ≤ p.getD k 0 ∧ p.getD k 0 ≤ s) ∧ p.getD 0 0 + p.getD 1 0 + p.getD 2 0 = s := by
  simp only [ptI, Bool.and_eq_true, decide_eq_true_eq, beq_iff_eq] at h
  exact ⟨h.1, fun k hk => allB_at h.2.1 k (by omega), h.2.2⟩
theorem imgB_yes {n : Int} {im : List (List Int)} (h : imgB n im = true) : ∃ m : Nat, n = m ∧ 1 ≤ m ∧ m ≤ 5 ∧ imB m im = true := by
  simp only [imgB, Bool.and_eq_true, decide_eq_true_eq] at h
  obtain ⟨⟨h1, h2⟩, hy⟩ := h
  obtain ⟨m, rfl⟩ := Int.eq_ofNat_of_zero_le (show 0 ≤ n by omega)
  exact ⟨m, rfl, by omega, by omega, by simpa using hy⟩
theorem imgB_nat (n : Nat) (h1 : 1 ≤ n) (h2 : n ≤ 5) (im : List (List Int)) : imgB n im = imB n im := by simp [imgB]; omega
/-- A number of an image. -/
def iq (im : List (List Int)) (i k : Nat) : Int := (im.getD i []).getD k 0
theorem iq_bd {n : Nat} {im : List (List Int)} (h : imB n im = true) (i k : Nat) (hi : i < Pr.cnt n) (hk : k < 3) : 0 ≤ iq im i k ∧ iq im i k ≤ 3 * n := by
  obtain ⟨hl, hr⟩ := imB_at h
  exact (ptI_at (hr i (by omega))).2.1 k hk
theorem iq_sum {n : Nat} {im : List (List Int)} (h : imB n im = true) (i : Nat) (hi : i < Pr.cnt n) : iq im i 0 + iq im i 1 + iq im i 2 = 3 * n := by
  obtain ⟨hl, hr⟩ := imB_at h
  exact (ptI_at (hr i (by omega))).2.2
theorem iq_row {n : Nat} {im : List (List Int)} (h : imB n im = true) (i : Nat) (hi : i < Pr.cnt n) : im.getD i [] = [iq im i 0, iq im i 1, iq im i 2] := by
  obtain ⟨hl, hr⟩ := imB_at h
  have h3 := (ptI_at (hr i (by omega))).1
  unfold iq
  generalize im.getD i [] = p at *
  match p, h3 with
  | [x, y, z], _ => rfl
/-- A number of a point. -/
def pq (n i k : Nat) : Int := (pt n i).getD k 0
theorem pq_bd (n i k : Nat) (h2 : n ≤ 8) (hi : i < Pr.cnt n) (hk : k < 3) : 0 ≤ pq n i k ∧ pq n i k ≤ n := by
  have hc := (Pr.cnt_le n (by omega)).1
  have hR := Pr.R_le_of_lt n (by omega) i hi
  have hC := (Pr.RC_bd i (by omega)).1
  unfold pq pt
  rcases (by omega : k = 0 ∨ k = 1 ∨ k = 2) with rfl | rfl | rfl <;> simp <;> omega
theorem pq_sum (n i : Nat) : pq n i 0 + pq n i 1 + pq n i 2 = n := by
  simp [pq, pt]; omega
/-- How much a number becomes more, in thirds. -/
def mv (im : List (List Int)) (n i k : Nat) : Int := iq im i k - 3 * pq n i k
theorem mv_bd {n : Nat} {im : List (List Int)} (h : imB n im = true) (h2 : n ≤ 5) (i k : Nat) (hi : i < Pr.cnt n) (hk : k < 3) : -15 ≤ mv im n i k ∧ mv im n i k ≤ 15 := by
  have a := iq_bd h i k hi hk
  have b := pq_bd n i k (by omega) hi hk
  unfold mv; omega
/-- The label of a point, by what its image has and what it has itself. -/
def lbl (q p : Nat → Int) : Nat := if q 0 < 3 * p 0 then 0 else if q 1 < 3 * p 1 then 1 else if q 2 < 3 * p 2 then 2 else if p 0 ≠ 0 then 0 else if p 1 ≠ 0 then 1 else 2
theorem lbl_at (q p : Nat → Int) (k : Nat) (hk : k < 3) (h : ∀ j, j < k → 3 * p j ≤ q j) (h2 : q k < 3 * p k) : lbl q p = k := by
  unfold lbl
  rcases (by omega : k = 0 ∨ k = 1 ∨ k = 2) with rfl | rfl | rfl
  · rw [if_pos h2]
  · have := h 0 (by omega)
    rw [if_neg (by omega), if_pos h2]
  · have := h 0 (by omega)
    have := h 1 (by omega)
    rw [if_neg (by omega), if_neg (by omega), if_pos h2]
theorem lbl_none (q p : Nat → Int) (h : ∀ j, j < 3 → 3 * p j ≤ q j) (k : Nat) (hk : k < 3) (hz : ∀ j, j < k → p j = 0) (h2 : p k ≠ 0) : lbl q p = k := by
  unfold lbl
  have a0 := h 0 (by omega)
  have a1 := h 1 (by omega)
  have a2 := h 2 (by omega)
  rw [if_neg (by omega), if_neg (by omega), if_neg (by omega)]
  rcases (by omega : k = 0 ∨ k = 1 ∨ k = 2) with rfl | rfl | rfl
  · rw [if_pos h2]
  · rw [if_neg (by simpa using hz 0 (by omega)), if_pos h2]
  · rw [if_neg (by simpa using hz 0 (by omega)), if_neg (by simpa using hz 1 (by omega))]
theorem lbl_bd (q p : Nat → Int) : lbl q p ≤ 2 := by
  unfold lbl
  repeat' split
  all_goals omega
def lbM (im : List (List Int)) (n i : Nat) : Int := (lbl (iq im i) (pq n i) : Nat)
def lbL (im : List (List Int)) (n : Nat) : List Int := (List.range (Pr.cnt n)).map (lbM im n)
theorem lbL_len (im : List (List Int)) (n : Nat) : (lbL im n).length = Pr.cnt n := by simp [lbL]
/-- The area of two moves. -/
def ar (im : List (List Int)) (n i j : Nat) : Int := mv im n i 0 * mv im n j 1 - mv im n i 1 * mv im n j 0
theorem mul_bd (a b : Int) (ha : -15 ≤ a ∧ a ≤ 15) (hb : -15 ≤ b ∧ b ≤ 15) : -225 ≤ a * b ∧ a * b ≤ 225 := by
  constructor
  · rcases Int.le_total 0 a with h | h
    · have : a * (-15) ≤ a * b := Int.mul_le_mul_of_nonneg_left hb.1 h
      omega
    · have : a * 15 ≤ a * b := Int.mul_le_mul_of_nonpos_left h hb.2
      omega
  · rcases Int.le_total 0 a with h | h
    · have : a * b ≤ a * 15 := Int.mul_le_mul_of_nonneg_left hb.2 h
      omega
    · have : a * b ≤ a * (-15) := Int.mul_le_mul_of_nonpos_left h hb.1
      omega
theorem ar_bd {n : Nat} {im : List (List Int)} (h : imB n im = true) (h2 : n ≤ 5) (i j : Nat) (hi : i < Pr.cnt n) (hj : j < Pr.cnt n) : -450 ≤ ar im n i j ∧ ar im n i j ≤ 450 := by
  have a := mul_bd _ _ (mv_bd h h2 i 0 hi (by omega)) (mv_bd h h2 j 1 hj (by omega))
  have b := mul_bd _ _ (mv_bd h h2 i 1 hi (by omega)) (mv_bd h h2 j 0 hj (by omega))
  unfold ar; omega
/-- The areas of a cell. -/
def arC (im : List (List Int)) (n p q r : Nat) : List Int := [ar im n q r, ar im n r p, ar im n p q]
end Go.Proofs.Ytlkgmnmnlfaopaa
