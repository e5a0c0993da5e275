import Derived.Test.YtianmmjjcegkjaaDoorZa
namespace Go.Proofs.YtianmmjjcegkjaaDoor
/-- The six steps to the neighbours of a hexagon, in the order of their numbers. -/
def stR (k : Nat) : Int := ([-1, -1, 0, 0, 1, 1] : List Int).getD k 0
def stC (k : Nat) : Int := ([0, 1, -1, 1, -1, 0] : List Int).getD k 0
theorem hst_bd (k : Nat) : -1 ≤ stR k ∧ stR k ≤ 1 ∧ -1 ≤ stC k ∧ stC k ≤ 1 := by
  match k with
  | 0 => decide
  | 1 => decide
  | 2 => decide
  | 3 => decide
  | 4 => decide
  | 5 => decide
  | k + 6 => simp [stR, stC, List.getD]
def hxk (n m r c : Int) (k : Nat) : List Int := if 0 ≤ r + stR k ∧ r + stR k ≤ n - 1 ∧ 0 ≤ c + stC k ∧ c + stC k ≤ m - 1 then [m * (r + stR k) + (c + stC k)] else []
def hxn (n m r c : Int) (j : Nat) : List Int := (List.range j).flatMap (hxk n m r c)
/-- The neighbours of a place. -/
def hxa (n m i : Int) : List Int := hxn n m (i / m) (i % m) 6
theorem hxn_succ (n m r c : Int) (k : Nat) : hxn n m r c (k + 1) = hxn n m r c k ++ hxk n m r c k := by simp [hxn, List.range_succ]
theorem hxk_len (n m r c : Int) (k : Nat) : (hxk n m r c k).length ≤ 1 := by unfold hxk; split <;> simp
theorem hxn_len (n m r c : Int) : ∀ k, (hxn n m r c k).length ≤ k
  | 0 => by simp [hxn]
  | k + 1 => by rw [hxn_succ, List.length_append]; have := hxn_len n m r c k; have := hxk_len n m r c k; omega
theorem hxa_len (n m i : Int) : (hxa n m i).length ≤ 6 := hxn_len _ _ _ _ 6
theorem pl_div {m r c : Int} (h0 : 0 ≤ c) (h1 : c < m) : (m * r + c) / m = r ∧ (m * r + c) % m = c := by
  have hm : m ≠ 0 := by omega
  refine ⟨?_, ?_⟩
  · rw [Int.add_comm, Int.add_mul_ediv_left _ _ hm, Int.ediv_eq_zero_of_lt h0 h1, Int.zero_add]
  · rw [Int.add_comm, Int.add_mul_emod_self_left, Int.emod_eq_of_lt h0 h1]
theorem pl_eq {m : Int} {x y : Int} (h : x / m = y / m) (h' : x % m = y % m) : x = y := by
  rw [← Int.mul_ediv_add_emod x m, ← Int.mul_ediv_add_emod y m, h, h']
theorem pl_bd {n m x : Int} (hm : 0 < m) (h0 : 0 ≤ x / m) (h1 : x / m ≤ n - 1) : 0 ≤ x ∧ x < n * m := by
  have e := Int.mul_ediv_add_emod x m
  have a := Int.emod_nonneg x (by omega : m ≠ 0)
  have b := Int.emod_lt_of_pos x hm
  have c : 0 ≤ m * (x / m) := Int.mul_nonneg (by omega) h0
  have d : m * (x / m) ≤ m * (n - 1) := Int.mul_le_mul_of_nonneg_left h1 (by omega)
  have f : m * (n - 1) = n * m - m := by rw [Int.mul_sub, Int.mul_one, Int.mul_comm]
  omega
theorem pl_row {n m x : Int} (hm : 0 < m) (h0 : 0 ≤ x) (h1 : x < n * m) : 0 ≤ x / m ∧ x / m ≤ n - 1 := by
  refine ⟨Int.ediv_nonneg h0 (by omega), ?_⟩
  have : x / m < n := Int.ediv_lt_of_lt_mul hm h1
  omega
def Adj (m i x : Int) (k : Nat) : Prop := x / m = i / m + stR k ∧ x % m = i % m + stC k
theorem mem_hxa {n m i x : Int} (hm : 0 < m) : x ∈ hxa n m i ↔ (∃ k, k < 6 ∧ Adj m i x k) ∧ 0 ≤ x / m ∧ x / m ≤ n - 1 := by
  simp only [hxa, hxn, List.mem_flatMap, List.mem_range]
  constructor
  · rintro ⟨k, hk, hx⟩
    unfold hxk at hx
    split at hx
    · rename_i h
      obtain ⟨h1, h2, h3, h4⟩ := h
      rw [List.mem_singleton] at hx
      obtain ⟨e1, e2⟩ := pl_div (m := m) (r := i / m + stR k) (c := i % m + stC k) h3 (by omega)
      rw [hx]
      unfold Adj
      rw [e1, e2]
      exact ⟨⟨k, hk, rfl, rfl⟩, h1, h2⟩
    · cases hx
  · rintro ⟨⟨k, hk, e1, e2⟩, h1, h2⟩
    refine ⟨k, hk, ?_⟩
    have a := Int.emod_nonneg x (by omega : m ≠ 0)
    have b := Int.emod_lt_of_pos x hm
    unfold hxk
    rw [← e1, ← e2, if_pos ⟨h1, h2, a, by omega⟩, Int.mul_ediv_add_emod, List.mem_singleton]
theorem hxa_bd {n m i x : Int} (hm : 0 < m) (h : x ∈ hxa n m i) : 0 ≤ x ∧ x < n * m := by
  obtain ⟨_, h1, h2⟩ := (mem_hxa hm).1 h
  exact pl_bd hm h1 h2
theorem hx_neg : ∀ k, k < 6 → stR (5 - k) = -stR k ∧ stC (5 - k) = -stC k := by decide
def hc1 (k : Nat) : Nat := [1, 0, 0, 1, 2, 3].getD k 0
def hc2 (k : Nat) : Nat := [2, 3, 4, 5, 5, 4].getD k 0
theorem hx_two : ∀ k, k < 6 → ∀ i, i < 6 → ∀ j, j < 6 → (stR i = stR k + stR j ∧ stC i = stC k + stC j) → (i = hc1 k ∨ i = hc2 k) := by decide +kernel
theorem hxa_sym {n m i x : Int} (hm : 0 < m) (h0 : 0 ≤ i / m) (h1 : i / m ≤ n - 1) (h : x ∈ hxa n m i) : i ∈ hxa n m x := by
  obtain ⟨⟨k, hk, e1, e2⟩, _, _⟩ := (mem_hxa hm).1 h
  obtain ⟨n1, n2⟩ := hx_neg k hk
  refine (mem_hxa hm).2 ⟨⟨5 - k, by omega, ?_, ?_⟩, h0, h1⟩
  · rw [n1]; omega
  · rw [n2]; omega
/-- Two places have two neighbours together at most. -/
theorem hx_three {n m a b x y q : Int} (hm : 0 < m) (hb : b ∈ hxa n m a) (x1 : x ∈ hxa n m a) (x2 : x ∈ hxa n m b) (y1 : y ∈ hxa n m a) (y2 : y ∈ hxa n m b) (q1 : q ∈ hxa n m a) (q2 : q ∈ hxa n m b) (hx : x ≠ q) (hy : y ≠ q) : x = y := by
  obtain ⟨⟨k, hk, k1, k2⟩, _⟩ := (mem_hxa hm).1 hb
  obtain ⟨⟨i, hi, i1, i2⟩, _⟩ := (mem_hxa hm).1 x1
  obtain ⟨⟨i', hi', i1', i2'⟩, _⟩ := (mem_hxa hm).1 x2
  obtain ⟨⟨j, hj, j1, j2⟩, _⟩ := (mem_hxa hm).1 y1
  obtain ⟨⟨j', hj', j1', j2'⟩, _⟩ := (mem_hxa hm).1 y2
  obtain ⟨⟨t, ht, t1, t2⟩, _⟩ := (mem_hxa hm).1 q1
  obtain ⟨⟨t', ht', t1', t2'⟩, _⟩ := (mem_hxa hm).1 q2
  have A := hx_two k hk i hi i' hi' ⟨by omega, by omega⟩
  have B := hx_two k hk j hj j' hj' ⟨by omega, by omega⟩
  have C := hx_two k hk t ht t' ht' ⟨by omega, by omega⟩
  have D : i ≠ t := fun e => hx (pl_eq (m := m) (by rw [i1, t1, e]) (by rw [i2, t2, e]))
  have E : j ≠ t := fun e => hy (pl_eq (m := m) (by rw [j1, t1, e]) (by rw [j2, t2, e]))
  have F : i = j := by omega
  exact pl_eq (m := m) (by rw [i1, j1, F]) (by rw [i2, j2, F])
theorem hx_start {n m x : Int} (hm : 1 < m) (x1 : x ∈ hxa n m 0) (x2 : x ∈ hxa n m m) : x = 1 := by
  have hm0 : 0 < m := by omega
  obtain ⟨⟨i, hi, i1, i2⟩, h0, _⟩ := (mem_hxa hm0).1 x1
  obtain ⟨⟨j, hj, j1, j2⟩, _⟩ := (mem_hxa hm0).1 x2
  have e1 : m / m = 1 := Int.ediv_self (by omega)
  have e2 : m % m = 0 := Int.emod_self
  have e3 : (0 : Int) / m = 0 := Int.zero_ediv m
  have e4 : (0 : Int) % m = 0 := Int.zero_emod m
  rw [e3] at i1
  rw [e4] at i2
  rw [e1] at j1
  rw [e2] at j2
  have a := Int.emod_nonneg x (by omega : m ≠ 0)
  have T : ∀ i, i < 6 → ∀ j, j < 6 → (stR i = 1 + stR j ∧ stC i = stC j ∧ 0 ≤ stR i ∧ 0 ≤ stC i) → (stR i = 0 ∧ stC i = 1) := by decide +kernel
  obtain ⟨t1, t2⟩ := T i hi j hj ⟨by omega, by omega, by omega, by omega⟩
  have o1 : (1 : Int) / m = 0 := Int.ediv_eq_zero_of_lt (by omega) hm
  have o2 : (1 : Int) % m = 1 := Int.emod_eq_of_lt (by omega) hm
  exact pl_eq (m := m) (by rw [o1]; omega) (by rw [o2]; omega)
end Go.Proofs.YtianmmjjcegkjaaDoor
