namespace Go.Proofs.Ytjbdhgomcchoaaa.Pr
/-- The points in front of row k. -/
def T : Nat → Nat
  | 0 => 0
  | k + 1 => T k + (k + 1)
def Rl : List Nat := [0,1,1,2,2,2,3,3,3,3,4,4,4,4,4,5,5,5,5,5,5,6,6,6,6,6,6,6,7,7,7,7,7,7,7,7,8,8,8,8,8,8,8,8,8]
def Cl : List Nat := [0,0,1,0,1,2,0,1,2,3,0,1,2,3,4,0,1,2,3,4,5,0,1,2,3,4,5,6,0,1,2,3,4,5,6,7,0,1,2,3,4,5,6,7,8]
def R (i : Nat) : Nat := Rl.getD i 0
def C (i : Nat) : Nat := Cl.getD i 0
theorem RC_all : ∀ i, i < 45 → T (R i) + C i = i ∧ C i ≤ R i ∧ R i ≤ 8 := by decide
theorem RC_uniq_all : ∀ i, i < 45 → ∀ k, k < 10 → T k ≤ i → i - T k ≤ k → k = R i ∧ i - T k = C i := by decide
theorem T_le (k : Nat) (h : k < 10) : T k ≤ 45 := by
  have : ∀ k, k < 10 → T k ≤ 45 := by decide
  exact this k h
theorem T_mono_one (k : Nat) : T k < T (k + 1) := by simp [T]
theorem T_lt_of (k i : Nat) (hi : i < 45) (h : T k ≤ i) : k < 10 := by
  by_cases hk : k < 10
  · exact hk
  · have g : ∀ j, T 9 + j ≤ T (9 + j) := by
      intro j; induction j with
      | zero => simp
      | succ j ih => have := T_mono_one (9 + j); show _ ≤ T (9 + j + 1); omega
    have := g (k - 9)
    rw [show 9 + (k - 9) = k from by omega] at this
    have h9 : T 9 = 45 := by decide
    omega
/-- number of points -/
def cnt (n : Nat) : Nat := T (n + 1)
theorem cnt_le : ∀ n, n < 9 → cnt n ≤ 45 ∧ cnt n = (n + 1) * (n + 2) / 2 := by decide
theorem R_le_of_lt : ∀ n, n < 9 → ∀ i, i < cnt n → R i ≤ n := by decide
/-- A point that there is. -/
def okPt (n i : Int) : Prop := 1 ≤ n ∧ n ≤ 8 ∧ 0 ≤ i ∧ i < (cnt n.toNat : Nat)
theorem T_succ (k : Nat) : T (k + 1) = T k + (k + 1) := rfl
/-- The end of the loop over the rows. -/
theorem RC_end (i k : Nat) (hi : i < 45) (h : T k ≤ i) (h2 : i - T k ≤ k) : k = R i ∧ i - T k = C i :=
  RC_uniq_all i hi k (T_lt_of k i hi h) h h2
theorem RC_bd (i : Nat) (hi : i < 45) : C i ≤ R i ∧ R i ≤ 8 := ⟨(RC_all i hi).2.1, (RC_all i hi).2.2⟩
end Go.Proofs.Ytjbdhgomcchoaaa.Pr
