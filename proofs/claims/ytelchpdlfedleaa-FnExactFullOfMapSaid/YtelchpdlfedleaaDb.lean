import Derived.Test.YtelchpdlfedleaaDa
namespace Go.Proofs.Ytelchpdlfedleaa
open Go.RowKit
set_option maxRecDepth 4000
def outDoorsOf (n : Int) (xs : List Int) : List (List Int) := if labB n xs then outp xs (allN n.toNat (Pr.cnt n.toNat)) else []
theorem allN_bd (n : Nat) (h2 : n ≤ 8) (i : Nat) (hi : i ≤ Pr.cnt n) : (allN n i).length ≤ 2025 := by
  have hcn := (Pr.cnt_le n (by omega)).1
  have hal := allN_len n i
  have hal2 : i * Pr.cnt n ≤ 45 * 45 := Nat.mul_le_mul (by omega) hcn
  omega
theorem outDO_len (n : Int) (xs : List Int) : (outDoorsOf n xs).length ≤ 100000 := by
  unfold outDoorsOf
  cases hL : labB n xs
  · simp
  · obtain ⟨n, rfl⟩ := labB_nat hL
    obtain ⟨h1, h2, -, -⟩ := labB_yes hL
    have e := outp_len xs (allN n (Pr.cnt n))
    have := allN_bd n h2 (Pr.cnt n) (Nat.le_refl _)
    simp only [if_true, Int.toNat_natCast]
    omega
theorem outDO_row (n : Int) (xs : List Int) : ∀ i, i < (outDoorsOf n xs).length → ((outDoorsOf n xs).getD i []).length ≤ 1000 := by
  intro i hi
  unfold outDoorsOf at hi ⊢
  split
  · rename_i h; rw [if_pos h] at hi; exact outp_row _ _ i hi
  · rename_i h; rw [if_neg h] at hi; simp at hi
end Go.Proofs.Ytelchpdlfedleaa
