import Derived.Test.YtokhpchnnilbaaaDd0
namespace Go.Proofs.Ytokhpchnnilbaaa
open Go.RowKit
set_option maxRecDepth 4000
/-! From signs to cuts. -/
namespace Tk
def chP (y : Nat → Int) (i : Nat) : Prop := 1 ≤ i ∧ y i ≠ y (i - 1)
instance (y : Nat → Int) (i : Nat) : Decidable (chP y i) := by unfold chP; infer_instance
/-- The places among the last d of n at which the sign changes. -/
def dl (y : Nat → Int) (n : Nat) : Nat → List Int
  | 0 => []
  | d + 1 => if chP y (n - (d + 1)) then ((n - (d + 1) : Nat) : Int) :: dl y n d else dl y n d
theorem dl_mem (y : Nat → Int) (n i : Nat) : ∀ d, d ≤ n → ((i : Int) ∈ dl y n d ↔ n - d ≤ i ∧ i < n ∧ chP y i)
  | 0, _ => by simp only [dl, List.not_mem_nil, false_iff]; omega
  | d + 1, h => by
    have ih := dl_mem y n i d (by omega)
    simp only [dl]
    by_cases hc : chP y (n - (d + 1))
    · rw [if_pos hc, List.mem_cons, ih]
      constructor
      · rintro (e | ⟨h1, h2, h3⟩)
        · have : i = n - (d + 1) := by omega
          subst this; exact ⟨Nat.le_refl _, by omega, hc⟩
        · exact ⟨by omega, h2, h3⟩
      · rintro ⟨h1, h2, h3⟩
        by_cases e : i = n - (d + 1)
        · left; rw [e]
        · right; exact ⟨by omega, h2, h3⟩
    · rw [if_neg hc, ih]
      constructor
      · rintro ⟨h1, h2, h3⟩; exact ⟨by omega, h2, h3⟩
      · rintro ⟨h1, h2, h3⟩
        refine ⟨?_, h2, h3⟩
        by_cases e : i = n - (d + 1)
        · rw [e] at h3; exact absurd h3 hc
        · omega
theorem dl_len (y : Nat → Int) (n : Nat) : ∀ d, d + 1 ≤ n → chg y n = chg y (n - d) + (dl y n d).length
  | 0, _ => by simp [dl]
  | d + 1, h => by
    have ih := dl_len y n d (by omega)
    have e : n - d = (n - (d + 1)) + 1 := by omega
    rw [ih, e, chg]
    simp only [dl]
    by_cases hc : chP y (n - (d + 1))
    · rw [if_pos hc, if_pos (show 1 ≤ n - (d + 1) ∧ y (n - (d + 1)) ≠ y (n - (d + 1) - 1) from hc), List.length_cons]; omega
    · rw [if_neg hc, if_neg (show ¬ (1 ≤ n - (d + 1) ∧ y (n - (d + 1)) ≠ y (n - (d + 1) - 1)) from hc)]; omega
end Tk
end Go.Proofs.Ytokhpchnnilbaaa
