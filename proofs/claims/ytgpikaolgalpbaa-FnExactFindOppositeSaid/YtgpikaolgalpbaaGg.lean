import Derived.Test.YtgpikaolgalpbaaGf
namespace Go.Proofs.Ytgpikaolgalpbaa
open Go.RowKit
set_option maxRecDepth 4000
theorem sumB_comm (xs : List Int) (s i j : Int) : sumB xs s (i, j) = sumB xs s (j, i) := by simp only [sumB, Int.add_comm]
theorem sumB_inner (xs : List Int) (s : Int) (p : Int × Int) : sumB xs s (inner p) = sumB xs s p := by
  obtain ⟨a, b⟩ := p
  rcases Int.lt_trichotomy a b with h | h | h
  · rw [inner_sorted h]
  · subst h
    have e : inner (a, a) = (a, a) := by simp [inner]
    rw [e]
  · have e : inner (a, b) = (b, a) := by
      simp only [inner]
      rw [if_neg (by omega), if_pos (by omega)]
    rw [e]
    exact sumB_comm xs s b a
/-- A cell of a square: a door and no other has an opposite edge with it, two doors have none, no door is neither. -/
theorem sq_cases (x y z : Int) (hx : x = 1 ∨ x = 2 ∨ x = -1 ∨ x = -2) (hy : y = 1 ∨ y = 2 ∨ y = -1 ∨ y = -2) (hz : z = 1 ∨ z = 2 ∨ z = -1 ∨ z = -2) (a b c : Int) (h1 : a < b) (h2 : b < c) (f g : Int × Int → Bool)
    (f1 : f (a, b) = (x + y == 3)) (f2 : f (a, c) = (x + z == 3)) (f3 : f (b, c) = (y + z == 3)) (g1 : g (a, b) = (x + y == 0)) (g2 : g (a, c) = (x + z == 0)) (g3 : g (b, c) = (y + z == 0)) :
    [(a, b), (a, c), (b, c)].filter f = [] ∨ (∃ p, [(a, b), (a, c), (b, c)].filter f = [p] ∧ [(a, b), (a, c), (b, c)].filter g ≠ []) ∨ ∃ p q, [(a, b), (a, c), (b, c)].filter f = [p, q] ∧ p ≠ q ∧ [(a, b), (a, c), (b, c)].filter g = [] := by
  have e1 : (a, b) ≠ (a, c) := fun e => by have := congrArg Prod.snd e; simp at this; omega
  have e2 : (a, b) ≠ (b, c) := fun e => by have := congrArg Prod.fst e; simp at this; omega
  have e3 : (a, c) ≠ (b, c) := fun e => by have := congrArg Prod.fst e; simp at this; omega
  rcases hx with rfl | rfl | rfl | rfl <;> rcases hy with rfl | rfl | rfl | rfl <;> rcases hz with rfl | rfl | rfl | rfl <;> simp only [List.filter_cons, List.filter_nil, f1, f2, f3, g1, g2, g3] <;>
    first
    | exact .inl rfl
    | exact .inr (.inl ⟨_, rfl, by decide +revert⟩)
    | exact .inr (.inl ⟨_, rfl, List.cons_ne_nil _ _⟩)
    | exact .inr (.inr ⟨_, _, rfl, e1, rfl⟩)
    | exact .inr (.inr ⟨_, _, rfl, e2, rfl⟩)
    | exact .inr (.inr ⟨_, _, rfl, e3, rfl⟩)
end Go.Proofs.Ytgpikaolgalpbaa
