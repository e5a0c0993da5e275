import Derived.Test.YtianmmjjcegkjaaDoorHe
namespace Go.Proofs.YtianmmjjcegkjaaDoor
open Go.RowKit
set_option maxRecDepth 4000
theorem hx_not {ops : Array Oper} {rest : List Oper} {o : Oper} {a : Act} {w : World} {Q : Exit → Act → World → Prop} (hgd : o.guard = none) (x : Operand) (ho : o.op = .unOp .not 4 x) (b : Bool) (hx : a.eval x = .bool b)
    (h : wpList Tryd.prog ops Q rest (a.put o.dst (.bool !b)) w) : wpList Tryd.prog ops Q (o :: rest) a w := by
  refine wpList_plain hgd fun K hK => ?_
  have e : (execOp a.eval o).run Tryd.prog w = .ok (.value (.bool !b)) w := by
    unfold execOp
    simp only [ho, hx]
    rfl
  unfold Oper.wp
  rw [e]
  exact hK _ _ h
theorem hx_move {ops : Array Oper} {rest : List Oper} {o : Oper} {a : Act} {w : World} {Q : Exit → Act → World → Prop} (hgd : o.guard = none) (x : Operand) (ho : o.op = .move x)
    (h : wpList Tryd.prog ops Q rest (a.put o.dst (a.eval x)) w) : wpList Tryd.prog ops Q (o :: rest) a w := by
  refine wpList_plain hgd fun K hK => ?_
  have e : (execOp a.eval o).run Tryd.prog w = .ok (.value (a.eval x)) w := by
    unfold execOp
    simp only [ho]
    rfl
  unfold Oper.wp
  rw [e]
  exact hK _ _ h
/-- How many of the first places are nobody's. -/
def opn (xs : List Int) : Nat → Nat
  | 0 => 0
  | k + 1 => opn xs k + (if xs.getD k 0 = 0 then 1 else 0)
theorem opn_le (xs : List Int) : ∀ k, opn xs k ≤ k
  | 0 => Nat.le_refl _
  | k + 1 => by
    have := opn_le xs k
    unfold opn
    split <;> omega
theorem opn_zero (xs : List Int) : ∀ K, opn xs K = 0 ↔ ∀ k, k < K → xs.getD k 0 ≠ 0
  | 0 => by simp [opn]
  | K + 1 => by
    have ih := opn_zero xs K
    constructor
    · intro h k hk
      unfold opn at h
      by_cases e : k < K
      · exact ih.1 (by omega) k e
      · obtain rfl : k = K := by omega
        intro e2
        rw [if_pos e2] at h
        omega
    · intro h
      unfold opn
      rw [ih.2 (fun k hk => h k (by omega)), if_neg (h K (by omega))]
theorem opn_full {xs : List Int} (h : allB 0 2 xs = true) : opn xs xs.length = 0 ↔ allB 1 2 xs = true := by
  rw [opn_zero]
  constructor
  · intro e
    refine allB_yes 1 2 xs fun k hk => ?_
    have a := allB_at h k hk
    have b := e k hk
    omega
  · intro e k hk
    have a := allB_at e k hk
    omega
theorem boardB_yes' {n m : Int} {xs : List Int} (h : boardB n m xs = true) : ∃ n' m' s : Nat, n = n' ∧ m = m' ∧ n' * m' = s ∧ s ≤ 30 ∧ 1 ≤ n' ∧ 1 ≤ m' ∧ n * m = (s : Int) ∧ xs.length = s ∧ allB 0 2 xs = true := by
  simp only [boardB, Bool.and_eq_true, decide_eq_true_eq] at h
  obtain ⟨hs, hl, hA⟩ := h
  obtain ⟨n', m', s, e1, e2, e3, e4, e5, e6, e7⟩ := sidesB_yes hs
  exact ⟨n', m', s, e1, e2, e3, e4, e5, e6, e7, by omega, hA⟩
/-- A full board. -/
def fullBd (n m : Int) (xs : List Int) : Bool := boardB n m xs && allB 1 2 xs
end Go.Proofs.YtianmmjjcegkjaaDoor
