import Derived.Test.YtianmmjjcegkjaaDoorHe
import Derived.Test.YtianmmjjcegkjaaDoorZa
namespace Go.Proofs.YtianmmjjcegkjaaDoor
open Go.RowKit
set_option maxRecDepth 4000
def valHalf (n m : Int) (xs : List Int) : List Int := if boardB n m xs then xs.reverse else []
theorem boardB_yes {n m : Int} {xs : List Int} (h : boardB n m xs = true) : ∃ n' m' s : Nat, n = n' ∧ m = m' ∧ n' * m' = s ∧ s ≤ 30 ∧ 1 ≤ n' ∧ 1 ≤ m' ∧ n * m = (s : Int) ∧ xs.length = s ∧ allB 0 2 xs = true := by
  have hs : sidesB n m = true := by
    simp only [boardB, Bool.and_eq_true] at h
    exact h.1
  obtain ⟨n, m, s, rfl, rfl, hnm, h30, h1, h2, hp⟩ := sidesB_yes hs
  obtain ⟨hl, hA⟩ := (hbl_of hs hp).1 h
  exact ⟨n, m, s, rfl, rfl, hnm, h30, h1, h2, hp, hl, hA⟩
theorem valHalf_len (n m : Int) (xs : List Int) : (valHalf n m xs).length ≤ 1000 := by
  unfold valHalf
  split
  · rename_i h
    obtain ⟨_, _, s, -, -, -, h30, -, -, -, hl, -⟩ := boardB_yes h
    simp only [List.length_reverse]
    omega
  · simp
theorem rev_step (xs : List Int) (k : Nat) (hk : k < xs.length) : xs.reverse.take (k + 1) = xs.reverse.take k ++ [xs.getD (xs.length - 1 - k) 0] := by
  rw [List.take_add_one, List.getElem?_reverse hk, List.getElem?_eq_getElem (by omega), List.getD_eq_getElem?_getD, List.getElem?_eq_getElem (by omega)]
  rfl
theorem gives_of {w w' : World} {et : TypeId} {L : List Int} {v : Value} {n : Nat} {b : Bool} (hb : b = true) (hn : n = L.length) (ho : w'.ownsRow w.heap.size et 1 v n (L.map (Value.int .i64))) (hB : Below w.heap.size w w') : Gives w et L b (.returned (.tuple #[v, .bool true])) w' := by
  subst hb hn
  exact ⟨v, rfl, ho, hB⟩
theorem gives_nil3 {w w' : World} {et : TypeId} {L : List Int} {b : Bool} (hL : L = []) (hb : b = false) (hB : Below w.heap.size w w') : Gives w et L b (.returned (.tuple #[.slice none 0 0, .bool false])) w' := by
  subst hL hb
  exact gives_none hB
end Go.Proofs.YtianmmjjcegkjaaDoor
