import Derived.Test.YtianmmjjcegkjaaDoorMu
import Derived.Test.YtianmmjjcegkjaaDoorHf
import Derived.Test.YtianmmjjcegkjaaDoorHv
import Derived.Test.YtianmmjjcegkjaaDoorZa
namespace Go.Proofs.YtianmmjjcegkjaaDoor
open Go.RowKit
set_option maxRecDepth 4000
def tix (n m k : Nat) : Nat := n * (k % m) + k / m
theorem tix_lt (n m s k : Nat) (hnm : n * m = s) (h2 : 1 ≤ m) (hk : k < s) : tix n m k < s := by
  have a : k % m < m := Nat.mod_lt _ (by omega)
  have b : k / m < n := Nat.div_lt_of_lt_mul (by rw [Nat.mul_comm]; omega)
  have c : n * (k % m) ≤ n * (m - 1) := Nat.mul_le_mul_left n (by omega)
  have d : n * (m - 1) + n = n * m := by
    obtain ⟨q, rfl⟩ : ∃ q, m = q + 1 := ⟨m - 1, by omega⟩
    rw [Nat.add_sub_cancel, Nat.mul_add, Nat.mul_one]
  unfold tix
  omega
/-- The board turned, as far as the first k places. -/
def tbl (n m s : Nat) (xs : List Int) : Nat → List Int
  | 0 => List.replicate s 0
  | k + 1 => (tbl n m s xs k).set (tix n m k) (tv (xs.getD k 0))
theorem tbl_len (n m s : Nat) (xs : List Int) : ∀ k, (tbl n m s xs k).length = s
  | 0 => by simp [tbl]
  | k + 1 => by rw [tbl, List.length_set, tbl_len n m s xs k]
def valTurnB (n m : Int) (xs : List Int) : List Int := if boardB n m xs then tbl n.toNat m.toNat xs.length xs xs.length else []
theorem valTurnB_len (n m : Int) (xs : List Int) : (valTurnB n m xs).length ≤ 1000 := by
  unfold valTurnB
  split
  · rename_i h
    obtain ⟨_, _, s, -, -, -, h30, -, -, -, hl, -⟩ := boardB_yes h
    rw [tbl_len]
    omega
  · simp
section
variable {P : Program} {ops : Array Oper} {S : World → Prop} {Q : Exit → Act → World → Prop}
end
end Go.Proofs.YtianmmjjcegkjaaDoor
