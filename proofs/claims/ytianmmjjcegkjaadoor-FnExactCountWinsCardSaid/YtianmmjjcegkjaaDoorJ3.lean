import Derived.Test.YtianmmjjcegkjaaDoorJ2
namespace Go.Proofs.YtianmmjjcegkjaaDoor
open Go.RowKit
set_option maxRecDepth 4000
open Net
/-- The neighbours of a place, as numbers. -/
def nbH (n m s i : Nat) : List Nat := ((hxa n m i).map Int.toNat).filter (fun j => decide (j < s))
def adjL (n m s : Nat) : List Nat := (List.range s).map fun i => maskOf (fun j => (nbH n m s i).contains j) s
def allX : Nat → (Nat → Bool) → Bool
  | 0, _ => true
  | k + 1, f => f k && allX k f
theorem allX_at {f : Nat → Bool} : ∀ k, allX k f = true → ∀ x, x < k → f x = true
  | 0, _, x, h => by omega
  | k + 1, h, x, hx => by
    rw [allX, Bool.and_eq_true] at h
    by_cases e : x = k
    · rw [e]; exact h.1
    · exact allX_at k h.2 x (by omega)
def chk1 (A : List Nat) (r B1 B2 T Bo L R : Nat) : Bool := str2 (flood A B1 r (T &&& B1)) fun f1 => str2 (flood A B2 r (L &&& B2)) fun f2 => Nat.beq (stepF A B1 f1) f1 && (Nat.beq (stepF A B2 f2) f2 && (Nat.beq (f1 &&& Bo) 0 != Nat.beq (f2 &&& R) 0))
def chkG (s T Bo L R : Nat) (A : List Nat) : Bool := allX (2 ^ s) fun x => chk1 A (s - 1) (2 ^ s - 1 - x) x T Bo L R
def adjT : List (Nat × Nat × List Nat) := [(1, 1, [0]), (1, 2, [2, 1]), (1, 3, [2, 5, 2]), (1, 4, [2, 5, 10, 4]), (1, 5, [2, 5, 10, 20, 8]), (1, 6, [2, 5, 10, 20, 40, 16]), (1, 7, [2, 5, 10, 20, 40, 80, 32]), (1, 8, [2, 5, 10, 20, 40, 80, 160, 64]), (1, 9, [2, 5, 10, 20, 40, 80, 160, 320, 128]), (2, 1, [2, 1]), (2, 2, [6, 13, 11, 6]), (2, 3, [10, 29, 50, 19, 46, 20]), (2, 4, [18, 53, 106, 196, 35, 86, 172, 72]), (3, 1, [2, 5, 2]), (3, 2, [6, 13, 27, 54, 44, 24]), (3, 3, [10, 29, 50, 83, 238, 404, 152, 368, 160]), (4, 1, [2, 5, 10, 4]), (4, 2, [6, 13, 27, 54, 108, 216, 176, 96]), (5, 1, [2, 5, 10, 20, 8]), (6, 1, [2, 5, 10, 20, 40, 16]), (7, 1, [2, 5, 10, 20, 40, 80, 32]), (8, 1, [2, 5, 10, 20, 40, 80, 160, 64]), (9, 1, [2, 5, 10, 20, 40, 80, 160, 320, 128])]
theorem adjT_has : ∀ n, n ≤ 9 → ∀ m, m ≤ 9 → 1 ≤ n → 1 ≤ m → n * m ≤ 9 → (adjT.any fun e => e.1 == n && e.2.1 == m) = true := by decide +kernel
theorem adjT_is : (adjT.all fun e => e.2.2 == adjL e.1 e.2.1 (e.1 * e.2.1)) = true := by decide +kernel
theorem adjT_chk : (adjT.all fun e => str2 (e.1 * e.2.1) fun s => str2 (maskOf (fun j => decide (j < e.2.1)) s) fun T => str2 (maskOf (fun j => decide (s ≤ j + e.2.1)) s) fun Bo => str2 (maskOf (fun j => decide (j % e.2.1 = 0)) s) fun L => str2 (maskOf (fun j => decide (j % e.2.1 + 1 = e.2.1)) s) fun R => chkG s T Bo L R e.2.2) = true := by decide +kernel
end Go.Proofs.YtianmmjjcegkjaaDoor
