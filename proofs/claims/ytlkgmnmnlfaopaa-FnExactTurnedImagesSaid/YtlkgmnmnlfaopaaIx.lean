import Derived.Test.YtlkgmnmnlfaopaaZa
import Derived.Test.YtlkgmnmnlfaopaaBf
namespace Go.Proofs.Ytlkgmnmnlfaopaa
open Go.RowKit
set_option maxRecDepth 4000
theorem three {xs : List Int} (h : xs.length = 3) : ∃ x y z, xs = [x, y, z] := by
  match xs, h with
  | [x, y, z], _ => exact ⟨x, y, z, rfl⟩
/-- What IndexOfPoint answers. -/
def ixOk (n : Int) (xs : List Int) : Bool := decide (1 ≤ n ∧ n ≤ 8 ∧ xs.length = 3 ∧ allB 0 n xs = true ∧ xs.getD 0 0 + xs.getD 1 0 + xs.getD 2 0 = n)
def ixAt (n : Int) (xs : List Int) : Int := if ixOk n xs then ((Pr.T (n - xs.getD 0 0).toNat : Nat) : Int) + xs.getD 2 0 else 0
def Ix (w : World) (n : Int) (xs : List Int) (e : Ending) (w' : World) : Prop := e = .returned (.tuple #[.int .i64 (ixAt n xs), .bool (ixOk n xs)]) ∧ Below w.heap.size w w'
theorem ix_no {w w' : World} {n : Int} {xs : List Int} (h : ¬ (1 ≤ n ∧ n ≤ 8 ∧ xs.length = 3 ∧ allB 0 n xs = true ∧ xs.getD 0 0 + xs.getD 1 0 + xs.getD 2 0 = n)) (hb : Below w.heap.size w w') :
    Ix w n xs (.returned (.tuple #[.int .i64 0, .bool false])) w' := by
  have e : ixOk n xs = false := by simp only [ixOk]; exact decide_eq_false h
  exact ⟨by simp [ixAt, e], hb⟩
theorem ix_yes {w w' : World} {n : Int} {xs : List Int} (h : 1 ≤ n ∧ n ≤ 8 ∧ xs.length = 3 ∧ allB 0 n xs = true ∧ xs.getD 0 0 + xs.getD 1 0 + xs.getD 2 0 = n) (hb : Below w.heap.size w w') :
    Ix w n xs (.returned (.tuple #[.int .i64 (((Pr.T (n - xs.getD 0 0).toNat : Nat) : Int) + xs.getD 2 0), .bool true])) w' := by
  have e : ixOk n xs = true := by simp only [ixOk]; exact decide_eq_true h
  exact ⟨by simp [ixAt, e], hb⟩
end Go.Proofs.Ytlkgmnmnlfaopaa
