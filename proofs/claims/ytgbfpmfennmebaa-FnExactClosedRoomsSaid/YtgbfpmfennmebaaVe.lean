import Derived.Test.YtgbfpmfennmebaaVd
import Derived.Test.YtgbfpmfennmebaaGe
namespace Go.Proofs.Ytgbfpmfennmebaa
open Go.RowKit
set_option maxRecDepth 4000
def lastN (L : List Nat) : Nat := L.getLast?.getD 0
theorem lastN_app (pre : List Nat) (l : Nat) : lastN (pre ++ [l]) = l := by simp [lastN]
/-- Whether the walk from a door of the border ends in a full room. -/
def ffF (xs : List Int) (n : Nat) (d : Int × Int) : Bool := (wfrom xs n (-1) d).2.2
def okFindFull (n : Int) (xs : List Int) : Bool := labB n xs && ((bds n.toNat xs).find? (ffF xs n.toNat)).isSome
def lastI (xs : List Int) (n : Nat) (o : Option (Int × Int)) : Int := match o with | some d => lastN (wfrom xs n (-1) d).1 | none => 0
def valFindFull (n : Int) (xs : List Int) : Int := if labB n xs then lastI xs n.toNat ((bds n.toNat xs).find? (ffF xs n.toNat)) else 0
theorem goes_inner {xs : List Int} {n : Nat} {fr : Int} {p : Int × Int} (h : Goes xs n fr p) : Goes xs n fr (inner p) := by
  have hii := inner_inner p h.1
  refine ⟨?_, fun k hk => ?_⟩
  · have := inner_lt h.1
    omega
  · rw [hii] at hk ⊢
    exact h.2 k hk
theorem ret_iv {x y : Int} {b : Bool} (h : x = y) (hb : b = true) : Ending.returned (.tuple #[.int .i64 x, .bool true]) = .returned (.tuple #[.int .i64 y, .bool b]) := by rw [h, hb]
theorem ret_in {y : Int} {b : Bool} (h : y = 0) (hb : b = false) : Ending.returned (.tuple #[.int .i64 0, .bool false]) = .returned (.tuple #[.int .i64 y, .bool b]) := by rw [h, hb]
end Go.Proofs.Ytgbfpmfennmebaa
