import Derived.Test.YtianmmjjcegkjaaDoorZc
namespace Go.Proofs.YtianmmjjcegkjaaDoor
open Go.RowKit
set_option maxRecDepth 4000
theorem szInts : (Tryd.prog.info? 27).map (·.size) = some 1 := by kernel_rfl
theorem szBool : (Tryd.prog.info? 4).map (·.size) = some 1 := by kernel_rfl
def ints (L : List Nat) : List Int := L.map (fun (k : Nat) => (k : Int))
theorem ints_len (L : List Nat) : (ints L).length = L.length := by simp [ints]
theorem ints_app (L : List Nat) (k : Nat) : ints (L ++ [k]) = ints L ++ [(k : Int)] := by simp [ints]
theorem cells_slice (a : Option Addr) (m c : Nat) : (Value.slice a m c).cells.size = 1 := rfl
theorem cells_bool (b : Bool) : (Value.bool b).cells.size = 1 := rfl
theorem one_slice (a : Option Addr) (m c : Nat) : ∀ u ∈ (Value.slice a m c).cells.toList, u.oneCell' = true := by simp [Value.cells, Value.oneCell']
theorem one_bool (b : Bool) : ∀ u ∈ (Value.bool b).cells.toList, u.oneCell' = true := by simp [Value.cells, Value.oneCell']
end Go.Proofs.YtianmmjjcegkjaaDoor
