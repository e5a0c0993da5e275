import Derived.Test.YtianmmjjcegkjaaDoorHc
namespace Go.Proofs.YtianmmjjcegkjaaDoor
open Go.RowKit
set_option maxRecDepth 4000
theorem lt_later {w w' : World} {b len : Nat} (hb0 : len = 0 ∨ b < w.heap.size) (hb : Below w.heap.size w w') : len = 0 ∨ b < w'.heap.size := hb0.imp_right fun h => Nat.lt_of_lt_of_le h hb.size
def OutIsBoard (w : World) (x : Bool) (ok : Bool) (e : Ending) (w' : World) : Prop := e = .returned (.tuple #[.bool x, .bool ok]) ∧ Below w.heap.size w w'
theorem outIs {w w' : World} {x ok x' ok' : Bool} (hx : x = x') (ho : ok = ok') (hB : Below w.heap.size w w') : OutIsBoard w x ok (.returned (.tuple #[.bool x', .bool ok'])) w' := by
  subst hx ho
  exact ⟨rfl, hB⟩
theorem hbl_of {n m : Nat} {xs : List Int} {s : Nat} (hs : sidesB n m = true) (hp : (n : Int) * (m : Int) = (s : Int)) : boardB n m xs = true ↔ xs.length = s ∧ allB 0 2 xs = true := by
  rw [boardB, hs, Bool.true_and, Bool.and_eq_true, decide_eq_true_eq, hp]
  exact ⟨fun h => ⟨by omega, h.2⟩, fun h => ⟨by omega, h.2⟩⟩
theorem bstep {w w1 : World} (hb : Below w.heap.size w w1) (o : Obj) : Below w.heap.size w (w1.alloc o) := balloc hb o
end Go.Proofs.YtianmmjjcegkjaaDoor
