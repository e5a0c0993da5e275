import Derived.Test.YtianmmjjcegkjaaDoorZa
import Derived.ArgAppend
import Derived.Deep.Onto
namespace Go.Proofs.YtianmmjjcegkjaaDoor
open Go.RowKit
set_option maxRecDepth 4000
/-- Cells, three numbers each, that can be read. -/
def TRd (w : World) (a : Option Addr) (b : Nat) (xs : List Int) : Prop := ∀ j, j < xs.length → a = some ⟨b, 0, none⟩ ∧ w.cell? ⟨b, j, none⟩ = some (.int .i64 (xs.getD j 0))
theorem cells_shape {w : World} {base : Nat} {v : Value} {cs : List (List Int)} (h : CellsV w base v cs) : ∃ a n cap, v = .slice a n cap := by
  obtain ⟨vs, hvs, -, -⟩ := h
  rcases hvs.2 with ⟨h, -⟩ | ⟨g, cap, cur, h, -⟩
  · exact ⟨_, _, _, h⟩
  · exact ⟨_, _, _, h⟩
end Go.Proofs.YtianmmjjcegkjaaDoor

namespace Go.Proofs.YtianmmjjcegkjaaDoor
open Go.RowKit
set_option maxRecDepth 4000
/-- What a function does that answers a list of lists, and whether it succeeds. -/
def CGives (w : World) (cs : List (List Int)) (ok : Bool) (e : Ending) (w' : World) : Prop :=
  ∃ v, e = .returned (.tuple #[v, .bool ok]) ∧ CellsV w' w.heap.size v cs ∧ Below w.heap.size w w'
theorem cgives_none {w w' : World} (hb : Below w.heap.size w w') : CGives w [] false (.returned (.tuple #[.slice none 0 0, .bool false])) w' := ⟨_, rfl, cells_nil _ _, hb⟩
theorem Rd.drewN {w : World} {a : Option Addr} {b off : Nat} {xs : List Int} (h : Rd w a b off xs) (m : Nat) : Rd (w.drewN m) a b off xs := h.same ((Same.refl w).drewN m)
end Go.Proofs.YtianmmjjcegkjaaDoor
