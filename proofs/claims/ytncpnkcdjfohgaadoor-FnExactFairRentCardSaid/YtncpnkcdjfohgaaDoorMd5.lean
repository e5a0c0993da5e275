import Derived.Test.YtncpnkcdjfohgaaDoorZc
namespace Go.Proofs.YtncpnkcdjfohgaaDoor
open Go.RowKit
set_option maxRecDepth 4000
theorem two_heap (w : World) (o o' : Obj) : ((w.alloc o).alloc o').heap[w.heap.size]? = some o ∧ ((w.alloc o).alloc o').heap[w.heap.size + 1]? = some o' := by
  constructor
  · rw [Below.heap_alloc _ _ _ (by simp)]
    exact heap_alloc_new w _
  · have e := heap_alloc_new (w.alloc o) o'
    rwa [World.size_alloc] at e
theorem load_ok {ty : TypeId} {n : Nat} (bk : Blk ty n) (w : World) (g : Nat) (cs : Array Value) (hg : w.heap[g]? = some (.cells cs ty (0, 0))) (hc : cs.size = n) : (loadVar ty ⟨g, 0, none⟩).run Tryd.prog w = .ok (.agg cs) w := by
  rcases bk.und with ⟨_, hu⟩ | ⟨_, _, hu⟩ <;> exact run_loadVar_row (P := Tryd.prog) w g ty ty cs (0, 0) _ hg hu rfl (by rw [bk.size, hc])
end Go.Proofs.YtncpnkcdjfohgaaDoor
