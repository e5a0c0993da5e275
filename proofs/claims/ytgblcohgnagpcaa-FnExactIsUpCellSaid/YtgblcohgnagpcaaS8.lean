import Derived.LoopN
import Derived.BigRegion
import Derived.RegionTactic
import Derived.Test.YtgblcohgnagpcaaS6
import Derived.Test.YtgblcohgnagpcaaZd
namespace Go.Proofs.Ytgblcohgnagpcaa
open Go.RowKit
set_option maxRecDepth 4000
def zmove : Array Value := #[.int .i64 0, .int .i64 0, .int .i64 0]
theorem zmove_size : zmove.size = 3 := rfl
theorem zmove_one : zmove.all (·.oneCell') = true := by simp [zmove, Value.oneCell']
def mvA (im : List (List Int)) (n i : Nat) : Array Value := spA3 (mv im n i 0) (mv im n i 1) (mv im n i 2)
theorem heap3 (w : World) (o o' o'' : Obj) : (((w.alloc o).alloc o').alloc o'').heap[w.heap.size]? = some o ∧ (((w.alloc o).alloc o').alloc o'').heap[w.heap.size + 1]? = some o' ∧ (((w.alloc o).alloc o').alloc o'').heap[w.heap.size + 1 + 1]? = some o'' := by
  refine ⟨?_, ?_, ?_⟩
  · rw [Below.heap_alloc _ _ _ (by simp; omega), Below.heap_alloc _ _ _ (by simp)]
    exact heap_alloc_new w _
  · rw [Below.heap_alloc _ _ _ (by simp)]
    have e := heap_alloc_new (w.alloc o) o'
    rwa [World.size_alloc] at e
  · have e := heap_alloc_new ((w.alloc o).alloc o') o''
    rwa [World.size_alloc, World.size_alloc] at e
theorem spot_args (n i : Nat) : (Value.agg #[.int .i64 ((n : Int) - (Pr.R i : Nat)), .int .i64 ((Pr.R i : Int) - (Pr.C i : Nat)), .int .i64 (Pr.C i : Nat)]) = .agg (spA3 (pq n i 0) (pq n i 1) (pq n i 2)) := rfl
theorem index_pt (n i : Nat) (h2 : n ≤ 5) (hi : i < Pr.cnt n) (w : World) :
    Calls Try.prog 48 #[.agg #[.int .i64 n], .agg (spA3 (pq n i 0) (pq n i 1) (pq n i 2))] w fun e w' => e = .returned (.int .i64 i) ∧ Below w.heap.size w w' := by
  have hc := cnt21 n h2
  have p0 := pq_bd n i 0 (by omega) hi (by omega)
  have p2 := pq_bd n i 2 (by omega) hi (by omega)
  have h := indexOf_any n (pq n i 0) (pq n i 1) (pq n i 2) (by omega) p0.1 p0.2 p2.1 (by omega) w
  have e : ((Pr.T ((n : Int) - pq n i 0).toNat : Nat) : Int) + pq n i 2 = i := by
    have hall := (Pr.RC_all i (by omega)).1
    have : ((n : Int) - pq n i 0).toNat = Pr.R i := by simp [pq, pt]; omega
    rw [this]
    simp only [pq, pt, List.getD_cons_succ, List.getD_cons_zero]
    omega
  rw [e] at h
  exact h
end Go.Proofs.Ytgblcohgnagpcaa
