import Derived.RegionTactic
import Derived.Test.YtncpnkcdjfohgaaDoorMg2
import Derived.Test.YtncpnkcdjfohgaaDoorMd4
namespace Go.Proofs.YtncpnkcdjfohgaaDoor
open Go.RowKit
set_option maxRecDepth 4000
theorem four_heap (w : World) (a b c d : Obj) : ((((w.alloc a).alloc b).alloc c).alloc d).heap[w.heap.size]? = some a ∧ ((((w.alloc a).alloc b).alloc c).alloc d).heap[w.heap.size + 1]? = some b ∧ ((((w.alloc a).alloc b).alloc c).alloc d).heap[w.heap.size + 2]? = some c ∧ ((((w.alloc a).alloc b).alloc c).alloc d).heap[w.heap.size + 3]? = some d := by
  obtain ⟨h0, h1⟩ := two_heap w a b
  obtain ⟨h2, h3⟩ := two_heap ((w.alloc a).alloc b) c d
  rw [World.size_alloc, World.size_alloc] at h2 h3
  refine ⟨?_, ?_, h2, h3⟩
  · rw [Below.heap_alloc _ _ _ (by simp only [World.size_alloc]; omega), Below.heap_alloc _ _ _ (by simp only [World.size_alloc]; omega)]; exact h0
  · rw [Below.heap_alloc _ _ _ (by simp only [World.size_alloc]; omega), Below.heap_alloc _ _ _ (by simp only [World.size_alloc]; omega)]; exact h1
section
variable {ops : Array Oper} {rest : List Oper} {o : Oper} {a : Act} {w : World} {Q : Exit → Act → World → Prop}
theorem build_deal {i e : Int} {r fa : Array Value} (hb : ∀ w : World, (Instr.build 60 #[(0, .int .i64 i), (1, .agg r), (2, .int .i64 e)]).run Tryd.prog w = .ok (.agg fa) w) (hgd : o.guard = none) (x y z : Operand) (ho : o.op = .build 60 #[(0, x), (1, y), (2, z)])
    (hx : a.eval x = .int .i64 i) (hy : a.eval y = .agg r) (hz : a.eval z = .int .i64 e) (h : wpList Tryd.prog ops Q rest (a.put o.dst (.agg fa)) w) : wpList Tryd.prog ops Q (o :: rest) a w := by
  refine wpList_plain hgd fun K hK => ?_
  unfold Oper.wp
  simp [execOp, ho, hx, hy, hz, hb, Result.andThen]
  exact hK _ _ h
end
/-- What the search keeps in memory. -/
def HPd (T : TypeId) (sh : Array Value) (n : Int) (b : Nat) (cs : Array Value) (w : World) : Prop :=
  w.heap[b]? = some (.cells #[.int .i64 n] 50 (0, 0)) ∧ w.heap[b + 1]? = some (.cells sh T (0, 0)) ∧ w.heap[b + 2]? = some (.cells zeroD 60 (0, 0)) ∧ w.heap[b + 3]? = some (.cells cs 60 (0, 0))
theorem HPd.lt {T : TypeId} {sh : Array Value} {n : Int} {b : Nat} {cs : Array Value} {w : World} (h : HPd T sh n b cs w) : b + 4 ≤ w.heap.size := (Array.getElem?_eq_some_iff.1 h.2.2.2).1
theorem HPd.below {T : TypeId} {sh : Array Value} {n : Int} {b : Nat} {cs : Array Value} {w w' : World} (h : HPd T sh n b cs w) (hb : Below w.heap.size w w') : HPd T sh n b cs w' := by
  have := h.lt
  exact ⟨(hb.block _ (by omega)).trans h.1, (hb.block _ (by omega)).trans h.2.1, (hb.block _ (by omega)).trans h.2.2.1, (hb.block _ (by omega)).trans h.2.2.2⟩
theorem HPd.keep {T : TypeId} {sh : Array Value} {n : Int} {b g : Nat} {cs : Array Value} {w w' : World} (h : HPd T sh n b cs w) (hk : ∀ k, k ≠ g → w'.heap[k]? = w.heap[k]?) (hg : b + 4 ≤ g) : HPd T sh n b cs w' :=
  ⟨(hk _ (by omega)).trans h.1, (hk _ (by omega)).trans h.2.1, (hk _ (by omega)).trans h.2.2.1, (hk _ (by omega)).trans h.2.2.2⟩
theorem HPd.set {T : TypeId} {sh : Array Value} {n : Int} {b : Nat} {cs cs' : Array Value} {w w' : World} (h : HPd T sh n b cs w) (hk : ∀ k, k ≠ b + 3 → w'.heap[k]? = w.heap[k]?) (hg : w'.heap[b + 3]? = some (.cells cs' 60 (0, 0))) : HPd T sh n b cs' w' :=
  ⟨(hk _ (by omega)).trans h.1, (hk _ (by omega)).trans h.2.1, (hk _ (by omega)).trans h.2.2.1, hg⟩
end Go.Proofs.YtncpnkcdjfohgaaDoor
