import Derived.Test.YtianmmjjcegkjaaDoorZa
import Derived.Laws.CopyOwn
namespace Go.Proofs.YtianmmjjcegkjaaDoor
open Go.RowKit
set_option maxRecDepth 4000
/-- A board as the program keeps it: rows, columns, the owners, noughts. -/
def hbL (n m : Nat) (xs : List Int) : List Value := .int .i64 n :: .int .i64 m :: (xs.map (Value.int .i64) ++ List.replicate (30 - xs.length) (.int .i64 0))
theorem hbL_len (n m : Nat) (xs : List Int) (h : xs.length ≤ 30) : (hbL n m xs).length = 32 := by simp [hbL]; omega
def zeroH : Array Value := (List.replicate 32 (Value.int .i64 0)).toArray
def hb0 (n m : Int) : Array Value := (Value.int .i64 n :: Value.int .i64 m :: List.replicate 30 (Value.int .i64 0)).toArray
theorem zeroH_size : zeroH.size = 32 := by simp [zeroH]
theorem hb0_size (n m : Int) : (hb0 n m).size = 32 := by simp [hb0]
theorem zeroH_one : zeroH.all (·.oneCell') = true := by decide +kernel
theorem hb0_one (n m : Int) : (hb0 n m).all (·.oneCell') = true := by
  simp only [hb0, List.all_toArray, List.all_cons, List.all_replicate]; rfl
theorem hbSize : (Tryd.prog.info? 36).map (·.size) = some 32 := by kernel_rfl
theorem run_alloc_hb (w : World) : (Instr.alloc 36 true (.tuple #[])).run Tryd.prog w = .ok (.pointer (some ⟨w.heap.size, 0, none⟩)) (w.alloc (.cells zeroH 36)) := by kernel_rfl
section
variable {ops : Array Oper} {rest : List Oper} {o : Oper} {a : Act} {w : World} {Q : Exit → Act → World → Prop}
theorem alloc_hb (hgd : o.guard = none) (ho : o.op = .alloc 36)
    (h : wpList Tryd.prog ops Q rest (a.put o.dst (.pointer (some ⟨w.heap.size, 0, none⟩))) (w.alloc (.cells zeroH 36))) : wpList Tryd.prog ops Q (o :: rest) a w := by
  refine wpList_plain hgd fun K hK => ?_
  unfold Oper.wp
  simp [execOp, ho, run_alloc_hb, Result.andThen]
  exact hK _ _ h
theorem run_build0_hb (w : World) : (Instr.build 36 #[]).run Tryd.prog w = .ok (.agg zeroH) w := by kernel_rfl
theorem run_buildn_hb (n m : Int) (w : World) : (Instr.build 36 #[(0, .agg #[.int .i64 n, .int .i64 m])]).run Tryd.prog w = .ok (.agg (hb0 n m)) w := by kernel_rfl
theorem build0_hb (hgd : o.guard = none) (ho : o.op = .build 36 #[])
    (h : wpList Tryd.prog ops Q rest (a.put o.dst (.agg zeroH)) w) : wpList Tryd.prog ops Q (o :: rest) a w := by
  refine wpList_plain hgd fun K hK => ?_
  unfold Oper.wp
  simp [execOp, ho, run_build0_hb, Result.andThen]
  exact hK _ _ h
theorem buildn_hb (hgd : o.guard = none) (x : Operand) (n m : Int) (ho : o.op = .build 36 #[(0, x)]) (hx : a.eval x = .agg #[.int .i64 n, .int .i64 m])
    (h : wpList Tryd.prog ops Q rest (a.put o.dst (.agg (hb0 n m))) w) : wpList Tryd.prog ops Q (o :: rest) a w := by
  refine wpList_plain hgd fun K hK => ?_
  unfold Oper.wp
  simp [execOp, ho, hx, run_buildn_hb, Result.andThen]
  exact hK _ _ h
/-- A whole store into a block of the call's own. -/
theorem store_hb (hgd : o.guard = none) (x y : Operand) (ho : o.op = .store 36 x y) (g : Nat) (cells old : Array Value) (hx : a.eval x = .pointer (some ⟨g, 0, none⟩)) (hy : a.eval y = .agg cells)
    (hg : w.heap[g]? = some (.cells old 36 (0, 0))) (hold : old.size = 32) (hc : cells.size = 32) (h1 : cells.all (·.oneCell') = true) (B : Nat) (hB : B ≤ g)
    (h : ∀ w', w'.heap[g]? = some (.cells cells 36 (0, 0)) → Below B w w' → wpList Tryd.prog ops Q rest (a.put o.dst undef) w') : wpList Tryd.prog ops Q (o :: rest) a w := by
  refine wpList_store_row hgd _ x y ho g cells hx hy _ old hg (by rw [hbSize, hc]) (by omega) h1 ?_
  exact h _ (setRow_heap w g old cells _ _ hg) (below_setRow (Below.refl _ _) hB _)
theorem load_hb (hgd : o.guard = none) (x : Operand) (ho : o.op = .load 36 x) (g : Nat) (hx : a.eval x = .pointer (some ⟨g, 0, none⟩)) (cs : Array Value) (hg : w.heap[g]? = some (.cells cs 36 (0, 0))) (hc : cs.size = 32)
    (h : wpList Tryd.prog ops Q rest (a.put o.dst (.agg cs)) w) : wpList Tryd.prog ops Q (o :: rest) a w :=
  wpList_load_row hgd _ x ho g hx _ cs (0, 0) _ hg Tryd.underlying36 rfl (by rw [hbSize, hc]) h
end
end Go.Proofs.YtianmmjjcegkjaaDoor
