import Derived.Test.YtcahecohjmahaaaDoorIdx
import Derived.Test.YtcahecohjmahaaaDoorZa
import Derived.Laws.CopyOwn
namespace Go.Proofs.YtcahecohjmahaaaDoor
open Go.RowKit
set_option maxRecDepth 4000
/-- Labels as the program keeps them: the side, the labels, noughts. -/
def labL (n : Nat) (xs : List Int) : List Value := .int .i64 n :: (xs.map (Value.int .i64) ++ List.replicate (45 - xs.length) (.int .i64 0))
theorem labL_len (n : Nat) (xs : List Int) (h : xs.length ≤ 45) : (labL n xs).length = 46 := by simp [labL]; omega
def zeroA : Array Value := (List.replicate 46 (Value.int .i64 0)).toArray
def lab0 (n : Int) : Array Value := (Value.int .i64 n :: List.replicate 45 (Value.int .i64 0)).toArray
theorem zeroA_size : zeroA.size = 46 := by simp [zeroA]
theorem lab0_size (n : Int) : (lab0 n).size = 46 := by simp [lab0]
theorem zeroA_one : zeroA.all (·.oneCell') = true := by decide +kernel
theorem lab0_one (n : Int) : (lab0 n).all (·.oneCell') = true := by
  simp only [lab0, List.all_toArray, List.all_cons, List.all_replicate]; rfl
theorem labSize : (Tryd.prog.info? 100).map (·.size) = some 46 := by kernel_rfl
theorem run_alloc_lab (w : World) : (Instr.alloc 100 true (.tuple #[])).run Tryd.prog w = .ok (.pointer (some ⟨w.heap.size, 0, none⟩)) (w.alloc (.cells zeroA 100)) := by kernel_rfl
section
variable {ops : Array Oper} {rest : List Oper} {o : Oper} {a : Act} {w : World} {Q : Exit → Act → World → Prop}
theorem alloc_lab (hgd : o.guard = none) (ho : o.op = .alloc 100)
    (h : wpList Tryd.prog ops Q rest (a.put o.dst (.pointer (some ⟨w.heap.size, 0, none⟩))) (w.alloc (.cells zeroA 100))) : wpList Tryd.prog ops Q (o :: rest) a w := by
  refine wpList_plain hgd fun K hK => ?_
  unfold Oper.wp
  simp [execOp, ho, run_alloc_lab, Result.andThen]
  exact hK _ _ h
theorem run_build0 (w : World) : (Instr.build 100 #[]).run Tryd.prog w = .ok (.agg zeroA) w := by kernel_rfl
theorem run_buildn (n : Int) (w : World) : (Instr.build 100 #[(0, .agg #[.int .i64 n])]).run Tryd.prog w = .ok (.agg (lab0 n)) w := by kernel_rfl
theorem build0_lab (hgd : o.guard = none) (ho : o.op = .build 100 #[])
    (h : wpList Tryd.prog ops Q rest (a.put o.dst (.agg zeroA)) w) : wpList Tryd.prog ops Q (o :: rest) a w := by
  refine wpList_plain hgd fun K hK => ?_
  unfold Oper.wp
  simp [execOp, ho, run_build0, Result.andThen]
  exact hK _ _ h
theorem buildn_lab (hgd : o.guard = none) (x : Operand) (n : Int) (ho : o.op = .build 100 #[(0, x)]) (hx : a.eval x = .agg #[.int .i64 n])
    (h : wpList Tryd.prog ops Q rest (a.put o.dst (.agg (lab0 n))) w) : wpList Tryd.prog ops Q (o :: rest) a w := by
  refine wpList_plain hgd fun K hK => ?_
  unfold Oper.wp
  simp [execOp, ho, hx, run_buildn, Result.andThen]
  exact hK _ _ h
/-- A whole store into a block of the call's own. -/
theorem store_lab (hgd : o.guard = none) (x y : Operand) (ho : o.op = .store 100 x y) (g : Nat) (cells old : Array Value) (hx : a.eval x = .pointer (some ⟨g, 0, none⟩)) (hy : a.eval y = .agg cells)
    (hg : w.heap[g]? = some (.cells old 100 (0, 0))) (hold : old.size = 46) (hc : cells.size = 46) (h1 : cells.all (·.oneCell') = true) (B : Nat) (hB : B ≤ g)
    (h : ∀ w', w'.heap[g]? = some (.cells cells 100 (0, 0)) → Below B w w' → wpList Tryd.prog ops Q rest (a.put o.dst undef) w') : wpList Tryd.prog ops Q (o :: rest) a w := by
  refine wpList_store_row hgd _ x y ho g cells hx hy _ old hg (by rw [labSize, hc]) (by omega) h1 ?_
  exact h _ (setRow_heap w g old cells _ _ hg) (below_setRow (Below.refl _ _) hB _)
theorem load_lab (hgd : o.guard = none) (x : Operand) (ho : o.op = .load 100 x) (g : Nat) (hx : a.eval x = .pointer (some ⟨g, 0, none⟩)) (cs : Array Value) (hg : w.heap[g]? = some (.cells cs 100 (0, 0))) (hc : cs.size = 46)
    (h : wpList Tryd.prog ops Q rest (a.put o.dst (.agg cs)) w) : wpList Tryd.prog ops Q (o :: rest) a w :=
  wpList_load_row hgd _ x ho g hx _ cs (0, 0) _ hg Tryd.underlying100 rfl (by rw [labSize, hc]) h
end
end Go.Proofs.YtcahecohjmahaaaDoor
