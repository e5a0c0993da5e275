import Derived.Test.YtgbfpmfennmebaaGd
namespace Go.Proofs.Ytgbfpmfennmebaa
open Go.RowKit
set_option maxRecDepth 4000
theorem run_build0_wk (w : World) : (Instr.build 104 #[]).run Try.prog w = .ok (.agg zeroW) w := by kernel_rfl
theorem zeroW_one : zeroW.all (·.oneCell') = true := by decide +kernel
section
variable {ops : Array Oper} {rest : List Oper} {o : Oper} {a : Act} {w : World} {Q : Exit → Act → World → Prop}
theorem build0_wk (hgd : o.guard = none) (ho : o.op = .build 104 #[])
    (h : wpList Try.prog ops Q rest (a.put o.dst (.agg zeroW)) w) : wpList Try.prog ops Q (o :: rest) a w := by
  refine wpList_plain hgd fun K hK => ?_
  unfold Oper.wp
  simp [execOp, ho, run_build0_wk, Result.andThen]
  exact hK _ _ h
end
theorem own_num {w : World} {base e s n m : Nat} {v : Value} {xs : List Value} (h : w.ownsRow base e s v n xs) (hn : n = m) : w.ownsRow base e s v m xs := hn ▸ h
theorem ints_last (pre : List Nat) (l : Nat) : (ints (pre ++ [l])).getD pre.length 0 = (l : Int) := by simp [ints, List.getD]
theorem ints_lastlen (pre : List Nat) (l : Nat) : (ints (pre ++ [l])).length = pre.length + 1 := by rw [ints_len, List.length_append]; rfl
theorem find_mem {α : Type} (ps : List α) (z : α) (k : Nat) (h : k < ps.length) : ps.getD k z ∈ ps := by
  rw [List.getD_eq_getElem?_getD, List.getElem?_eq_getElem h]
  exact List.getElem_mem h
/-- A walk that a function hands back, with a flag. -/
def Walked2 (w : World) (r : Array Value) (R : List Nat × (Int × Int) × Bool) (e : Ending) (w' : World) : Prop :=
  ∃ pv u v, e = .returned (.tuple #[.agg (wkA r pv u v R.2.2), .bool true]) ∧ w'.ownsRow w.heap.size 3 1 pv R.1.length ((ints R.1).map (Value.int .i64)) ∧ inner (u, v) = R.2.1 ∧ Below w.heap.size w w'
/-- Whether the walk from a door of the border ends inside. -/
def ffG (M : Nat) (cp : Nat → List (Int × Int)) (d : Int × Int → Bool) (p : Int × Int) : Bool := (gFrom M cp d (-1) p).2.2
end Go.Proofs.Ytgbfpmfennmebaa
