import Derived.Test.YtianmmjjcegkjaaDoorZa
import Derived.Test.YtianmmjjcegkjaaDoorZc
namespace Go.Proofs.YtianmmjjcegkjaaDoor
open Go.RowKit
set_option maxRecDepth 4000
section
variable {P : Program} {ops : Array Oper} {S : World → Prop} {Q : Exit → Act → World → Prop}
theorem mix_store_cell {sole rest : List Nat} {a : Act} {w : World} (i : Nat) (o : Oper) (hi : sole.contains i = true) (ho : ops[i]? = some o) (hgd : o.guard = none) (ty : TypeId) (x y : Operand) (hop : o.op = .store ty x y) (d : Option Tmp) (hd : o.dst = d) (hsz : (P.info? ty).map (·.size) = some 1)
    (g k : Nat) (v : Int) (hx : a.eval x = .pointer (some ⟨g, k, none⟩)) (hy : a.eval y = .int .i64 v) (old : Array Value) (t : TypeId) (hg : w.heap[g]? = some (.cells old t (0, 0))) (hfit : k < old.size)
    (h : S (w.setCell ⟨g, k, none⟩ (.int .i64 v)) ∧ wpMix P ops S Q sole rest (a.put d undef) (w.setCell ⟨g, k, none⟩ (.int .i64 v))) : wpMix P ops S Q sole (i :: rest) a w := by
  subst hd
  refine mix_sole i o hi ho (fun K' hK => ?_)
  rw [if_pos (by simp [Region.wanted, hgd])]
  have hst := run_storeCells_at (P := P) g k t [Value.int .i64 v] 0 old w hg (by simp; omega) (by simp [Value.oneCell'])
  rw [Nat.add_zero] at hst
  simp only [List.length_cons, List.length_nil, Nat.zero_add] at hst
  have hnew : (old.toList.take k ++ [Value.int .i64 v] ++ old.toList.drop (k + 1)).toArray = old.setIfInBounds k (Value.int .i64 v) := by
    apply Array.ext'
    rw [Array.toList_setIfInBounds, List.set_eq_take_append_cons_drop, if_pos (by simpa using hfit)]
    simp
  rw [hnew, ← setCell_eq_setRow w g k old t (0, 0) (Value.int .i64 v) hg] at hst
  have hrun : (storeVar ty ⟨g, k, none⟩ (.int .i64 v)).run P w = .ok () (w.setCell ⟨g, k, none⟩ (.int .i64 v)) := by
    cases hq : P.info? ty with
    | none => simp [hq] at hsz
    | some i =>
      have hs : i.size = 1 := by simpa [hq] using hsz
      simp [storeVar, sizeOf, typeInfo, hq, hs, Value.cells, hst]
  unfold Oper.wp execOp
  simp only [hop, hx, hy, Instr.storeAt, Instr.sureAddr, Sem.run_bind, Sem.run_pure, Result.andThen_ok, hrun]
  exact hK _ _ h
end
theorem own_obj {w : World} {base n g cap : Nat} {et : TypeId} {L : List Value} (h : w.ownsRow base et 1 (.slice (some ⟨g, 0, none⟩) n cap) n L) : ∃ cur : Array Value, w.heap[g]? = some (.cells cur et (0, 0)) ∧ n ≤ cur.size ∧ base ≤ g := by
  rcases h.2 with ⟨e, _⟩ | ⟨g', cap', cur, e, hb, hh, hc, hm, hs, ht⟩
  · cases e
  · injection e with e1 _ e3
    injection e1 with e1
    injection e1 with e1
    subst e1 e3
    exact ⟨cur, hh, by omega, hb⟩
theorem szInt : (Tryd.prog.info? 3).map (·.size) = some 1 := by kernel_rfl
end Go.Proofs.YtianmmjjcegkjaaDoor
