import Derived.Test.YtjohjiknngagiaaZa
import Derived.Test.YtjohjiknngagiaaZc
namespace Go.Proofs.Ytjohjiknngagiaa
open Go.RowKit
set_option maxRecDepth 4000
section
variable {P : Program} {ops : Array Oper} {S : World → Prop} {Q : Exit → Act → World → Prop}
theorem mix_put_cell {sole rest : List Nat} {a : Act} {w : World} (i : Nat) (o : Oper) (hi : sole.contains i = true) (ho : ops[i]? = some o) (hgd : o.guard = none) (ty : TypeId) (x y : Operand) (hop : o.op = .store ty x y) (d : Option Tmp) (hd : o.dst = d) (hsz : (P.info? ty).map (·.size) = some 1)
    (g k : Nat) (v : Int) (hx : a.eval x = .pointer (some ⟨g, k, none⟩)) (hy : a.eval y = .int .i64 v) (old : Array Value) (t : TypeId) (hg : w.heap[g]? = some (.cells old t (0, 0))) (hfit : k < old.size)
    (h : S (w.setCell ⟨g, k, none⟩ (.int .i64 v)) ∧ wpMix P ops S Q sole rest (a.put d undef) (w.setCell ⟨g, k, none⟩ (.int .i64 v))) : wpMix P ops S Q sole (i :: rest) a w := by
  subst hd
  refine mix_sole i o hi ho (fun K' hK => ?_)
  rw [if_pos (by simp [Region.wanted, hgd])]
  have hst := run_storeCells_at (P := P) g k t [Value.int .i64 v] 0 old w hg (by simp; omega) (by simp [Value.oneCell'])
  rw [Nat.add_zero] at hst
  simp only [List.length_cons, List.length_nil, Nat.zero_add] at hst
  have hnew : (old.toList.take k ++ [Value.int .i64 v] ++ old.toList.drop (k + 1)).toArray = old.setIfInBounds k (Value.int .i64 v) := by
    apply Array.ext'
    rw [Array.toList_setIfInBounds, List.set_eq_take_append_cons_drop, if_pos (by simpa using hfit)]
    simp
  rw [hnew, ← setCell_eq_setRow w g k old t (0, 0) (Value.int .i64 v) hg] at hst
  have hrun : (storeVar ty ⟨g, k, none⟩ (.int .i64 v)).run P w = .ok () (w.setCell ⟨g, k, none⟩ (.int .i64 v)) := by
    cases hq : P.info? ty with
    | none => simp [hq] at hsz
    | some i =>
      have hs : i.size = 1 := by simpa [hq] using hsz
      simp [storeVar, sizeOf, typeInfo, hq, hs, Value.cells, hst]
  unfold Oper.wp execOp
  simp only [hop, hx, hy, Instr.storeAt, Instr.sureAddr, Sem.run_bind, Sem.run_pure, Result.andThen_ok, hrun]
  exact hK _ _ h
end

theorem mix_put_blk {ops : Array Oper} {S : World → Prop} {Q : Exit → Act → World → Prop} {sole rest : List Nat} {a : Act} {w : World} {ty : TypeId} {n : Nat} (bk : Blk ty n) (i : Nat) (o : Oper) (hi : sole.contains i = true) (ho : ops[i]? = some o) (hgd : o.guard = none) (x y : Operand) (hop : o.op = .store ty x y) (d : Option Tmp) (hd : o.dst = d)
    (g : Nat) (cells old : Array Value) (hx : a.eval x = .pointer (some ⟨g, 0, none⟩)) (hy : a.eval y = .agg cells)
    (hg : w.heap[g]? = some (.cells old ty (0, 0))) (hold : old.size = n) (hc : cells.size = n) (h1 : cells.all (·.oneCell') = true) (B : Nat) (hB : B ≤ g)
    (h : ∀ w', w'.heap[g]? = some (.cells cells ty (0, 0)) → Below B w w' → (∀ k, k ≠ g → w'.heap[k]? = w.heap[k]?) → w'.heap.size = w.heap.size → S w' ∧ wpMix Try.prog ops S Q sole rest (a.put d undef) w') : wpMix Try.prog ops S Q sole (i :: rest) a w := by
  subst hd
  refine mix_sole i o hi ho (fun K' hK => ?_)
  rw [if_pos (by simp [Region.wanted, hgd])]
  refine wp_store_row _ x y hop g cells hx hy _ old hg (by rw [bk.size, hc]) (by omega) h1 ?_
  exact hK _ _ (h _ (setRow_heap w g old cells _ _ hg) (below_setRow (Below.refl _ _) hB _) (fun k hk => by
    simp only [World.setRow, Array.getElem?_modify]
    rw [if_neg (fun e => hk e.symm)]) (by simp [World.setRow]))
end Go.Proofs.Ytjohjiknngagiaa
