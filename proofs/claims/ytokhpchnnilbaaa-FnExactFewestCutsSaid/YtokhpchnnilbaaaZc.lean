import Derived.Test.YtokhpchnnilbaaaZa
import Derived.Deep.MidRow
import Derived.Laws.CopyOwn
import Derived.Laws.CopyRow
namespace Go.Proofs.Ytokhpchnnilbaaa
open Go.RowKit
set_option maxRecDepth 4000
/-- Blocks of a type of many cells, read, written and handed back whole. -/
structure Blk (ty : TypeId) (n : Nat) : Prop where
  und : (∃ fs, Try.prog.underlying ty = some (.struct fs)) ∨ ∃ k e, Try.prog.underlying ty = some (.array k e)
  size : (Try.prog.info? ty).map (·.size) = some n
section
variable {ops : Array Oper} {rest : List Oper} {o : Oper} {a : Act} {w : World} {Q : Exit → Act → World → Prop} {ty : TypeId} {n : Nat}
theorem load_blk (bk : Blk ty n) (hw : Region.wanted o (yielded ops a.tmps) = true) (x : Operand) (ho : o.op = .load ty x) (g : Nat) (hx : a.eval x = .pointer (some ⟨g, 0, none⟩)) (cs : Array Value) (hg : w.heap[g]? = some (.cells cs ty (0, 0))) (hc : cs.size = n)
    (h : wpList Try.prog ops Q rest (a.put o.dst (.agg cs)) w) : wpList Try.prog ops Q (o :: rest) a w := by
  exact wpList_step fun K hK => by
    rw [if_pos hw]
    rcases bk.und with ⟨_, hu⟩ | ⟨_, _, hu⟩ <;> exact wp_load_row _ x ho g hx _ cs (0, 0) _ hg hu rfl (by rw [bk.size, hc]) (hK _ _ h)
theorem store_blk (bk : Blk ty n) (hgd : o.guard = none) (x y : Operand) (ho : o.op = .store ty x y) (g : Nat) (cells old : Array Value) (hx : a.eval x = .pointer (some ⟨g, 0, none⟩)) (hy : a.eval y = .agg cells)
    (hg : w.heap[g]? = some (.cells old ty (0, 0))) (hold : old.size = n) (hc : cells.size = n) (h1 : cells.all (·.oneCell') = true) (B : Nat) (hB : B ≤ g)
    (h : ∀ w', w'.heap[g]? = some (.cells cells ty (0, 0)) → Below B w w' → (∀ k, k ≠ g → w'.heap[k]? = w.heap[k]?) → w'.heap.size = w.heap.size → wpList Try.prog ops Q rest (a.put o.dst undef) w') : wpList Try.prog ops Q (o :: rest) a w := by
  refine wpList_store_row hgd _ x y ho g cells hx hy _ old hg (by rw [bk.size, hc]) (by omega) h1 ?_
  exact h _ (setRow_heap w g old cells _ _ hg) (below_setRow (Below.refl _ _) hB _) (fun k hk => by
    simp only [World.setRow, Array.getElem?_modify]
    rw [if_neg (fun e => hk e.symm)]) (by simp [World.setRow])
theorem alloc_blk (cs : Array Value) (hr : ∀ w, (Instr.alloc ty true (.tuple #[])).run Try.prog w = .ok (.pointer (some ⟨w.heap.size, 0, none⟩)) (w.alloc (.cells cs ty))) (hgd : o.guard = none) (ho : o.op = .alloc ty)
    (h : wpList Try.prog ops Q rest (a.put o.dst (.pointer (some ⟨w.heap.size, 0, none⟩))) (w.alloc (.cells cs ty))) : wpList Try.prog ops Q (o :: rest) a w := by
  refine wpList_plain hgd fun K hK => ?_
  unfold Oper.wp
  simp [execOp, ho, hr, Result.andThen]
  exact hK _ _ h
theorem build_blk (cs : Array Value) (l : Array (Nat × Value)) (hr : ∀ w, (Instr.build ty l).run Try.prog w = .ok (.agg cs) w) (hgd : o.guard = none) (ps : Array (Nat × Operand)) (ho : o.op = .build ty ps) (hl : ps.map (fun p => (p.1, a.eval p.2)) = l)
    (h : wpList Try.prog ops Q rest (a.put o.dst (.agg cs)) w) : wpList Try.prog ops Q (o :: rest) a w := by
  refine wpList_plain hgd fun K hK => ?_
  unfold Oper.wp
  simp [execOp, ho, hl, hr, Result.andThen]
  exact hK _ _ h
end
theorem results_blk {ty : TypeId} {n : Nat} (bk : Blk ty n) {fn : Func} {p q : Tmp} (h : fn.results = #[.cell p ty, .tmp q]) (tmps : Array Value) (w : World) (g : Nat) (cs : Array Value) (v : Value)
    (hp : tmps.getD p undef = .pointer (some ⟨g, 0, none⟩)) (hq : tmps.getD q undef = v) (hg : w.heap[g]? = some (.cells cs ty (0, 0))) (hc : cs.size = n) :
    (results fn tmps).run Try.prog w = .ok (.tuple #[.agg cs, v]) w := by
  have hp' : tmps[p]?.getD undef = .pointer (some ⟨g, 0, none⟩) := by simpa using hp
  have hq' : tmps[q]?.getD undef = v := by simpa using hq
  have hload : (loadVar ty ⟨g, 0, none⟩).run Try.prog w = .ok (.agg cs) w := by
    rcases bk.und with ⟨_, hu⟩ | ⟨_, _, hu⟩ <;> exact run_loadVar_row (P := Try.prog) w g ty ty cs (0, 0) _ hg hu rfl (by rw [bk.size, hc])
  simp [results, h, hp', hq', asAddr, hload]
theorem results_blk1 {ty : TypeId} {n : Nat} (bk : Blk ty n) {fn : Func} {p : Tmp} (h : fn.results = #[.cell p ty]) (tmps : Array Value) (w : World) (g : Nat) (cs : Array Value)
    (hp : tmps.getD p undef = .pointer (some ⟨g, 0, none⟩)) (hg : w.heap[g]? = some (.cells cs ty (0, 0))) (hc : cs.size = n) :
    (results fn tmps).run Try.prog w = .ok (.agg cs) w := by
  rcases bk.und with ⟨_, hu⟩ | ⟨_, _, hu⟩ <;> exact results_cell_row h tmps w g ty cs (0, 0) _ hp hg hu rfl (by rw [bk.size, hc])
/-- A block's cells, and that they may be written. -/
theorem blk_cell {w : World} {g : Nat} {ty : TypeId} {cs : Array Value} (hg : w.heap[g]? = some (.cells cs ty (0, 0))) (k : Nat) (v : Value) (hk : cs[k]? = some v) : w.cell? ⟨g, k, none⟩ = some v := (cell_of_row _ _ _ _ _ (0, 0) hg).trans hk
theorem pair_size (a b : Int) : (#[.int .i64 a, .int .i64 b] : Array Value).size = 2 := rfl
theorem pair_one (a b : Int) : (#[.int .i64 a, .int .i64 b] : Array Value).all (·.oneCell') = true := by simp [Value.oneCell']
end Go.Proofs.Ytokhpchnnilbaaa

namespace Go.Proofs.Ytokhpchnnilbaaa
open Go.RowKit
set_option maxRecDepth 4000
section
variable {ops : Array Oper} {rest : List Oper} {o : Oper} {a : Act} {w : World} {Q : Exit → Act → World → Prop} {ty t : TypeId} {n : Nat}
/-- Cells within a block of a longer type, read as one value. -/
theorem load_win (bk : Blk ty n) (hw : Region.wanted o (yielded ops a.tmps) = true) (x : Operand) (ho : o.op = .load ty x) (g off : Nat) (hx : a.eval x = .pointer (some ⟨g, off, none⟩)) (cs v : Array Value) (hg : w.heap[g]? = some (.cells cs t (0, 0)))
    (hv : ∀ j, j < n → cs[off + j]? = v[j]?) (hc : v.size = n) (h : wpList Try.prog ops Q rest (a.put o.dst (.agg v)) w) : wpList Try.prog ops Q (o :: rest) a w := by
  have hr : w.rangeAt g off v.toList := fun j u hj => by
    rw [cell_of_row _ _ _ _ _ (0, 0) hg]
    rw [Array.getElem?_toList] at hj
    rw [hv j (by have := (Array.getElem?_eq_some_iff.1 hj).1; omega)]
    exact hj
  exact wpList_step fun K hK => by
    rw [if_pos hw]
    rcases bk.und with ⟨_, hu⟩ | ⟨_, _, hu⟩ <;> exact wp_load_mid _ x ho g off hx v.toList _ hr hu rfl (by rw [bk.size]; simp [hc]) (hK _ _ (by simpa using h))
/-- What is written within a block, whole. -/
theorem store_win (hsz : (Try.prog.info? ty).map (·.size) = some n) (hgd : o.guard = none) (x y : Operand) (ho : o.op = .store ty x y) (g off : Nat) (v : Value) (old new : Array Value) (hx : a.eval x = .pointer (some ⟨g, off, none⟩)) (hy : a.eval y = v)
    (hg : w.heap[g]? = some (.cells old t (0, 0))) (hc : v.cells.size = n) (hfit : off + n ≤ old.size) (hnew : new = (old.toList.take off ++ v.cells.toList ++ old.toList.drop (off + n)).toArray) (h1 : ∀ u ∈ v.cells.toList, u.oneCell' = true) (B : Nat) (hB : B ≤ g)
    (h : ∀ w', w'.heap[g]? = some (.cells new t (0, 0)) → Below B w w' → (∀ k, k ≠ g → w'.heap[k]? = w.heap[k]?) → w'.heap.size = w.heap.size → wpList Try.prog ops Q rest (a.put o.dst undef) w') : wpList Try.prog ops Q (o :: rest) a w := by
  have hl : v.cells.toList.length = n := by simpa using hc
  have hst := run_storeCells_at (P := Try.prog) g off t v.cells.toList 0 old w hg (by omega) h1
  rw [Nat.add_zero, hl, ← hnew] at hst
  have hrun : (storeVar ty ⟨g, off, none⟩ v).run Try.prog w = .ok () (w.setRow g new) := by
    cases hq : Try.prog.info? ty with
    | none => simp [hq] at hsz
    | some i =>
      have hs : i.size = n := by simpa [hq] using hsz
      simp [storeVar, sizeOf, typeInfo, hq, hs, hc, hst]
  refine wpList_plain hgd fun K hK => ?_
  unfold Oper.wp execOp
  simp only [ho, hx, hy, Instr.storeAt, Instr.sureAddr, Sem.run_bind, Sem.run_pure, Result.andThen_ok, hrun]
  exact hK _ _ (h _ (setRow_heap w g old new _ _ hg) (below_setRow (Below.refl _ _) hB _) (fun k hk => by
    simp only [World.setRow, Array.getElem?_modify]
    rw [if_neg (fun e => hk e.symm)]) (by simp [World.setRow]))
end
end Go.Proofs.Ytokhpchnnilbaaa
