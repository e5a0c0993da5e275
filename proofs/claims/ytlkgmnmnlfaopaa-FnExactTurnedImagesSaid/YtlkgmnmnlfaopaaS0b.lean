import Derived.Test.YtlkgmnmnlfaopaaS0
namespace Go.Proofs.Ytlkgmnmnlfaopaa
open Go.RowKit
set_option maxRecDepth 4000
/-- A point as it lies in memory, and one that is not set. -/
def zspot : Array Value := #[.int .i64 0, .int .i64 0, .int .i64 0]
theorem zspot_size : zspot.size = 3 := rfl
theorem zspot_one : zspot.all (·.oneCell') = true := by simp [zspot, Value.oneCell']
def spA3 (x y z : Int) : Array Value := #[.int .i64 x, .int .i64 y, .int .i64 z]
theorem spA3_size (x y z : Int) : (spA3 x y z).size = 3 := rfl
theorem spA3_one (x y z : Int) : (spA3 x y z).all (·.oneCell') = true := by simp [spA3, Value.oneCell']
theorem blkSp : Blk 79 3 := ⟨.inr ⟨_, _, Try.underlying79⟩, by kernel_rfl⟩
theorem run_alloc_sp (w : World) : (Instr.alloc 79 true (.tuple #[])).run Try.prog w = .ok (.pointer (some ⟨w.heap.size, 0, none⟩)) (w.alloc (.cells zspot 79)) := by kernel_rfl
theorem run_build0_sp (w : World) : (Instr.build 79 #[]).run Try.prog w = .ok (.agg zspot) w := by kernel_rfl
section
variable {ops : Array Oper} {rest : List Oper} {o : Oper} {a : Act} {w : World} {Q : Exit → Act → World → Prop}
theorem build0_blk {ty : TypeId} (cs : Array Value) (hr : ∀ w, (Instr.build ty #[]).run Try.prog w = .ok (.agg cs) w) (hgd : o.guard = none) (ho : o.op = .build ty #[])
    (h : wpList Try.prog ops Q rest (a.put o.dst (.agg cs)) w) : wpList Try.prog ops Q (o :: rest) a w := by
  refine wpList_plain hgd fun K hK => ?_
  unfold Oper.wp
  simp [execOp, ho, hr, Result.andThen]
  exact hK _ _ h
end
theorem blk_load {ty : TypeId} {n : Nat} (bk : Blk ty n) (w : World) (g : Nat) (cs : Array Value) (hg : w.heap[g]? = some (.cells cs ty (0, 0))) (hc : cs.size = n) : (loadVar ty ⟨g, 0, none⟩).run Try.prog w = .ok (.agg cs) w := by
  rcases bk.und with ⟨_, hu⟩ | ⟨_, _, hu⟩ <;> exact run_loadVar_row (P := Try.prog) w g ty ty cs (0, 0) _ hg hu rfl (by rw [bk.size, hc])
theorem results_blk2 {ty ty' : TypeId} {n n' : Nat} (bk : Blk ty n) (bk' : Blk ty' n') {fn : Func} {p p' q : Tmp} (h : fn.results = #[.cell p ty, .cell p' ty', .tmp q]) (tmps : Array Value) (w : World) (g g' : Nat) (cs cs' : Array Value) (v : Value)
    (hp : tmps.getD p undef = .pointer (some ⟨g, 0, none⟩)) (hp' : tmps.getD p' undef = .pointer (some ⟨g', 0, none⟩)) (hq : tmps.getD q undef = v) (hg : w.heap[g]? = some (.cells cs ty (0, 0))) (hg' : w.heap[g']? = some (.cells cs' ty' (0, 0))) (hc : cs.size = n) (hc' : cs'.size = n') :
    (results fn tmps).run Try.prog w = .ok (.tuple #[.agg cs, .agg cs', v]) w := by
  have hp1 : tmps[p]?.getD undef = .pointer (some ⟨g, 0, none⟩) := by simpa using hp
  have hp2 : tmps[p']?.getD undef = .pointer (some ⟨g', 0, none⟩) := by simpa using hp'
  have hq' : tmps[q]?.getD undef = v := by simpa using hq
  have hload : ∀ {ty : TypeId} {n : Nat} (bk : Blk ty n) (g : Nat) (cs : Array Value) (hg : w.heap[g]? = some (.cells cs ty (0, 0))) (hc : cs.size = n), (loadVar ty ⟨g, 0, none⟩).run Try.prog w = .ok (.agg cs) w := by
    intro ty n bk g cs hg hc
    rcases bk.und with ⟨_, hu⟩ | ⟨_, _, hu⟩ <;> exact run_loadVar_row (P := Try.prog) w g ty ty cs (0, 0) _ hg hu rfl (by rw [bk.size, hc])
  simp [results, h, hp1, hp2, hq', asAddr, hload bk g cs hg hc, hload bk' g' cs' hg' hc']
end Go.Proofs.Ytlkgmnmnlfaopaa
