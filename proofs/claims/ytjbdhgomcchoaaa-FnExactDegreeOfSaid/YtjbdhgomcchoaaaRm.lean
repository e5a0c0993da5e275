import Derived.Test.YtjbdhgomcchoaaaLof
import Derived.Test.YtjbdhgomcchoaaaQu
namespace Go.Proofs.Ytjbdhgomcchoaaa
open Go.RowKit
/-- Rooms as the program keeps them: the labels, then the slice of the cells and the function that is asked for doors. -/
def rmA (cs : Array Value) (cv fv : Value) : Array Value := cs ++ #[cv, fv]
def zeroR : Array Value := rmA zeroA (.slice none 0 0) .nilFunc
theorem rmA_size (cs : Array Value) (cv fv : Value) (h : cs.size = 46) : (rmA cs cv fv).size = 48 := by simp [rmA, h]
theorem rmA_one (cs : Array Value) (cv fv : Value) (h : cs.all (·.oneCell') = true) (h1 : cv.oneCell' = true) (h2 : fv.oneCell' = true) : (rmA cs cv fv).all (·.oneCell') = true := by
  rw [rmA, Array.all_append, h]
  simp [h1, h2]
theorem zeroR_size : zeroR.size = 48 := rmA_size _ _ _ zeroA_size
theorem zeroR_one : zeroR.all (·.oneCell') = true := by decide +kernel
theorem rmSize : (Try.prog.info? 66).map (·.size) = some 48 := by kernel_rfl
theorem run_alloc_rm (w : World) : (Instr.alloc 66 true (.tuple #[])).run Try.prog w = .ok (.pointer (some ⟨w.heap.size, 0, none⟩)) (w.alloc (.cells zeroR 66)) := by kernel_rfl
theorem run_build0_rm (w : World) : (Instr.build 66 #[]).run Try.prog w = .ok (.agg zeroR) w := by kernel_rfl
theorem built_rm (cs : Array Value) (hc : cs.size = 46) (a : Option Addr) (n cap : Nat) (fn : Fn) (first caps : Array Value) :
    Try.prog.built 66 [(0, .agg cs), (1, .slice a n cap), (2, .func fn first caps)] = some (rmA cs (.slice a n cap) (.func fn first caps)) := by
  have e : cs = Array.ofFn (fun i : Fin 46 => cs.getD i undef) := by
    apply Array.ext
    · simp [hc]
    · intro i h1 h2; simp [Array.getD, h1]
  have H : ∀ c : Fin 46 → Value, Try.prog.built 66 [(0, .agg (Array.ofFn c)), (1, .slice a n cap), (2, .func fn first caps)] = some (rmA (Array.ofFn c) (.slice a n cap) (.func fn first caps)) := by
    intro c
    kernel_rfl
  rw [e]
  exact H _
section
variable {ops : Array Oper} {rest : List Oper} {o : Oper} {a : Act} {w : World} {Q : Exit → Act → World → Prop}
theorem alloc_rm (hgd : o.guard = none) (ho : o.op = .alloc 66)
    (h : wpList Try.prog ops Q rest (a.put o.dst (.pointer (some ⟨w.heap.size, 0, none⟩))) (w.alloc (.cells zeroR 66))) : wpList Try.prog ops Q (o :: rest) a w := by
  refine wpList_plain hgd fun K hK => ?_
  unfold Oper.wp
  simp [execOp, ho, run_alloc_rm, Result.andThen]
  exact hK _ _ h
theorem build0_rm (hgd : o.guard = none) (ho : o.op = .build 66 #[])
    (h : wpList Try.prog ops Q rest (a.put o.dst (.agg zeroR)) w) : wpList Try.prog ops Q (o :: rest) a w := by
  refine wpList_plain hgd fun K hK => ?_
  unfold Oper.wp
  simp [execOp, ho, run_build0_rm, Result.andThen]
  exact hK _ _ h
theorem store_rm (hgd : o.guard = none) (x y : Operand) (ho : o.op = .store 66 x y) (g : Nat) (cells old : Array Value) (hx : a.eval x = .pointer (some ⟨g, 0, none⟩)) (hy : a.eval y = .agg cells)
    (hg : w.heap[g]? = some (.cells old 66 (0, 0))) (hold : old.size = 48) (hc : cells.size = 48) (h1 : cells.all (·.oneCell') = true) (B : Nat) (hB : B ≤ g)
    (h : ∀ w', w'.heap[g]? = some (.cells cells 66 (0, 0)) → Below B w w' → wpList Try.prog ops Q rest (a.put o.dst undef) w') : wpList Try.prog ops Q (o :: rest) a w := by
  refine wpList_store_row hgd _ x y ho g cells hx hy _ old hg (by rw [rmSize, hc]) (by omega) h1 ?_
  exact h _ (setRow_heap w g old cells _ _ hg) (below_setRow (Below.refl _ _) hB _)
theorem load_rm (hgd : o.guard = none) (x : Operand) (ho : o.op = .load 66 x) (g : Nat) (hx : a.eval x = .pointer (some ⟨g, 0, none⟩)) (cs : Array Value) (hg : w.heap[g]? = some (.cells cs 66 (0, 0))) (hc : cs.size = 48)
    (h : wpList Try.prog ops Q rest (a.put o.dst (.agg cs)) w) : wpList Try.prog ops Q (o :: rest) a w :=
  wpList_load_row hgd _ x ho g hx _ cs (0, 0) _ hg Try.underlying66 rfl (by rw [rmSize, hc]) h
/-- A whole row read, in any world that a region comes to. -/
theorem quiet_row {C : World → Prop} {K : Act → Prop} (ty : TypeId) (x : Operand) (ho : o.op = .load ty x) (g : Nat) (hx : a.eval x = .pointer (some ⟨g, 0, none⟩)) (cs : Array Value)
    (hl : ∀ w, C w → (loadVar ty ⟨g, 0, none⟩).run Try.prog w = .ok (.agg cs) w) (h : K (a.put o.dst (.agg cs))) : o.quiet Try.prog a C K := by
  refine ⟨_, fun w hw => ?_, h⟩
  unfold Oper.quietAt execOp
  simp only [ho, hx, Instr.loadAt, Instr.sureAddr, Sem.run_bind, Sem.run_pure, Result.andThen_ok, hl w hw]
  exact ⟨rfl, rfl⟩
theorem quiet_rm {C : World → Prop} {K : Act → Prop} (x : Operand) (ho : o.op = .load 66 x) (g : Nat) (hx : a.eval x = .pointer (some ⟨g, 0, none⟩)) (cs : Array Value)
    (hg : ∀ w, C w → w.heap[g]? = some (.cells cs 66 (0, 0))) (hc : cs.size = 48) (h : K (a.put o.dst (.agg cs))) : o.quiet Try.prog a C K :=
  quiet_row _ x ho g hx cs (fun w hw => run_loadVar_row w g _ _ cs (0, 0) _ (hg w hw) Try.underlying66 rfl (by rw [rmSize, hc])) h
end
end Go.Proofs.Ytjbdhgomcchoaaa
