import Derived.Test.YtjbdhgomcchoaaaRm
import Derived.Test.YtjbdhgomcchoaaaQm
import Derived.Test.YtjbdhgomcchoaaaCl
namespace Go.Proofs.Ytjbdhgomcchoaaa
open Go.RowKit
/-- The function that is asked for doors: it reads the labels in the block g. -/
def doorF (g : Nat) : Value := .func (.func 88) #[] #[.pointer (some ⟨g, 0, none⟩)]
/-- Rooms as they are in a world: labels, cells of the call's own, and the function with its block. -/
def RoomsV (w : World) (base n : Nat) (xs : List Int) (r : Array Value) : Prop :=
  ∃ g ca cc, r = rmA (labL n xs).toArray (.slice ca (ci n).length cc) (doorF g) ∧ TrioV w base (.slice ca (ci n).length cc) (ci n) ∧ w.heap[g]? = some (.cells (labL n xs).toArray 63 (0, 0)) ∧ base ≤ g ∧ g < w.heap.size
theorem rooms_now {w w' : World} {base n : Nat} {xs : List Int} {r : Array Value} (h : RoomsV w base n xs r) (hb : Below w.heap.size w w') : RoomsV w' base n xs r := by
  obtain ⟨g, ca, cc, h1, h2, h3, h4, h5⟩ := h
  exact ⟨g, ca, cc, h1, trio_now h2 hb, (hb.block g h5).trans h3, h4, Nat.lt_of_lt_of_le h5 hb.size⟩
section
variable {ops : Array Oper} {o : Oper} {a : Act} {w : World} {K : Act → World → Prop} {Q : Exit → Act → World → Prop} {E : Prop}
theorem step_load_lab (hgd : o.guard = none) (x : Operand) (ho : o.op = .load 63 x) (g : Nat) (hx : a.eval x = .pointer (some ⟨g, 0, none⟩)) (cs : Array Value) (hg : w.heap[g]? = some (.cells cs 63 (0, 0))) (hc : cs.size = 46)
    (h : K (a.put o.dst (.agg cs)) w) : if Region.wanted o (yielded ops a.tmps) = true then Oper.wp Try.prog o a w K Q else E := by
  have hw : Region.wanted o (yielded ops a.tmps) = true := by simp [Region.wanted, hgd]
  rw [if_pos hw]
  exact wp_load_row _ x ho g hx _ cs (0, 0) _ hg Try.underlying63 rfl (by rw [labSize, hc]) h
theorem step_build_rm (hgd : o.guard = none) (x y z : Operand) (ho : o.op = .build 66 #[(0, x), (1, y), (2, z)]) (cs : Array Value) (hc : cs.size = 46) (s : Option Addr) (n cap : Nat) (fn : Fn) (first caps : Array Value)
    (hx : a.eval x = .agg cs) (hy : a.eval y = .slice s n cap) (hz : a.eval z = .func fn first caps)
    (h : K (a.put o.dst (.agg (rmA cs (.slice s n cap) (.func fn first caps)))) w) : if Region.wanted o (yielded ops a.tmps) = true then Oper.wp Try.prog o a w K Q else E := by
  have hw : Region.wanted o (yielded ops a.tmps) = true := by simp [Region.wanted, hgd]
  rw [if_pos hw]
  unfold Oper.wp
  have hr := run_build (P := Try.prog) w 66 #[(0, .agg cs), (1, .slice s n cap), (2, .func fn first caps)] _ (built_rm cs hc s n cap fn first caps)
  simp [execOp, ho, hx, hy, hz, hr, Result.andThen]
  exact h
theorem exec_build_rm {o : Oper} {a : Act} {w : World} (x y z : Operand) (ho : o.op = .build 66 #[(0, x), (1, y), (2, z)]) (cs : Array Value) (hc : cs.size = 46) (s : Option Addr) (n cap : Nat) (fn : Fn) (first caps : Array Value)
    (hx : a.eval x = .agg cs) (hy : a.eval y = .slice s n cap) (hz : a.eval z = .func fn first caps) : (execOp a.eval o).run Try.prog w = .ok (.value (.agg (rmA cs (.slice s n cap) (.func fn first caps)))) w := by
  have hr := run_build (P := Try.prog) w 66 #[(0, .agg cs), (1, .slice s n cap), (2, .func fn first caps)] _ (built_rm cs hc s n cap fn first caps)
  simp [execOp, ho, hx, hy, hz, hr, Result.andThen]
theorem step_store_rm (hgd : o.guard = none) (x y : Operand) (ho : o.op = .store 66 x y) (g : Nat) (cells old : Array Value) (hx : a.eval x = .pointer (some ⟨g, 0, none⟩)) (hy : a.eval y = .agg cells)
    (hg : w.heap[g]? = some (.cells old 66 (0, 0))) (hold : old.size = 48) (hc : cells.size = 48) (h1 : cells.all (·.oneCell') = true) (B : Nat) (hB : B ≤ g)
    (h : ∀ w', w'.heap[g]? = some (.cells cells 66 (0, 0)) → Below B w w' → (∀ k, k ≠ g → w'.heap[k]? = w.heap[k]?) → K (a.put o.dst undef) w') : if Region.wanted o (yielded ops a.tmps) = true then Oper.wp Try.prog o a w K Q else E := by
  have hw : Region.wanted o (yielded ops a.tmps) = true := by simp [Region.wanted, hgd]
  rw [if_pos hw]
  refine wp_store_row _ x y ho g cells hx hy _ old hg (by rw [rmSize, hc]) (by omega) h1 ?_
  refine h _ (setRow_heap w g old cells _ _ hg) (below_setRow (Below.refl _ _) hB _) (fun k hk => ?_)
  simp only [World.setRow, Array.getElem?_modify]
  rw [if_neg (fun e => hk e.symm)]
end
theorem mix_store_rm {ops : Array Oper} {S : World → Prop} {Q : Exit → Act → World → Prop} {sole rest : List Nat} {a : Act} {w : World} (i : Nat) (o : Oper) (hi : sole.contains i = true) (ho : ops[i]? = some o) (hgd : o.guard = none) (x y : Operand) (hop : o.op = .store 66 x y) (d : Option Tmp) (hd : o.dst = d)
    (g : Nat) (cells old : Array Value) (hx : a.eval x = .pointer (some ⟨g, 0, none⟩)) (hy : a.eval y = .agg cells)
    (hg : w.heap[g]? = some (.cells old 66 (0, 0))) (hold : old.size = 48) (hc : cells.size = 48) (h1 : cells.all (·.oneCell') = true) (B : Nat) (hB : B ≤ g)
    (h : ∀ w', w'.heap[g]? = some (.cells cells 66 (0, 0)) → Below B w w' → (∀ k, k ≠ g → w'.heap[k]? = w.heap[k]?) → w'.heap.size = w.heap.size → S w' ∧ wpMix Try.prog ops S Q sole rest (a.put d undef) w') : wpMix Try.prog ops S Q sole (i :: rest) a w := by
  subst hd
  refine mix_sole i o hi ho (fun K' hK => ?_)
  rw [if_pos (by simp [Region.wanted, hgd])]
  refine wp_store_row _ x y hop g cells hx hy _ old hg (by rw [rmSize, hc]) (by omega) h1 ?_
  exact hK _ _ (h _ (setRow_heap w g old cells _ _ hg) (below_setRow (Below.refl _ _) hB _) (fun k hk => by
    simp only [World.setRow, Array.getElem?_modify]
    rw [if_neg (fun e => hk e.symm)]) (by simp [World.setRow]))
theorem results_rm {fn : Func} {p q : Tmp} (h : fn.results = #[.cell p 66, .tmp q]) (tmps : Array Value) (w : World) (g : Nat) (cs : Array Value) (v : Value)
    (hp : tmps.getD p undef = .pointer (some ⟨g, 0, none⟩)) (hq : tmps.getD q undef = v) (hg : w.heap[g]? = some (.cells cs 66 (0, 0))) (hc : cs.size = 48) :
    (results fn tmps).run Try.prog w = .ok (.tuple #[.agg cs, v]) w := by
  have hp' : tmps[p]?.getD undef = .pointer (some ⟨g, 0, none⟩) := by simpa using hp
  have hq' : tmps[q]?.getD undef = v := by simpa using hq
  have hload := run_loadVar_row (P := Try.prog) w g 66 66 cs (0, 0) _ hg Try.underlying66 rfl (by rw [rmSize, hc])
  simp [results, h, hp', hq', asAddr, hload]
end Go.Proofs.Ytjbdhgomcchoaaa
