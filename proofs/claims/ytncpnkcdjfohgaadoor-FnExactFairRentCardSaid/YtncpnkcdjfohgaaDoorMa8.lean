import Derived.Test.YtncpnkcdjfohgaaDoorMa7
import Derived.Test.YtncpnkcdjfohgaaDoorZc
namespace Go.Proofs.YtncpnkcdjfohgaaDoor
open Go.RowKit
set_option maxRecDepth 4000
/-- A cake as it lies in memory: its side, and how much each person likes each slice. -/
def cakeF (n : Nat) (f : Nat → Int) : Array Value := (Value.int .i64 n :: (List.range 24).map fun q => Value.int .i64 (f q)).toArray
def zeroC : Array Value := cakeF 0 fun _ => 0
theorem cakeF_size (n : Nat) (f : Nat → Int) : (cakeF n f).size = 25 := by simp [cakeF]
theorem zeroC_size : zeroC.size = 25 := cakeF_size _ _
theorem cakeF_one (n : Nat) (f : Nat → Int) : (cakeF n f).all (·.oneCell') = true := by
  simp only [cakeF, List.all_toArray, List.all_cons, List.all_map, Bool.and_eq_true, List.all_eq_true]
  exact ⟨rfl, fun _ _ => rfl⟩
theorem zeroC_one : zeroC.all (·.oneCell') = true := cakeF_one _ _
theorem cakeF_at (n : Nat) (f : Nat → Int) (q : Nat) (h : q < 24) : (cakeF n f)[1 + q]? = some (.int .i64 (f q)) := by
  simp only [cakeF, List.getElem?_toArray]
  rw [show 1 + q = q + 1 by omega, List.getElem?_cons_succ, List.getElem?_map, List.getElem?_range h]
  rfl
theorem cakeF_zero (n : Nat) (f : Nat → Int) : (cakeF n f)[0]? = some (.int .i64 n) := by simp [cakeF]
theorem cakeF_congr (n : Nat) {f g : Nat → Int} (h : ∀ q, q < 24 → f q = g q) : cakeF n f = cakeF n g := by
  unfold cakeF
  congr 2
  exact List.map_congr_left fun q hq => by rw [h q (by simpa using hq)]
theorem cakeF_set (n : Nat) (f : Nat → Int) (q : Nat) (x : Int) (h : q < 24) : (cakeF n f).setIfInBounds (1 + q) (.int .i64 x) = cakeF n (fun p => if p = q then x else f p) := by
  apply Array.ext_getElem?
  intro i
  rw [Array.getElem?_setIfInBounds]
  cases i with
  | zero => rw [if_neg (by omega), cakeF_zero, cakeF_zero]
  | succ p =>
    by_cases e : 1 + q = p + 1
    · rw [if_pos e, if_pos (by rw [cakeF_size]; omega)]
      have e2 : p = q := by omega
      subst e2
      rw [show p + 1 = 1 + p by omega, cakeF_at _ _ _ h, if_pos rfl]
    · rw [if_neg e]
      by_cases hp : p < 24
      · rw [show p + 1 = 1 + p by omega, cakeF_at _ _ _ hp, cakeF_at _ _ _ hp, if_neg (by omega)]
      · rw [Array.getElem?_eq_none (by rw [cakeF_size]; omega), Array.getElem?_eq_none (by rw [cakeF_size]; omega)]
theorem blkCake : Blk 55 25 := ⟨.inl ⟨_, Tryd.underlying55⟩, by kernel_rfl⟩
theorem run_alloc_cake (w : World) : (Instr.alloc 55 true (.tuple #[])).run Tryd.prog w = .ok (.pointer (some ⟨w.heap.size, 0, none⟩)) (w.alloc (.cells zeroC 55)) := by kernel_rfl
theorem run_build0_cake (w : World) : (Instr.build 55 #[]).run Tryd.prog w = .ok (.agg zeroC) w := by kernel_rfl
theorem run_buildn_cake (n : Nat) (w : World) : (Instr.build 55 #[(0, .agg #[.int .i64 n])]).run Tryd.prog w = .ok (.agg (cakeF n fun _ => 0)) w := by kernel_rfl
section
variable {ops : Array Oper} {rest : List Oper} {o : Oper} {a : Act} {w : World} {Q : Exit → Act → World → Prop}
theorem build0_cake (hgd : o.guard = none) (ho : o.op = .build 55 #[])
    (h : wpList Tryd.prog ops Q rest (a.put o.dst (.agg zeroC)) w) : wpList Tryd.prog ops Q (o :: rest) a w := by
  refine wpList_plain hgd fun K hK => ?_
  unfold Oper.wp
  simp [execOp, ho, run_build0_cake, Result.andThen]
  exact hK _ _ h
theorem buildn_cake (hgd : o.guard = none) (x : Operand) (n : Nat) (ho : o.op = .build 55 #[(0, x)]) (hx : a.eval x = .agg #[.int .i64 n])
    (h : wpList Tryd.prog ops Q rest (a.put o.dst (.agg (cakeF n fun _ => 0))) w) : wpList Tryd.prog ops Q (o :: rest) a w := by
  refine wpList_plain hgd fun K hK => ?_
  unfold Oper.wp
  simp [execOp, ho, hx, run_buildn_cake, Result.andThen]
  exact hK _ _ h
end
/-- How much somebody likes a slice, by the cell where it lies. -/
def tv (ts : List (List Int)) (q : Nat) : Int := (ts.getD (q % 3) []).getD (q / 3) 0
def cakeA (n : Nat) (ts : List (List Int)) : Array Value := cakeF n (tv ts)
theorem cakeA_size (n : Nat) (ts : List (List Int)) : (cakeA n ts).size = 25 := cakeF_size _ _
theorem cakeA_one (n : Nat) (ts : List (List Int)) : (cakeA n ts).all (·.oneCell') = true := cakeF_one _ _
end Go.Proofs.YtncpnkcdjfohgaaDoor
