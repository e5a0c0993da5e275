import Derived.Test.YtelchpdlfedleaaR3
import Derived.Test.YtelchpdlfedleaaFc
namespace Go.Proofs.Ytelchpdlfedleaa
open Go.RowKit
set_option maxRecDepth 4000
theorem wp_val {ops : Array Oper} {rest : List Oper} {o : Oper} {a : Act} {w : World} {Q : Exit → Act → World → Prop} (hw : Region.wanted o (yielded ops a.tmps) = true) (v : Value) (hr : (execOp a.eval o).run Try.prog w = .ok (.value v) w)
    (h : wpList Try.prog ops Q rest (a.put o.dst v) w) : wpList Try.prog ops Q (o :: rest) a w :=
  wpList_step fun K hK => by
    rw [if_pos hw]
    unfold Oper.wp
    rw [hr]
    exact hK _ _ h
theorem doorsT_any (n : Nat) (xs : List Int) (base g : Nat) (r : Array Value) (k : Nat) (w : World) (hL : labB n xs = true) (hr : RmW 126 #[] (capD g) (drB xs) (ci n) (bps n (3 * n)) base r w) (hk : k < (ci n).length) :
    Calls Try.prog 147 #[.agg r, .int .i64 k] w fun e w' => ∃ v, e = .returned v ∧ PairV w' w.heap.size v (dcell xs n k) ∧ Below w.heap.size w w' := by
  have e := doorsOf_any _ #[] (capD g) (drB xs) (ci n) (bps n (3 * n)) (Pr.cnt n) base r k w (fgr_ci hL) hr hk
  rwa [gd_ci xs (labB_yes hL).2.1 hk] at e
theorem dcell_len (xs : List Int) (n k : Nat) : (dcell xs n k).length ≤ 3 := Nat.le_trans (List.length_filter_le _ _) (by simp [cpairs])
end Go.Proofs.Ytelchpdlfedleaa
