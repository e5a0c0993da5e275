import Derived.LoopN
import Derived.BigRegion
import Derived.RegionTactic
import Derived.Test.YtelchpdlfedleaaS25
import Derived.Test.YtelchpdlfedleaaS31
namespace Go.Proofs.Ytelchpdlfedleaa
open Go.RowKit
set_option maxRecDepth 4000
/-- The cells with a fixed point among the first m. -/
def ksL (im : List (List Int)) (n m : Nat) : List Nat := (List.range m).filter (agK im n)
theorem ksL_yes (im : List (List Int)) (n k : Nat) (h : agK im n k = true) : ksL im n (k + 1) = ksL im n k ++ [k] := by
  rw [ksL, ksL, List.range_succ, List.filter_append]
  simp [h]
theorem ksL_no (im : List (List Int)) (n k : Nat) (h : agK im n k = false) : ksL im n (k + 1) = ksL im n k := by
  rw [ksL, ksL, List.range_succ, List.filter_append]
  simp [h]
theorem ksL_len (im : List (List Int)) (n m : Nat) : (ksL im n m).length ≤ m := by
  have := List.length_filter_le (agK im n) (List.range m)
  simpa [ksL] using this
theorem ksL_mem (im : List (List Int)) (n m i : Nat) (hi : i < (ksL im n m).length) : (ksL im n m).getD i 0 < m ∧ agK im n ((ksL im n m).getD i 0) = true := by
  have h : (ksL im n m).getD i 0 ∈ ksL im n m := by
    rw [List.getD_eq_getElem?_getD, List.getElem?_eq_getElem hi]
    exact List.getElem_mem hi
  have := List.mem_filter.1 h
  exact ⟨List.mem_range.1 this.1, this.2⟩
/-- A fixed point's five numbers: its cell, its weights, its sign. -/
def fpr (im : List (List Int)) (n k : Nat) : List Int := (k : Int) :: (wtK im n k ++ [sgK im n k])
def wq' (im : List (List Int)) (n k t : Nat) : Int := (wtK im n k).getD t 0
theorem fpr_eq (im : List (List Int)) (n k : Nat) : fpr im n k = [(k : Int), wq' im n k 0, wq' im n k 1, wq' im n k 2, sgK im n k] := rfl
theorem wtA_eq (im : List (List Int)) (n k : Nat) : wtA im n k = spA3 (wq' im n k 0) (wq' im n k 1) (wq' im n k 2) := rfl
theorem fp_at (im : List (List Int)) (n : Nat) : ∀ (ks : List Nat) (i t : Nat), i < ks.length → t < 5 → (ks.flatMap (fpr im n))[i * 5 + t]? = (fpr im n (ks.getD i 0))[t]?
  | [], i, t, h, _ => by simp at h
  | k :: ks, 0, t, _, ht => by
    rw [List.flatMap_cons, Nat.zero_mul, Nat.zero_add, List.getElem?_append_left (by simp [fpr_eq]; omega)]
    rfl
  | k :: ks, i + 1, t, h, ht => by
    rw [List.flatMap_cons, List.getElem?_append_right (by simp [fpr_eq]; omega)]
    have e : (i + 1) * 5 + t - (fpr im n k).length = i * 5 + t := by simp [fpr_eq]; omega
    rw [e, fp_at im n ks i t (by simpa using h) ht]
    rfl
/-- The fixed points as the program lists them. -/
def FpV (im : List (List Int)) (n : Nat) (w : World) (base : Nat) (v : Value) (ks : List Nat) : Prop := w.ownsRow base 81 5 v ks.length ((ks.flatMap (fpr im n)).map (Value.int .i64))
def fp5 (a b c d e : Int) : Array Value := #[.int .i64 a, .int .i64 b, .int .i64 c, .int .i64 d, .int .i64 e]
theorem fpInfo : (Try.prog.info? 81).map (fun i => (i.zero, i.size, i.bytes)) = some (some (.agg (fp5 0 0 0 0 0)), 5, 40) := by kernel_rfl
theorem run_build_fp (a b c d e : Int) (w : World) : (Instr.build 81 #[(0, .int .i64 a), (1, .agg (spA3 b c d)), (2, .int .i64 e)]).run Try.prog w = .ok (.agg (fp5 a b c d e)) w := by kernel_rfl
theorem run_slice_fp (a b c d e : Int) (w : World) : (Instr.buildSlice 78 1 #[(0, .agg (fp5 a b c d e))]).run Try.prog w = .ok (.slice (some ⟨w.heap.size, 0, none⟩) 1 1) (w.alloc (.cells (fp5 a b c d e) 81)) := by kernel_rfl
section
variable {ops : Array Oper} {S : World → Prop} {Q : Exit → Act → World → Prop}
theorem mix_build_fp {sole rest : List Nat} {a : Act} {w : World} (i : Nat) (o : Oper) (hi : sole.contains i = true) (ho : ops[i]? = some o) (hgd : o.guard = none) (x : Operand) (hop : o.op = .buildSlice 78 1 #[(0, x)]) (d : Option Tmp) (hd : o.dst = d)
    (v0 v1 v2 v3 v4 : Int) (hx : a.eval x = .agg (fp5 v0 v1 v2 v3 v4)) (h : S (w.alloc (.cells (fp5 v0 v1 v2 v3 v4) 81)) ∧ wpMix Try.prog ops S Q sole rest (a.put d (.slice (some ⟨w.heap.size, 0, none⟩) 1 1)) (w.alloc (.cells (fp5 v0 v1 v2 v3 v4) 81))) : wpMix Try.prog ops S Q sole (i :: rest) a w := by
  subst hd
  refine mix_sole i o hi ho (fun K' hK => ?_)
  rw [if_pos (by simp [Region.wanted, hgd])]
  unfold Oper.wp
  simp [execOp, hop, hx, run_slice_fp, Result.andThen]
  exact hK _ _ h
theorem mix_append_fp (im : List (List Int)) (n : Nat) {sole rest : List Nat} {a : Act} {w : World} (i : Nat) (o : Oper) (hi : sole.contains i = true) (ho : ops[i]? = some o) (base g : Nat) (v : Value) (ks : List Nat) (k : Nat)
    (hgd : o.guard = none) (s y : Operand) (hop : o.op = .call { callee := .builtin .append, args := #[s, y], argTypes := #[78, 78] }) (d : Option Tmp) (hd : o.dst = d)
    (hs : a.eval s = v) (hx : a.eval y = .slice (some ⟨g, 0, none⟩) 1 1) (hc : w.heap[g]? = some (.cells (fp5 (k : Nat) (wq' im n k 0) (wq' im n k 1) (wq' im n k 2) (sgK im n k)) 81 (0, 0)))
    (hown : FpV im n w base v ks) (hbase : base ≤ w.heap.size) (hlen : ks.length < 1000000000)
    (h : ∀ v' w', FpV im n w' base v' (ks ++ [k]) → Below base w w' → (∀ q, q < w.heap.size → some q ≠ v.ownBlock → w'.heap[q]? = w.heap[q]?) → S w' ∧ wpMix Try.prog ops S Q sole rest (a.put d v') w') : wpMix Try.prog ops S Q sole (i :: rest) a w := by
  subst hd
  refine mix_sole i o hi ho (fun K' hK => ?_)
  rw [if_pos (by simp [Region.wanted, hgd])]
  obtain ⟨i0, hi, hz0, hz1, hz2⟩ := info_parts fpInfo
  refine wp_append_own _ s y 78 hop base 81 i0 _ 5 40 Try.underlying78 hi hz0 hz1 hz2 rfl (by decide) v ks.length _ hs hown ⟨g, 0, none⟩ 1 1 ((fpr im n k).map (Value.int .i64)) hx rfl ?_ ?_ ?_ ?_ hbase ?_
  · intro j u hj
    have e : (Addr.add ⟨g, 0, none⟩ j : Addr) = ⟨g, j, none⟩ := by rw [Addr.add_lit, Nat.zero_add]
    rw [e, cell_of_row _ _ _ _ _ (0, 0) hc]
    simpa [fpr_eq, fp5] using hj
  · intro u hu
    simp only [fpr_eq, List.map_cons, List.map_nil, List.mem_cons, List.not_mem_nil, or_false] at hu
    rcases hu with rfl | rfl | rfl | rfl | rfl <;> rfl
  · unfold maxLen; omega
  · omega
  · intro v' w1 hown' hgrow _
    refine hK _ _ (h v' w1 ?_ ((Below.refl base w).grown hgrow hbase (fun q hq => (World.ownsRow.lt hown q hq).1)) (fun q hq hne => hgrow.block q hq hne))
    have e : ((ks ++ [k]).flatMap (fpr im n)).map (Value.int .i64) = (ks.flatMap (fpr im n)).map (Value.int .i64) ++ (fpr im n k).map (Value.int .i64) := by simp [List.flatMap_append]
    unfold FpV
    rw [e, List.length_append]
    exact hown'
end
theorem fp_now {im : List (List Int)} {n : Nat} {w w' : World} {base : Nat} {v : Value} {ks : List Nat} (h : FpV im n w base v ks) (hb : Below w.heap.size w w') : FpV im n w' base v ks := own_now h hb
theorem own_nb6 {w : World} {base e size n g : Nat} {v : Value} {xs : List Value} {cs : Array Value} {t : TypeId} (h : w.ownsRow base e size v n xs) (hg : w.heap[g]? = some (.cells cs t (0, 0))) (ht : t ≠ e) : some g ≠ v.ownBlock := by
  intro hk
  rcases h.2 with ⟨rfl, -⟩ | ⟨g', cap, cur, rfl, -, hh, -⟩
  · cases hk
  · have e1 : g = g' := by simpa [Value.ownBlock] using hk
    subst e1
    rw [hh] at hg
    simp at hg
    exact ht hg.2.symm
end Go.Proofs.Ytelchpdlfedleaa
