import Derived.Test.YtianmmjjcegkjaaDoorZa
namespace Go.Proofs.YtianmmjjcegkjaaDoor
open Go.RowKit
set_option maxRecDepth 4000
section
variable {ops : Array Oper} {S : World → Prop} {Q : Exit → Act → World → Prop}
theorem run_build_int1 (v : Int) (w : World) : (Instr.buildSlice 27 1 #[(0, .int .i64 v)]).run Tryd.prog w = .ok (.slice (some ⟨w.heap.size, 0, none⟩) 1 1) (w.alloc (.cells #[.int .i64 v] 3)) := by kernel_rfl
/-- A slice of one number, the one operation that may come up. -/
theorem mix_build_int {sole rest : List Nat} {a : Act} {w : World} (i : Nat) (o : Oper) (hi : sole.contains i = true) (ho : ops[i]? = some o) (hgd : o.guard = none) (x : Operand) (hop : o.op = .buildSlice 27 1 #[(0, x)]) (d : Option Tmp) (hd : o.dst = d)
    (v : Int) (hx : a.eval x = .int .i64 v) (h : S (w.alloc (.cells #[.int .i64 v] 3)) ∧ wpMix Tryd.prog ops S Q sole rest (a.put d (.slice (some ⟨w.heap.size, 0, none⟩) 1 1)) (w.alloc (.cells #[.int .i64 v] 3))) : wpMix Tryd.prog ops S Q sole (i :: rest) a w := by
  subst hd
  refine mix_sole i o hi ho (fun K' hK => ?_)
  rw [if_pos (by simp [Region.wanted, hgd])]
  unfold Oper.wp
  simp [execOp, hop, hx, run_build_int1, Result.andThen]
  exact hK _ _ h
/-- One number more at the end of a slice of the call's own, the one operation that may come up. -/
theorem mix_append_int {sole rest : List Nat} {a : Act} {w : World} (i : Nat) (o : Oper) (hi : sole.contains i = true) (ho : ops[i]? = some o) (base g : Nat) (v : Value) (xs : List Int) (x : Int)
    (hgd : o.guard = none) (s y : Operand) (hop : o.op = .call { callee := .builtin .append, args := #[s, y], argTypes := #[27, 27] }) (d : Option Tmp) (hd : o.dst = d)
    (hs : a.eval s = v) (hx : a.eval y = .slice (some ⟨g, 0, none⟩) 1 1) (hc : w.cell? ⟨g, 0, none⟩ = some (.int .i64 x))
    (hown : w.ownsRow base 3 1 v xs.length (xs.map (Value.int .i64))) (hbase : base ≤ w.heap.size) (hlen : xs.length < 1000000000000)
    (h : ∀ v' w', w'.ownsRow base 3 1 v' (xs ++ [x]).length ((xs ++ [x]).map (Value.int .i64)) → Below base w w' → (∀ k, k < w.heap.size → some k ≠ v.ownBlock → w'.heap[k]? = w.heap[k]?) → S w' ∧ wpMix Tryd.prog ops S Q sole rest (a.put d v') w') : wpMix Tryd.prog ops S Q sole (i :: rest) a w := by
  subst hd
  refine mix_sole i o hi ho (fun K' hK => ?_)
  rw [if_pos (by simp [Region.wanted, hgd])]
  obtain ⟨i0, hi, hz0, hz1, hz2⟩ := info_parts intInfo
  refine wp_append_own _ s y 27 hop base 3 i0 (.int .i64 0) 1 8 Tryd.underlying27 hi hz0 hz1 hz2 rfl (by decide) v xs.length _ hs hown ⟨g, 0, none⟩ 1 1 [.int .i64 x] hx rfl ?_ ?_ ?_ ?_ hbase ?_
  · intro j u hj
    match j, hj with
    | 0, hj => simp at hj; subst hj; simpa [Addr.add] using hc
  · intro u hu; simp at hu; subst hu; rfl
  · unfold maxLen; omega
  · omega
  · intro v' w1 hown' hgrow _
    exact hK _ _ (h v' w1 (by simpa using hown') ((Below.refl base w).grown hgrow hbase (fun k hk => (hown.lt k hk).1)) (fun k hk hne => hgrow.block k hk hne))
end
end Go.Proofs.YtianmmjjcegkjaaDoor
