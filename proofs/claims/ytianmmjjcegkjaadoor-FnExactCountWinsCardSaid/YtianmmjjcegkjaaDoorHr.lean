import Derived.Test.YtianmmjjcegkjaaDoorHq
import Derived.Test.YtianmmjjcegkjaaDoorZa
namespace Go.Proofs.YtianmmjjcegkjaaDoor
open Go.RowKit
set_option maxRecDepth 4000
theorem boolInf2 : (Tryd.prog.info? 4).map (fun i => (i.zero, i.size, i.bytes)) = some (some (.bool false), 1, 1) := by kernel_rfl
theorem made_bools (n : Nat) : (madeCells (Value.bool false).cells (n * 1)).toList = (seenA (fun _ => false) n).toList := by
  rw [Nat.mul_one]
  refine (toList_madeCells_one _ _).trans ?_
  apply List.ext_getElem?
  intro i
  by_cases h : i < n <;> simp [seenA, h]
theorem full_obj2 {w : World} {base n g : Nat} {e : TypeId} {cs : Array Value} (_hn : cs.size = n) (h : w.ownsRow base e 1 (.slice (some ⟨g, 0, none⟩) n n) n cs.toList) : w.heap[g]? = some (.cells cs e (0, 0)) := by
  rcases h.2 with ⟨e, _⟩ | ⟨g', cap', cur, e, hb, hh, hc, hm, hs, ht⟩
  · cases e
  · simp only [Value.slice.injEq, Option.some.injEq, Addr.mk.injEq, true_and, and_true] at e
    obtain ⟨rfl, rfl⟩ := e
    have e2 : cur = cs := by
      apply Array.ext'
      rw [← ht, Nat.mul_one, List.take_of_length_le (by rw [Array.length_toList]; omega)]
    rw [hh, e2]
section
variable {ops : Array Oper} {S : World → Prop} {Q : Exit → Act → World → Prop}
theorem mix_make_bool {sole rest : List Nat} {a : Act} {w : World} (i : Nat) (o : Oper) (hi : sole.contains i = true) (ho : ops[i]? = some o) (hgd : o.guard = none) (x : Operand) (hop : o.op = .makeSlice 48 x x) (d : Option Tmp) (hd : o.dst = d)
    (n : Nat) (hx : a.eval x = .int .i64 n) (hn : n ≤ 1000) (h : ∀ w', w'.heap[w.heap.size]? = some (.cells (seenA (fun _ => false) n) 4 (0, 0)) → Below w.heap.size w w' → S w' ∧ wpMix Tryd.prog ops S Q sole rest (a.put d (.slice (some ⟨w.heap.size, 0, none⟩) n n)) w') : wpMix Tryd.prog ops S Q sole (i :: rest) a w := by
  subst hd
  refine mix_sole i o hi ho (fun K' hK => ?_)
  rw [if_pos (by simp [Region.wanted, hgd])]
  obtain ⟨i0, hi0, hz0, hz1, hz2⟩ := info_parts boolInf2
  obtain ⟨w', hrun, r1, r2⟩ := run_make_full (P := Tryd.prog) w w.heap.size 48 4 i0 (.bool false) 1 Tryd.underlying48 hi0 hz0 hz1 .i64 .i64 n (by rw [hz2]; omega) (by unfold maxLen; omega) (Nat.le_refl _)
  rw [made_bools] at r1
  unfold Oper.wp
  simp [execOp, hop, hx, hrun, Result.andThen]
  exact hK _ _ (h w' (full_obj2 (seenA_size _ _) r1) ((Below.refl _ _).grown r2 (Nat.le_refl _) (fun k hk => by cases hk)))
theorem mix_box {sole rest : List Nat} {a : Act} {w : World} (i : Nat) (o : Oper) (hi : sole.contains i = true) (ho : ops[i]? = some o) (hgd : o.guard = none) (ty : TypeId) (x : Operand) (hop : o.op = .box ty x) (d : Option Tmp) (hd : o.dst = d)
    (cs : Array Value) (hx : a.eval x = .agg cs) (h : S (w.alloc (.cells cs ty)) ∧ wpMix Tryd.prog ops S Q sole rest (a.put d (.pointer (some ⟨w.heap.size, 0, none⟩))) (w.alloc (.cells cs ty))) : wpMix Tryd.prog ops S Q sole (i :: rest) a w := by
  subst hd
  refine mix_sole i o hi ho (fun K' hK => ?_)
  rw [if_pos (by simp [Region.wanted, hgd])]
  unfold Oper.wp
  have hb : (Instr.box ty (.agg cs)).run Tryd.prog w = .ok (.pointer (some ⟨w.heap.size, 0, none⟩)) (w.alloc (.cells cs ty)) := by rfl
  simp [execOp, hop, hx, hb, Result.andThen]
  exact hK _ _ h
end
theorem beg_mu (G : Net) : ∀ i, i ≤ G.s → G.mu (G.beg i) ≤ 3 * G.s
  | 0, _ => by
    simp only [Net.beg, Net.mu, List.length_nil]
    omega
  | i + 1, h => by
    have ih := beg_mu G i (by omega)
    rw [Net.beg]
    split
    · exact Nat.le_trans (Net.come_mu _ i (by omega)) ih
    · exact ih
theorem mu_len {G : Net} {σ : Net.Sp} {b : Nat} (h : G.mu σ ≤ b) : σ.now.length ≤ b ∧ σ.later.length ≤ b := by
  unfold Net.mu at h
  omega
theorem hNet_s (n m s : Nat) (xs : List Int) (p : Int) : (hNet n m s xs p).s = s := rfl
end Go.Proofs.YtianmmjjcegkjaaDoor
