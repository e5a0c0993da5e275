import Derived.Test.YtjohjiknngagiaaQw
import Derived.Test.YtjohjiknngagiaaK14
namespace Go.Proofs.Ytjohjiknngagiaa
open Go.RowKit
set_option maxRecDepth 4000
theorem csInfo : (Try.prog.info? 80).map (fun i => (i.zero, i.size, i.bytes)) = some (some (.agg #[.int .i64 0, .int .i64 0]), 2, 16) := by kernel_rfl
theorem szSer : (Try.prog.info? 64).map (·.size) = some 1 := by kernel_rfl
theorem blkCol : Blk 66 1 := ⟨by first | exact .inl ⟨_, Try.underlying66⟩ | exact .inr ⟨_, _, Try.underlying66⟩, by kernel_rfl⟩
theorem run_build_cs (x y : Int) (w : World) : (Instr.buildSlice 64 1 #[(0, .agg #[.int .i64 x, .int .i64 y])]).run Try.prog w = .ok (.slice (some ⟨w.heap.size, 0, none⟩) 1 1) (w.alloc (.cells #[.int .i64 x, .int .i64 y] 80)) := by kernel_rfl
section
variable {ops : Array Oper} {S : World → Prop} {Q : Exit → Act → World → Prop}
theorem mt_read {t : MT} {a : Act} {w : World} (i : Nat) (o : Oper) (v : Value) (ho : ops[i]? = some o) (hw : Region.wanted o (yielded ops a.tmps) = true)
    (d : Option Tmp) (hd : o.dst = d) (hv : (execOp a.eval o).run Try.prog w = .ok (.value v) w) (h : S w ∧ wpMT Try.prog ops S Q t (a.put d v) w) : wpMT Try.prog ops S Q (.sole i t) a w := by
  subst hd
  refine mt_sole i o ho (fun K' hK => ?_)
  rw [if_pos hw]
  unfold Oper.wp
  rw [hv]
  exact hK _ _ h
theorem mt_build_cs {t : MT} {a : Act} {w : World} (i : Nat) (o : Oper) (ho : ops[i]? = some o) (hw : Region.wanted o (yielded ops a.tmps) = true) (p : Operand) (hop : o.op = .buildSlice 64 1 #[(0, p)]) (d : Option Tmp) (hd : o.dst = d)
    (x y : Int) (hx : a.eval p = .agg #[.int .i64 x, .int .i64 y]) (h : S (w.alloc (.cells #[.int .i64 x, .int .i64 y] 80)) ∧ wpMT Try.prog ops S Q t (a.put d (.slice (some ⟨w.heap.size, 0, none⟩) 1 1)) (w.alloc (.cells #[.int .i64 x, .int .i64 y] 80))) : wpMT Try.prog ops S Q (.sole i t) a w := by
  subst hd
  refine mt_sole i o ho (fun K' hK => ?_)
  rw [if_pos hw]
  unfold Oper.wp
  simp [execOp, hop, hx, run_build_cs, Result.andThen]
  exact hK _ _ h
theorem mt_append_cs {t : MT} {a : Act} (ii : Nat) (o : Oper) (hoi : ops[ii]? = some o) (base g n : Nat) (w0 : World) (v : Value) (vs : List Value) (x y : Int)
    (hgd : o.guard = none) (s u : Operand) (hop : o.op = .call { callee := .builtin .append, args := #[s, u], argTypes := #[64, 64] }) (d : Option Tmp) (hd : o.dst = d)
    (hs : a.eval s = v) (hx : a.eval u = .slice (some ⟨g, 0, none⟩) 1 1) (hg : g = w0.heap.size)
    (hown : w0.ownsRow base 80 2 v n vs) (hbase : base ≤ w0.heap.size) (hlen : n < 1000000000)
    (h : ∀ v' w', w'.ownsRow base 80 2 v' (n + 1) (vs ++ [.int .i64 x, .int .i64 y]) → Below base w0 w' → S w' ∧ wpMT Try.prog ops S Q t (a.put d v') w') :
    wpMT Try.prog ops S Q (.sole ii t) a (w0.alloc (.cells #[.int .i64 x, .int .i64 y] 80)) := by
  subst hd hg
  refine mt_sole ii o hoi (fun K' hK => ?_)
  rw [if_pos (by simp [Region.wanted, hgd])]
  obtain ⟨i0, hi, hz0, hz1, hz2⟩ := info_parts csInfo
  refine wp_append_own _ s u 64 hop base 80 i0 (.agg #[.int .i64 0, .int .i64 0]) 2 16 Try.underlying63 hi hz0 hz1 hz2 rfl (by decide) v n _ hs (hown.alloc _) ⟨w0.heap.size, 0, none⟩ 1 1 [.int .i64 x, .int .i64 y] hx rfl ?_ ?_ ?_ ?_ (by simp; omega) ?_
  · intro j u hj
    rw [Addr.add_lit]
    have hn := heap_alloc_new w0 (.cells #[.int .i64 x, .int .i64 y] 80)
    match j, hj with
    | 0, hj => simp at hj; subst hj; exact blk_cell hn 0 _ rfl
    | 1, hj => simp at hj; subst hj; exact blk_cell hn 1 _ rfl
    | j + 2, hj => simp at hj
  · intro u hu
    simp only [List.mem_cons, List.not_mem_nil, or_false] at hu
    rcases hu with rfl | rfl <;> rfl
  · unfold maxLen; omega
  · omega
  · intro v' w1 hown' hgrow _
    exact hK _ _ (h v' w1 (by simpa using hown') (((Below.refl base w0).alloc hbase _).grown hgrow (by simp; omega) (fun k hk => (hown.lt k hk).1)))
theorem mt_put_slice {t : MT} {a : Act} {w : World} (i : Nat) (o : Oper) (ho : ops[i]? = some o) (hgd : o.guard = none) (ty : TypeId) (x y : Operand) (hop : o.op = .store ty x y) (d : Option Tmp) (hd : o.dst = d) (hsz : (Try.prog.info? ty).map (·.size) = some 1)
    (g k : Nat) (p : Option Addr) (n c : Nat) (hx : a.eval x = .pointer (some ⟨g, k, none⟩)) (hy : a.eval y = .slice p n c) (old : Array Value) (tt : TypeId) (hg : w.heap[g]? = some (.cells old tt (0, 0))) (hfit : k < old.size)
    (h : S (w.setCell ⟨g, k, none⟩ (.slice p n c)) ∧ wpMT Try.prog ops S Q t (a.put d undef) (w.setCell ⟨g, k, none⟩ (.slice p n c))) : wpMT Try.prog ops S Q (.sole i t) a w := by
  subst hd
  refine mt_sole i o ho (fun K' hK => ?_)
  rw [if_pos (by simp [Region.wanted, hgd])]
  have hst := run_storeCells_at (P := Try.prog) g k tt [Value.slice p n c] 0 old w hg (by simp; omega) (by simp [Value.oneCell'])
  rw [Nat.add_zero] at hst
  simp only [List.length_cons, List.length_nil, Nat.zero_add] at hst
  have hnew : (old.toList.take k ++ [Value.slice p n c] ++ old.toList.drop (k + 1)).toArray = old.setIfInBounds k (Value.slice p n c) := by
    apply Array.ext'
    rw [Array.toList_setIfInBounds, List.set_eq_take_append_cons_drop, if_pos (by simpa using hfit)]
    simp
  rw [hnew, ← setCell_eq_setRow w g k old tt (0, 0) (Value.slice p n c) hg] at hst
  have hrun : (storeVar ty ⟨g, k, none⟩ (.slice p n c)).run Try.prog w = .ok () (w.setCell ⟨g, k, none⟩ (.slice p n c)) := by
    cases hq : Try.prog.info? ty with
    | none => simp [hq] at hsz
    | some i =>
      have hs : i.size = 1 := by simpa [hq] using hsz
      simp [storeVar, sizeOf, typeInfo, hq, hs, Value.cells, hst]
  unfold Oper.wp execOp
  simp only [hop, hx, hy, Instr.storeAt, Instr.sureAddr, Sem.run_bind, Sem.run_pure, Result.andThen_ok, hrun]
  exact hK _ _ h
end
end Go.Proofs.Ytjohjiknngagiaa
