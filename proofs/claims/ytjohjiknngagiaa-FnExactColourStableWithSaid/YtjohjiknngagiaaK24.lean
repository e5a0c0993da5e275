import Derived.Test.YtjohjiknngagiaaK23
import Derived.Test.YtjohjiknngagiaaK22
namespace Go.Proofs.Ytjohjiknngagiaa
open Go.RowKit
set_option maxRecDepth 4000
theorem prV_ext (l : List Nat) (cs cs' : List Int) : ∀ k, (∀ j, j < k → cs.getD j 0 = cs'.getD j 0) → prV l cs k = prV l cs' k
  | 0, _ => rfl
  | k + 1, h => by
    simp only [prV]
    rw [prV_ext l cs cs' k (fun j hj => h j (by omega)), h k (by omega)]
theorem getD_app (list : List Nat) (x j : Nat) (hj : j < list.length) : (toI (list ++ [x])).getD j 0 = (toI list).getD j 0 := by
  rw [toI_at, toI_at]
  simp [List.getD_eq_getElem?_getD, List.getElem?_append_left hj]
theorem getD_last (list : List Nat) (x : Nat) : (toI (list ++ [x])).getD list.length 0 = (x : Int) := by
  rw [toI_at]
  simp [List.getD_eq_getElem?_getD]
theorem prV_snoc (l list : List Nat) (x : Nat) : prV l (toI (list ++ [x])) (list.length + 1) = prV l (toI list) list.length ++ [.int .i64 (l.getD list.length 0 : Nat), .int .i64 (x : Int)] := by
  simp only [prV]
  rw [prV_ext l (toI (list ++ [x])) (toI list) list.length (fun j hj => getD_app list x j hj), getD_last]
theorem own_nt {w : World} {lo n g : Nat} {v : Value} {xs : List Value} {cs : Array Value} {ty : TypeId} {fr : Nat × Nat} (h : w.ownsRow lo 80 2 v n xs) (hg : w.heap[g]? = some (.cells cs ty fr)) (ht : ty ≠ 80) : v.ownBlock ≠ some g := by
  intro e
  rcases h.2 with ⟨rfl, -⟩ | ⟨g', cap, cur, rfl, -, hh, -⟩
  · cases e
  · simp only [Value.ownBlock, Option.some.injEq] at e
    subst e
    rw [hh] at hg
    simp only [Option.some.injEq, Obj.cells.injEq] at hg
    exact ht hg.2.1.symm
theorem own_blk {w w' : World} {lo n : Nat} {v : Value} {xs : List Value} (h : w.ownsRow lo 80 2 v n xs) (hk : ∀ k, v.ownBlock = some k → w'.heap[k]? = w.heap[k]?) : w'.ownsRow lo 80 2 v n xs := own_keep h hk
theorem grw_below {w w' : World} (h : Below w.heap.size w w') (row : Option Nat) : w.grownBy w' row := ⟨h.os, h.tape, h.output, h.size, fun k hk _ => h.block k hk⟩
theorem grw_trans {a b c : World} {row : Option Nat} (h : a.grownBy b row) (k : b.grownBy c row) : a.grownBy c row :=
  ⟨k.os.trans h.os, k.tape.trans h.tape, k.output.trans h.output, Nat.le_trans h.size k.size, fun q hq hne => (k.block q (Nat.lt_of_lt_of_le hq h.size) hne).trans (h.block q hq hne)⟩
/-- What a run of the search finds and keeps. -/
structure CFr (w : World) (lo n : Nat) (XS : List Value) (v : Value) (gr : Array Value) (wr : World) : Prop where
  own : wr.ownsRow lo 80 2 v n XS
  g0 : wr.heap[w.heap.size]? = some (.cells gr 48 (0, 0))
  g1 : wr.heap[w.heap.size + 1]? = some (.cells #[v] 66 (0, 0))
  g2 : wr.heap[w.heap.size + 2]? = some (.cells #[.slice none 0 0] 66 (0, 0))
  gk : w.grownBy wr v.ownBlock
  sz : w.heap.size + 3 ≤ wr.heap.size
theorem CFr.keep {w : World} {lo n : Nat} {XS : List Value} {v : Value} {gr : Array Value} {wr w' : World} (h : CFr w lo n XS v gr wr) (hk : wr.grownBy w' v.ownBlock) (ho : w'.ownsRow lo 80 2 v n XS) : CFr w lo n XS v gr w' := by
  have z := h.sz
  refine ⟨ho, ?_, ?_, ?_, grw_trans h.gk hk, Nat.le_trans z hk.size⟩
  · exact (hk.block _ (by omega) (fun e => own_nt h.own h.g0 (by decide) e.symm)).trans h.g0
  · exact (hk.block _ (by omega) (fun e => own_nt h.own h.g1 (by decide) e.symm)).trans h.g1
  · exact (hk.block _ (by omega) (fun e => own_nt h.own h.g2 (by decide) e.symm)).trans h.g2
theorem CFr.below {w : World} {lo n : Nat} {XS : List Value} {v : Value} {gr : Array Value} {wr w' : World} (h : CFr w lo n XS v gr wr) (hb : Below wr.heap.size wr w') : CFr w lo n XS v gr w' :=
  h.keep (grw_below hb _) (own_now h.own hb)
theorem CFr.put {w : World} {lo n : Nat} {XS : List Value} {v : Value} {gr : Array Value} {wr w' : World} {g : Nat} {cs : Array Value} (h : CFr w lo n XS v gr wr) (hg : w.heap.size + 3 ≤ g) (ht : wr.heap[g]? = some (.cells cs 66 (0, 0)))
    (hs : w'.os = wr.os ∧ w'.tape = wr.tape ∧ w'.output = wr.output) (hz : w'.heap.size = wr.heap.size) (hk : ∀ k, k ≠ g → w'.heap[k]? = wr.heap[k]?) : CFr w lo n XS v gr w' := by
  have z := h.sz
  refine ⟨own_blk h.own (fun k hk' => hk k (fun e => own_nt h.own ht (by decide) (by rw [hk', e]))), (hk _ (by omega)).trans h.g0, (hk _ (by omega)).trans h.g1, (hk _ (by omega)).trans h.g2, ?_, by omega⟩
  exact ⟨hs.1.trans h.gk.os, hs.2.1.trans h.gk.tape, hs.2.2.trans h.gk.output, by rw [hz]; exact h.gk.size, fun q hq hne => (hk q (by have := h.gk.size; omega)).trans (h.gk.block q hq hne)⟩
def COut (w : World) (lo : Nat) (l list : List Nat) (v : Value) (r : Option (List Nat)) (e : Ending) (w' : World) : Prop :=
  w.grownBy w' v.ownBlock ∧ match r with
    | none => e = .returned (.tuple #[.agg #[.slice none 0 0], .bool false]) ∧ w'.ownsRow lo 80 2 v list.length (prV l (toI list) list.length)
    | some o => ∃ v', e = .returned (.tuple #[.agg #[v'], .bool true]) ∧ w'.ownsRow lo 80 2 v' o.length (prV l (toI o) o.length)
theorem run_alloc_col (w : World) : (Instr.alloc 66 true (.tuple #[])).run Try.prog w = .ok (.pointer (some ⟨w.heap.size, 0, none⟩)) (w.alloc (.cells #[.slice none 0 0] 66)) := by kernel_rfl
theorem mt_append_ck {ops : Array Oper} {S : World → Prop} {Q : Exit → Act → World → Prop} {t : MT} {a : Act} (ii : Nat) (o : Oper) (hoi : ops[ii]? = some o) (lo gE n : Nat) (wA : World) (v : Value) (xs : List Value) (x y : Int)
    (hgd : o.guard = none) (s u : Operand) (hop : o.op = .call { callee := .builtin .append, args := #[s, u], argTypes := #[64, 64] }) (d : Option Tmp) (hd : o.dst = d)
    (hs : a.eval s = v) (hx : a.eval u = .slice (some ⟨gE, 0, none⟩) 1 1) (hE : wA.heap[gE]? = some (.cells #[.int .i64 x, .int .i64 y] 80 (0, 0)))
    (hown : wA.ownsRow lo 80 2 v n xs) (hlo : lo ≤ wA.heap.size) (hn : n ≤ 1000)
    (h : ∀ v' w', w'.ownsRow lo 80 2 v' (n + 1) (xs ++ [.int .i64 x, .int .i64 y]) → wA.grownBy w' v.ownBlock → (v'.ownBlock = v.ownBlock ∨ v'.ownBlock = some wA.heap.size) →
      (∀ w6 : World, w6.ownsRow lo 80 2 v' (n + 1) (xs ++ [.int .i64 x, .int .i64 y]) → (∀ q, q < wA.heap.size → some q ≠ v'.ownBlock → w6.heap[q]? = w'.heap[q]?) → w6.ownsRow lo 80 2 v n xs) → S w' ∧ wpMT Try.prog ops S Q t (a.put d v') w') :
    wpMT Try.prog ops S Q (.sole ii t) a wA := by
  subst hd
  refine mt_sole ii o hoi (fun K' hK => ?_)
  rw [if_pos (by simp [Region.wanted, hgd])]
  obtain ⟨v', w', hr, ho', hg', hb', hback⟩ := run_append_ck lo o.type wA v n xs hown ⟨gE, 0, none⟩ 1 x y (by rw [Addr.add_lit]; exact blk_cell hE 0 _ rfl) (by rw [Addr.add_lit]; exact blk_cell hE 1 _ rfl) hlo hn
  unfold Oper.wp execOp
  simp only [hop, resolve, invoke, builtin, Sem.run_bind, Sem.run_pure, Result.andThen_ok, List.map_toArray, List.map_cons, List.map_nil, hs, hx, hr]
  exact hK _ _ (h v' w' ho' hg' hb' hback)
theorem anyB_fit (l list : List Nat) (x : Nat) : anyB (fun j => decide (l.getD list.length 0 &&& l.getD j 0 = 0) && ((x : Int) == (toI list).getD j 0)) list.length = !fitB (apS l) list x := by
  simp only [anyB, fitB]
  rw [← List.not_any_eq_all_not]
  simp only [Bool.not_not]
  refine List.any_congr rfl (fun j => ?_)
  rw [toI_at, Bool.and_comm]
  have h1 : ((x : Int) == ((list.getD j 0 : Nat) : Int)) = (list.getD j 0 == x) := by rw [Bool.eq_iff_iff]; simp; omega
  have h2 : decide (l.getD list.length 0 &&& l.getD j 0 = 0) = apS l j list.length := by unfold apS; rw [Nat.and_comm]
  rw [h1, h2]
theorem CFr.set2 {w : World} {lo n : Nat} {XS : List Value} {v : Value} {gr : Array Value} {wr : World} (h : CFr w lo n XS v gr wr) (u : Value) :
    (wr.setCell ⟨w.heap.size + 2, 0, none⟩ u).ownsRow lo 80 2 v n XS ∧ (wr.setCell ⟨w.heap.size + 2, 0, none⟩ u).heap[w.heap.size + 2]? = some (.cells #[u] 66 (0, 0)) ∧ w.grownBy (wr.setCell ⟨w.heap.size + 2, 0, none⟩ u) v.ownBlock := by
  have z := h.sz
  refine ⟨own_blk h.own (fun k hk => Below.heap_setCell _ _ _ k (fun e => own_nt h.own h.g2 (by decide) (by rw [hk, e]))), hp_put h.g2 u, ?_⟩
  exact ⟨h.gk.os, h.gk.tape, h.gk.output, by rw [hp_size]; exact h.gk.size, fun q hq hne => (Below.heap_setCell _ _ _ q (by show q ≠ w.heap.size + 2; omega)).trans (h.gk.block q hq hne)⟩
theorem own_set {w : World} {lo n g : Nat} {v : Value} {xs : List Value} {cs : Array Value} {u : Value} (h : w.ownsRow lo 80 2 v n xs) (hg : w.heap[g]? = some (.cells cs 66 (0, 0))) : (w.setCell ⟨g, 0, none⟩ u).ownsRow lo 80 2 v n xs :=
  own_blk h (fun k hk => Below.heap_setCell _ _ _ k (fun e => own_nt h hg (by decide) (by rw [hk, e])))
theorem CFr.keep2 {w : World} {lo n : Nat} {XS : List Value} {v : Value} {gr : Array Value} {wr w' : World} {row : Option Nat} (h : CFr w lo n XS v gr wr) (hk : wr.grownBy w' row) (hv : ∀ k, v.ownBlock = some k → k < w.heap.size) (hrow : row = v.ownBlock ∨ ∃ k, row = some k ∧ w.heap.size + 3 ≤ k) (ho : w'.ownsRow lo 80 2 v n XS) : CFr w lo n XS v gr w' := by
  have z := h.sz
  have hne : ∀ q, q < w.heap.size + 3 → some q ≠ v.ownBlock → some q ≠ row := fun q hq hqv e => by
    rcases hrow with h1 | ⟨k, h1, h2⟩
    · exact hqv (e.trans h1)
    · rw [h1] at e
      simp only [Option.some.injEq] at e
      omega
  have hbx : ∀ q, w.heap.size ≤ q → some q ≠ v.ownBlock := fun q hq e => by have := hv q e.symm; omega
  refine ⟨ho, ?_, ?_, ?_, ?_, Nat.le_trans z hk.size⟩
  · exact (hk.block _ (by omega) (hne _ (by omega) (hbx _ (by omega)))).trans h.g0
  · exact (hk.block _ (by omega) (hne _ (by omega) (hbx _ (by omega)))).trans h.g1
  · exact (hk.block _ (by omega) (hne _ (by omega) (hbx _ (by omega)))).trans h.g2
  · exact ⟨hk.os.trans h.gk.os, hk.tape.trans h.gk.tape, hk.output.trans h.gk.output, Nat.le_trans h.gk.size hk.size, fun q hq hq2 => (hk.block q (by omega) (hne q (by omega) hq2)).trans (h.gk.block q hq hq2)⟩
theorem blk_load9 {ty : TypeId} {n : Nat} (bk : Blk ty n) (w : World) (g : Nat) (cs : Array Value) (hg : w.heap[g]? = some (.cells cs ty (0, 0))) (hc : cs.size = n) : (loadVar ty ⟨g, 0, none⟩).run Try.prog w = .ok (.agg cs) w := by
  rcases bk.und with ⟨_, hu⟩ | ⟨_, _, hu⟩ <;> exact run_loadVar_row (P := Try.prog) w g ty ty cs (0, 0) _ hg hu rfl (by rw [bk.size, hc])
theorem blkCS : Blk 80 2 := ⟨by first | exact .inl ⟨_, Try.underlying80⟩ | exact .inr ⟨_, _, Try.underlying80⟩, by kernel_rfl⟩
end Go.Proofs.Ytjohjiknngagiaa
