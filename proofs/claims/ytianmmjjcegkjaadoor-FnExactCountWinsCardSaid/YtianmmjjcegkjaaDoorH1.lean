import Derived.Test.YtianmmjjcegkjaaDoorJt
import Derived.Test.YtianmmjjcegkjaaDoorJp
import Derived.Test.YtianmmjjcegkjaaDoorHc
import Derived.Test.YtianmmjjcegkjaaDoorZc
namespace Go.Proofs.YtianmmjjcegkjaaDoor
open Go.RowKit
set_option maxRecDepth 4000
/-- A row of numbers as a block holds it. -/
def rowC (L : List Int) : Array Value := (L.map (Value.int .i64)).toArray
theorem rowC_size (L : List Int) : (rowC L).size = L.length := by simp [rowC]
theorem rowC_at {L : List Int} {k : Nat} (h : k < L.length) : (rowC L)[k]? = some (.int .i64 (L.getD k 0)) := by simp [rowC, List.getD, h]
theorem rowC_set (L : List Int) (p : Nat) (x : Int) : (rowC L).setIfInBounds p (.int .i64 x) = rowC (L.set p x) := by simp [rowC, List.map_set]
theorem full_obj {w : World} {base n g : Nat} {e : TypeId} {L : List Int} (h : w.ownsRow base e 1 (.slice (some ⟨g, 0, none⟩) n n) n (L.map (Value.int .i64))) : w.heap[g]? = some (.cells (rowC L) e (0, 0)) ∧ base ≤ g := by
  rcases h.2 with ⟨e, _⟩ | ⟨g', cap', cur, e, hb, hh, hc, hm, hs, ht⟩
  · cases e
  · simp only [Value.slice.injEq, Option.some.injEq, Addr.mk.injEq, true_and, and_true] at e
    obtain ⟨rfl, rfl⟩ := e
    refine ⟨?_, hb⟩
    have e2 : cur = rowC L := by
      apply Array.ext'
      rw [rowC, ← ht, Nat.mul_one, List.take_of_length_le (by rw [Array.length_toList]; omega)]
    rw [hh, e2]
/-- Costs as a row. -/
def frow (F : Nat → Nat) (s : Nat) : List Int := (List.range s).map fun x => (F x : Int)
theorem frow_len (F : Nat → Nat) (s : Nat) : (frow F s).length = s := by simp [frow]
theorem frow_at (F : Nat → Nat) {s k : Nat} (h : k < s) : (frow F s).getD k 0 = F k := by simp [frow, List.getD, h]
theorem frow_set (F : Nat → Nat) (s k v : Nat) : (frow F s).set k (v : Int) = frow (fun x => if x = k then v else F x) s := by
  apply List.ext_getElem?
  intro i
  rw [List.getElem?_set, frow_len]
  by_cases hk : k = i
  · subst hk
    by_cases hs : k < s
    · rw [if_pos rfl, if_pos hs]
      simp [frow, hs]
    · rw [if_pos rfl, if_neg hs, List.getElem?_eq_none (by rw [frow_len]; omega)]
  · rw [if_neg hk]
    simp only [frow, List.getElem?_map]
    by_cases hs : i < s
    · rw [List.getElem?_range hs]
      simp [show i ≠ k from fun e => hk e.symm]
    · rw [List.getElem?_eq_none (by simpa using hs)]; rfl
theorem frow_congr {F G : Nat → Nat} {s : Nat} (h : ∀ x, x < s → F x = G x) : frow F s = frow G s := by
  rw [frow, frow]
  exact List.map_congr_left fun x hx => by rw [h x (List.mem_range.1 hx)]
theorem nat_list (s : Nat) : ∀ (L : List Int), (∀ x ∈ L, 0 ≤ x ∧ x < s) → ((L.map Int.toNat).filter (fun j => decide (j < s))).map (fun (j : Nat) => (j : Int)) = L
  | [], _ => rfl
  | x :: L, h => by
    have hx := h x (List.mem_cons_self ..)
    have ih := nat_list s L (fun y hy => h y (List.mem_cons_of_mem _ hy))
    rw [List.map_cons, List.filter_cons_of_pos (by simp; omega), List.map_cons, ih, Int.toNat_of_nonneg hx.1]
/-- The search of a player over a board. -/
def hNet (n m s : Nat) (xs : List Int) (p : Int) : Net where
  s := s
  nb i := ((hxa n m i).map Int.toNat).filter (fun j => decide (j < s))
  op j := xs.getD j 0 != 3 - p
  own j := xs.getD j 0 != 0
  st i := (p == 1 && decide (i < m)) || (p == 2 && decide (i % m = 0))
  fin i := (p == 1 && decide (s ≤ i + m)) || (p == 2 && decide (i % m + 1 = m))
  hnb := fun i j h => by simpa using (List.mem_filter.1 h).2
theorem hNet_nb {n m s : Nat} (xs : List Int) (p : Int) (h2 : 1 ≤ m) (hnm : n * m = s) (i : Nat) : ((hNet n m s xs p).nb i).map (fun (j : Nat) => (j : Int)) = hxa n m i := by
  refine nat_list s _ fun x hx => ?_
  have e := hxa_bd (by omega) hx
  have hc : ((n * m : Nat) : Int) = (n : Int) * (m : Int) := Int.natCast_mul n m
  rw [hnm] at hc
  omega
section
variable {ops : Array Oper} {rest : List Oper} {o : Oper} {a : Act} {w : World} {Q : Exit → Act → World → Prop}
/-- A number stored into a row. -/
theorem store_int (hgd : o.guard = none) (x y : Operand) (hop : o.op = .store 3 x y) (g k : Nat) (v : Int) (hx : a.eval x = .pointer (some ⟨g, k, none⟩)) (hy : a.eval y = .int .i64 v) (L : List Int)
    (hg : w.heap[g]? = some (.cells (rowC L) 3 (0, 0))) (hk : k < L.length)
    (h : ∀ w', w'.heap[g]? = some (.cells (rowC (L.set k v)) 3 (0, 0)) → (∀ q, q ≠ g → w'.heap[q]? = w.heap[q]?) → w'.heap.size = w.heap.size → Below g w w' → wpList Tryd.prog ops Q rest (a.put o.dst undef) w') : wpList Tryd.prog ops Q (o :: rest) a w := by
  refine wpList_plain hgd fun K hK => ?_
  have hst := run_storeCells_at (P := Tryd.prog) g k 3 [Value.int .i64 v] 0 (rowC L) w hg (by simp [rowC]; omega) (by simp [Value.oneCell'])
  rw [Nat.add_zero] at hst
  simp only [List.length_cons, List.length_nil, Nat.zero_add] at hst
  have hnew : ((rowC L).toList.take k ++ [Value.int .i64 v] ++ (rowC L).toList.drop (k + 1)).toArray = rowC (L.set k v) := by
    rw [← rowC_set]
    apply Array.ext'
    rw [Array.toList_setIfInBounds, List.set_eq_take_append_cons_drop, if_pos (by simpa [rowC] using hk)]
    simp
  rw [hnew] at hst
  have hrun : (storeVar 3 ⟨g, k, none⟩ (.int .i64 v)).run Tryd.prog w = .ok () (w.setRow g (rowC (L.set k v))) := by
    have hsz : (Tryd.prog.info? 3).map (·.size) = some 1 := by kernel_rfl
    cases hq : Tryd.prog.info? 3 with
    | none => simp [hq] at hsz
    | some i =>
      have hs : i.size = 1 := by simpa [hq] using hsz
      simp [storeVar, sizeOf, typeInfo, hq, hs, Value.cells, hst]
  unfold Oper.wp execOp
  simp only [hop, hx, hy, Instr.storeAt, Instr.sureAddr, Sem.run_bind, Sem.run_pure, Result.andThen_ok, hrun]
  refine hK _ _ (h _ (setRow_heap w g (rowC L) _ _ _ hg) (fun q hq => ?_) (by simp [World.setRow]) (below_setRow (Below.refl _ _) (Nat.le_refl _) _))
  simp only [World.setRow, Array.getElem?_modify]
  rw [if_neg (fun e => hq e.symm)]
end
theorem rd_oth {w w' : World} {a : Option Addr} {b : Nat} {xs : List Int} (h : Rd w a b 0 xs) (hb : w'.heap[b]? = w.heap[b]?) : Rd w' a b 0 xs :=
  ⟨h.1, fun j hj => ⟨(h.2 j hj).1, (World.cell?_of_block (a := ⟨b, 0 + j, none⟩) hb).trans (h.2 j hj).2⟩⟩
/-- What stays while costs are told: the row of them, and what was there before. -/
structure HK (w0 : World) (g : Nat) (L : List Int) (w : World) : Prop where
  got : w.heap[g]? = some (.cells (rowC L) 3 (0, 0))
  lo : w0.heap.size ≤ g
  old : Below w0.heap.size w0 w
theorem HK.lt {w0 : World} {g : Nat} {L : List Int} {w : World} (h : HK w0 g L w) : g < w.heap.size := (Array.getElem?_eq_some_iff.1 h.got).1
theorem HK.below {w0 : World} {g : Nat} {L : List Int} {w w' : World} (h : HK w0 g L w) (hb : Below w.heap.size w w') : HK w0 g L w' := ⟨(hb.block _ h.lt).trans h.got, h.lo, bnext h.old hb⟩
theorem HK.set {w0 : World} {g : Nat} {L M : List Int} {w w' : World} (h : HK w0 g L w) (hg : w'.heap[g]? = some (.cells (rowC M) 3 (0, 0))) (hb : Below g w w') : HK w0 g M w' := ⟨hg, h.lo, h.old.trans (hb.mono h.lo)⟩
theorem HK.cell {w0 : World} {g : Nat} {L : List Int} {w : World} (h : HK w0 g L w) {k : Nat} (hk : k < L.length) : w.cell? ⟨g, k, none⟩ = some (.int .i64 (L.getD k 0)) := blk_cell h.got k _ (rowC_at hk)
/-- Steps of a round, as they come. -/
def stp (G : Net) (i : Nat) (F : Nat → Nat) (js : List Nat) : Nat → Nat := js.foldl (fun F j => G.rl F i j) F
theorem rls_stp (G : Net) (i : Nat) : ∀ (js : List Nat) (F : Nat → Nat), G.rls i js F = stp G i F js
  | [], F => rfl
  | j :: js, F => by
    rw [Net.rls, rls_stp G i js]
    rfl
theorem stp_snoc (G : Net) (i : Nat) (F : Nat → Nat) (js : List Nat) (j : Nat) : stp G i F (js ++ [j]) = G.rl (stp G i F js) i j := by simp [stp]
end Go.Proofs.YtianmmjjcegkjaaDoor
