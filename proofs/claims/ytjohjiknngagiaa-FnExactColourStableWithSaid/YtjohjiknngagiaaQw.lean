import Derived.OrdersHeld
import Derived.RegionTactic
import Derived.Test.YtjohjiknngagiaaQz
import Derived.Test.YtjohjiknngagiaaZa
import Derived.Test.YtjohjiknngagiaaZc
namespace Go.Proofs.Ytjohjiknngagiaa
open Go.RowKit
set_option maxRecDepth 4000
section
variable {P : Program} {ops : Array Oper} {S : World → Prop} {Q : Exit → Act → World → Prop}
/-- An order that may part where two operations are ready. -/
inductive MT | done | take (i : Nat) (t : MT) | sole (i : Nat) (t : MT) | fork (i : Nat) (t : MT) (j : Nat) (u : MT)
def mtN : MT → Nat
  | .done => 0
  | .take _ t => mtN t + 1
  | .sole _ t => mtN t + 1
  | .fork _ t _ _ => mtN t + 1
def mtB (ops : Array Oper) : MT → Array Bool → Bool
  | .done, L => decide (Region.ready .any ops L = [])
  | .take i t, L => (Region.free .any ops L i && (Region.ready .any ops L).contains i) && mtB ops t (L.setIfInBounds i true)
  | .sole i t, L => decide (Region.ready .any ops L = [i]) && mtB ops t (L.setIfInBounds i true)
  | .fork i t j u, L => (decide (Region.ready .any ops L = [i, j]) && decide (mtN u = mtN t)) && (mtB ops t (L.setIfInBounds i true) && mtB ops u (L.setIfInBounds j true))
def wpMT (P : Program) (ops : Array Oper) (S : World → Prop) (Q : Exit → Act → World → Prop) : MT → Act → World → Prop
  | .done, a, w => Q .normal a w
  | .take i t, a, w => ∃ o v, ops[i]? = some o ∧ YieldsIf P ops S o v a ∧ wpMT P ops S Q t (a.put o.dst v) w
  | .sole i t, a, w => wpOp P ops Q i (fun a' w' => S w' ∧ wpMT P ops S Q t a' w') a w
  | .fork i t j u, a, w => wpOp P ops Q i (fun a' w' => S w' ∧ wpMT P ops S Q t a' w') a w ∧ wpOp P ops Q j (fun a' w' => S w' ∧ wpMT P ops S Q u a' w') a w
theorem mt_any (hs : Region.noSelect ops = true) (hQ : ∀ c (a : Act) d v w, Q (.panic c) (a.put d v) w → Q (.panic c) a w) : ∀ (t : MT) (L : Array Bool) (a : Act) (w : World), S w → mtB ops t L = true → wpMT P ops S Q t a w → wpAnyH P .any ops Q S (mtN t) L a w
  | .done, L, a, w, _, hB, h => ⟨by simpa [mtB] using hB, h⟩
  | .take i t, L, a, w, hS, hB, h => by
    simp only [mtB, Bool.and_eq_true] at hB
    obtain ⟨h1, h2⟩ := hB
    obtain ⟨o, v, ho, hy, hk⟩ := h
    exact wpAnyH_take ho hs h1.1 h1.2 (fun c a w => hQ c a _ _ w) hy hS (mt_any hs hQ t _ _ w hS h2 hk)
  | .sole i t, L, a, w, hS, hB, h => by
    simp only [mtB, Bool.and_eq_true] at hB
    obtain ⟨h1, h2⟩ := hB
    have hr : Region.ready .any ops L = [i] := by simpa using h1
    refine wpAnyH_all hr (by simp) (fun j hj => ?_)
    obtain rfl := List.mem_singleton.1 hj
    exact wpOp_mono (fun a' w' h' => ⟨h'.1, mt_any hs hQ t _ a' w' h'.1 h2 h'.2⟩) h
  | .fork i t j u, L, a, w, hS, hB, h => by
    simp only [mtB, Bool.and_eq_true] at hB
    obtain ⟨⟨h1, hn⟩, h2, h3⟩ := hB
    have hr : Region.ready .any ops L = [i, j] := by simpa using h1
    have hn' : mtN u = mtN t := by simpa using hn
    refine wpAnyH_all hr (by simp) (fun k hk => ?_)
    rcases List.mem_cons.1 hk with rfl | hk
    · exact wpOp_mono (fun a' w' h' => ⟨h'.1, mt_any hs hQ t _ a' w' h'.1 h2 h'.2⟩) h.1
    · obtain rfl := List.mem_singleton.1 hk
      exact wpOp_mono (fun a' w' h' => ⟨h'.1, by rw [← hn']; exact mt_any hs hQ u _ a' w' h'.1 h3 h'.2⟩) h.2
theorem mt_done {a : Act} {w : World} (h : Q .normal a w) : wpMT P ops S Q .done a w := h
theorem mt_fork {i j : Nat} {t u : MT} {a : Act} {w : World} (h : wpMT P ops S Q (.sole i t) a w) (k : wpMT P ops S Q (.sole j u) a w) : wpMT P ops S Q (.fork i t j u) a w := ⟨h, k⟩
theorem mt_take {t : MT} {a : Act} {w : World} (i : Nat) (o : Oper) (v : Value) (ho : ops[i]? = some o) (hw : Region.wanted o (yielded ops a.tmps) = true)
    (d : Option Tmp) (hd : o.dst = d) (hv : ∀ w, S w → (execOp a.eval o).run P w = .ok (.value v) w) (h : wpMT P ops S Q t (a.put d v) w) : wpMT P ops S Q (.take i t) a w := by
  subst hd
  exact ⟨o, v, ho, .inl ⟨hw, hv⟩, h⟩
theorem mt_sole {t : MT} {a : Act} {w : World} (i : Nat) (o : Oper) (ho : ops[i]? = some o)
    (h : ∀ K' : Act → World → Prop, (∀ a w, S w ∧ wpMT P ops S Q t a w → K' a w) → if Region.wanted o (yielded ops a.tmps) = true then Oper.wp P o a w K' Q else K' (a.put o.dst undef) w) : wpMT P ops S Q (.sole i t) a w := wpOp_step ho h
theorem mt_call {t : MT} {a : Act} {w : World} (i : Nat) (o : Oper) (ho : ops[i]? = some o) (hw : Region.wanted o (yielded ops a.tmps) = true) (f : FuncId) (args : Array Value) (d : Option Tmp) (hd : o.dst = d)
    (hr : (execOp a.eval o).run P w = .ok (.enter f args) w) (h : Calls P f args w fun e w' => ∃ v, e = .returned v ∧ S w' ∧ wpMT P ops S Q t (a.put d v) w') : wpMT P ops S Q (.sole i t) a w := by
  subst hd
  refine mt_sole i o ho (fun K' hK => ?_)
  rw [if_pos hw]
  unfold Oper.wp
  rw [hr]
  exact h.mono fun e w' ⟨v, he, hS, hm⟩ => by subst he; exact hK _ _ ⟨hS, hm⟩
end
theorem mt_alloc {ops : Array Oper} {S : World → Prop} {Q : Exit → Act → World → Prop} {t : MT} {a : Act} {w : World} {ty : TypeId} (cs : Array Value) (hr : ∀ w, (Instr.alloc ty true (.tuple #[])).run Try.prog w = .ok (.pointer (some ⟨w.heap.size, 0, none⟩)) (w.alloc (.cells cs ty)))
    (i : Nat) (o : Oper) (ho : ops[i]? = some o) (hw : Region.wanted o (yielded ops a.tmps) = true) (hop : o.op = .alloc ty) (d : Option Tmp) (hd : o.dst = d)
    (h : S (w.alloc (.cells cs ty)) ∧ wpMT Try.prog ops S Q t (a.put d (.pointer (some ⟨w.heap.size, 0, none⟩))) (w.alloc (.cells cs ty))) : wpMT Try.prog ops S Q (.sole i t) a w := by
  subst hd
  refine mt_sole i o ho (fun K' hK => ?_)
  rw [if_pos hw]
  unfold Oper.wp
  simp [execOp, hop, hr, Result.andThen]
  exact hK _ _ h
theorem mt_store_blk {ops : Array Oper} {S : World → Prop} {Q : Exit → Act → World → Prop} {t : MT} {a : Act} {w : World} {ty : TypeId} {n : Nat} (bk : Blk ty n) (i : Nat) (o : Oper) (ho : ops[i]? = some o) (hgd : o.guard = none) (x y : Operand) (hop : o.op = .store ty x y) (d : Option Tmp) (hd : o.dst = d)
    (g : Nat) (cells old : Array Value) (hx : a.eval x = .pointer (some ⟨g, 0, none⟩)) (hy : a.eval y = .agg cells)
    (hg : w.heap[g]? = some (.cells old ty (0, 0))) (hold : old.size = n) (hc : cells.size = n) (h1 : cells.all (·.oneCell') = true) (B : Nat) (hB : B ≤ g)
    (h : ∀ w', w'.heap[g]? = some (.cells cells ty (0, 0)) → Below B w w' → (∀ k, k ≠ g → w'.heap[k]? = w.heap[k]?) → w'.heap.size = w.heap.size → S w' ∧ wpMT Try.prog ops S Q t (a.put d undef) w') : wpMT Try.prog ops S Q (.sole i t) a w := by
  subst hd
  refine mt_sole i o ho (fun K' hK => ?_)
  rw [if_pos (by simp [Region.wanted, hgd])]
  refine wp_store_row _ x y hop g cells hx hy _ old hg (by rw [bk.size, hc]) (by omega) h1 ?_
  exact hK _ _ (h _ (setRow_heap w g old cells _ _ hg) (below_setRow (Below.refl _ _) hB _) (fun k hk => by
    simp only [World.setRow, Array.getElem?_modify]
    rw [if_neg (fun e => hk e.symm)]) (by simp [World.setRow]))
theorem wp_region_mt {id : Nat} {Q : Exit → Act → World → Prop} {a : Act} {w : World} {l : List Oper} (S : World → Prop) (t : MT) (hm : Try.prog.follows .mixedOrders = true) (hs : Region.noSelect l.toArray = true)
    (hQ : ∀ c (a : Act) d v w, Q (.panic c) (a.put d v) w → Q (.panic c) a w) (hB : mtB l.toArray t (Array.replicate l.length false) = true) (hlen : mtN t = l.length)
    (hS : S w.drew) (h : wpMT Try.prog l.toArray S Q t a w.drew) : (Code.region id l.toArray true).wp Try.prog Q a w := by
  refine wp_region_held (S := S) hm ?_
  have := mt_any hs hQ t (Array.replicate l.length false) a w.drew hS hB h
  rw [hlen] at this
  simpa using this
end Go.Proofs.Ytjohjiknngagiaa
