import Derived.Test.YtjbdhgomcchoaaaQu
import Derived.OrdersHeld
import Derived.RegionTactic
namespace Go.Proofs.Ytjbdhgomcchoaaa
open Go.RowKit
section
variable {P : Program} {ops : Array Oper} {S : World → Prop} {Q : Exit → Act → World → Prop}
/-- An order in which each operation either yields the same in every world that meets S, or is the one that may come up. -/
def mixB (ops : Array Oper) (sole : List Nat) : List Nat → Array Bool → Bool
  | [], L => decide (Region.ready .any ops L = [])
  | i :: rest, L => (if sole.contains i then decide (Region.ready .any ops L = [i]) else Region.free .any ops L i && (Region.ready .any ops L).contains i) && mixB ops sole rest (L.setIfInBounds i true)
/-- The walk in that order. -/
def wpMix (P : Program) (ops : Array Oper) (S : World → Prop) (Q : Exit → Act → World → Prop) (sole : List Nat) : List Nat → Act → World → Prop
  | [], a, w => Q .normal a w
  | i :: rest, a, w => if sole.contains i then wpOp P ops Q i (fun a' w' => S w' ∧ wpMix P ops S Q sole rest a' w') a w
    else ∃ o v, ops[i]? = some o ∧ YieldsIf P ops S o v a ∧ wpMix P ops S Q sole rest (a.put o.dst v) w
theorem mix_any (hs : Region.noSelect ops = true) (hQ : ∀ c (a : Act) d v w, Q (.panic c) (a.put d v) w → Q (.panic c) a w) (sole : List Nat) : ∀ (ord : List Nat) (L : Array Bool) (a : Act) (w : World), S w → mixB ops sole ord L = true → wpMix P ops S Q sole ord a w → wpAnyH P .any ops Q S ord.length L a w
  | [], L, a, w, _, hB, h => ⟨by simpa [mixB] using hB, h⟩
  | i :: rest, L, a, w, hS, hB, h => by
    simp only [mixB, Bool.and_eq_true] at hB
    obtain ⟨h1, h2⟩ := hB
    unfold wpMix at h
    by_cases hi : sole.contains i = true
    · rw [if_pos hi] at h1 h
      have hr : Region.ready .any ops L = [i] := by simpa using h1
      refine wpAnyH_all hr (by simp) (fun j hj => ?_)
      obtain rfl := List.mem_singleton.1 hj
      exact wpOp_mono (fun a' w' h' => ⟨h'.1, mix_any hs hQ sole rest _ a' w' h'.1 h2 h'.2⟩) h
    · rw [if_neg hi] at h1 h
      simp only [Bool.and_eq_true] at h1
      obtain ⟨o, v, ho, hy, hk⟩ := h
      exact wpAnyH_take ho hs h1.1 h1.2 (fun c a w => hQ c a _ _ w) hy hS (mix_any hs hQ sole rest _ _ w hS h2 hk)
theorem mix_done {sole : List Nat} {a : Act} {w : World} (h : Q .normal a w) : wpMix P ops S Q sole [] a w := h
theorem mix_take {sole rest : List Nat} {a : Act} {w : World} (i : Nat) (o : Oper) (v : Value) (hi : sole.contains i = false) (ho : ops[i]? = some o) (hw : Region.wanted o (yielded ops a.tmps) = true)
    (d : Option Tmp) (hd : o.dst = d) (hv : ∀ w, S w → (execOp a.eval o).run P w = .ok (.value v) w) (h : wpMix P ops S Q sole rest (a.put d v) w) : wpMix P ops S Q sole (i :: rest) a w := by
  subst hd
  unfold wpMix
  rw [hi]
  exact ⟨o, v, ho, .inl ⟨hw, hv⟩, h⟩
theorem mix_sole {sole rest : List Nat} {a : Act} {w : World} (i : Nat) (o : Oper) (hi : sole.contains i = true) (ho : ops[i]? = some o)
    (h : ∀ K' : Act → World → Prop, (∀ a w, S w ∧ wpMix P ops S Q sole rest a w → K' a w) → if Region.wanted o (yielded ops a.tmps) = true then Oper.wp P o a w K' Q else K' (a.put o.dst undef) w) : wpMix P ops S Q sole (i :: rest) a w := by
  unfold wpMix
  rw [if_pos hi]
  exact wpOp_step ho h
/-- A call of a Go function, the one operation that may come up. -/
theorem mix_call {sole rest : List Nat} {a : Act} {w : World} (i : Nat) (o : Oper) (hi : sole.contains i = true) (ho : ops[i]? = some o) (hw : Region.wanted o (yielded ops a.tmps) = true) (f : FuncId) (args : Array Value) (d : Option Tmp) (hd : o.dst = d)
    (hr : (execOp a.eval o).run P w = .ok (.enter f args) w) (h : Calls P f args w fun e w' => ∃ v, e = .returned v ∧ S w' ∧ wpMix P ops S Q sole rest (a.put d v) w') : wpMix P ops S Q sole (i :: rest) a w := by
  subst hd
  refine mix_sole i o hi ho (fun K' hK => ?_)
  rw [if_pos hw]
  unfold Oper.wp
  rw [hr]
  exact h.mono fun e w' ⟨v, he, hS, hm⟩ => by subst he; exact hK _ _ ⟨hS, hm⟩
end
theorem exec_row {o : Oper} {a : Act} {w : World} (ty : TypeId) (x : Operand) (ho : o.op = .load ty x) (g : Nat) (hx : a.eval x = .pointer (some ⟨g, 0, none⟩)) (cs : Array Value)
    (hl : (loadVar ty ⟨g, 0, none⟩).run Try.prog w = .ok (.agg cs) w) : (execOp a.eval o).run Try.prog w = .ok (.value (.agg cs)) w := by
  unfold execOp
  simp only [ho, hx, Instr.loadAt, Instr.sureAddr, Sem.run_bind, Sem.run_pure, Result.andThen_ok, hl]
theorem wp_region_mix {id : Nat} {Q : Exit → Act → World → Prop} {a : Act} {w : World} {l : List Oper} (S : World → Prop) (sole ord : List Nat) (hm : Try.prog.follows .mixedOrders = true) (hs : Region.noSelect l.toArray = true)
    (hQ : ∀ c (a : Act) d v w, Q (.panic c) (a.put d v) w → Q (.panic c) a w) (hB : mixB l.toArray sole ord (Array.replicate l.length false) = true) (hlen : ord.length = l.length)
    (hS : S w.drew) (h : wpMix Try.prog l.toArray S Q sole ord a w.drew) : (Code.region id l.toArray true).wp Try.prog Q a w := by
  refine wp_region_held (S := S) hm ?_
  have := mix_any hs hQ sole ord (Array.replicate l.length false) a w.drew hS hB h
  rw [hlen] at this
  simpa using this
end Go.Proofs.Ytjbdhgomcchoaaa
