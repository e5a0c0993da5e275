import Derived.Test.YtncpnkcdjfohgaaDoorZc
import Derived.Test.YtncpnkcdjfohgaaDoorZa
namespace Go.Proofs.YtncpnkcdjfohgaaDoor
open Go.RowKit
set_option maxRecDepth 4000
theorem mix_store_blk {ops : Array Oper} {S : World → Prop} {Q : Exit → Act → World → Prop} {sole rest : List Nat} {a : Act} {w : World} {ty : TypeId} {n : Nat} (bk : Blk ty n) (i : Nat) (o : Oper) (hi : sole.contains i = true) (ho : ops[i]? = some o) (hgd : o.guard = none) (x y : Operand) (hop : o.op = .store ty x y) (d : Option Tmp) (hd : o.dst = d)
    (g : Nat) (cells old : Array Value) (hx : a.eval x = .pointer (some ⟨g, 0, none⟩)) (hy : a.eval y = .agg cells)
    (hg : w.heap[g]? = some (.cells old ty (0, 0))) (hold : old.size = n) (hc : cells.size = n) (h1 : cells.all (·.oneCell') = true) (B : Nat) (hB : B ≤ g)
    (h : ∀ w', w'.heap[g]? = some (.cells cells ty (0, 0)) → Below B w w' → (∀ k, k ≠ g → w'.heap[k]? = w.heap[k]?) → w'.heap.size = w.heap.size → S w' ∧ wpMix Tryd.prog ops S Q sole rest (a.put d undef) w') : wpMix Tryd.prog ops S Q sole (i :: rest) a w := by
  subst hd
  refine mix_sole i o hi ho (fun K' hK => ?_)
  rw [if_pos (by simp [Region.wanted, hgd])]
  refine wp_store_row _ x y hop g cells hx hy _ old hg (by rw [bk.size, hc]) (by omega) h1 ?_
  exact hK _ _ (h _ (setRow_heap w g old cells _ _ hg) (below_setRow (Below.refl _ _) hB _) (fun k hk => by
    simp only [World.setRow, Array.getElem?_modify]
    rw [if_neg (fun e => hk e.symm)]) (by simp [World.setRow]))
end Go.Proofs.YtncpnkcdjfohgaaDoor
